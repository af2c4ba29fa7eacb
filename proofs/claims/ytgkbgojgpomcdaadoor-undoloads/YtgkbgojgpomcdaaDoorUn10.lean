
/-
  undo.Undo, Redo.
-/
import Derived.Test.YtgkbgojgpomcdaaDoorUn9
namespace Go.Proofs.YtgkbgojgpomcdaaDoor
open Go.RowKit Go.Extern.Stop Go.Stop Go.Extern
set_option maxRecDepth 100000

/-- What moveNewest leaves. -/
def MvR (N g n cap : Nat) (vt : Value) (ls ms : List Value) (vm : Value) (x : World) : Prop := OwnV (.slice (some ⟨g, 0, none⟩) n cap) ls x ∧ OwnV vm ms x ∧ ∀ k, vm.ownBlock = some k → vt.ownBlock = some k ∨ N ≤ k
def MvT (N g n cap : Nat) (vt : Value) (ls ms : List Value) (v : Value) (x : World) : Prop := ∃ vm, v = .tuple #[.slice (some ⟨g, 0, none⟩) n cap, vm] ∧ MvR N g n cap vt ls ms vm x
theorem MvR.later {N g n cap : Nat} {vt : Value} {ls ms : List Value} {vm : Value} {x x' : World} (h : MvR N g n cap vt ls ms vm x) (hb : Below x.heap.size x x') : MvR N g n cap vt ls ms vm x' := ⟨h.1.later hb, h.2.1.later hb, h.2.2⟩
theorem MvT.later {N g n cap : Nat} {vt : Value} {ls ms : List Value} {v : Value} {x x' : World} (h : MvT N g n cap vt ls ms v x) (hb : Below x.heap.size x x') : MvT N g n cap vt ls ms v x' := by
  obtain ⟨vm, h1, h2⟩ := h
  exact ⟨vm, h1, h2.later hb⟩
theorem MvR.ch {N g n cap : Nat} {vt : Value} {ls ms : List Value} {vm : Value} {S : Nat → Prop} {x x' : World} (h : MvR N g n cap vt ls ms vm x) (c : Ch S x x') (hn : ∀ k, k = g ∨ vt.ownBlock = some k ∨ N ≤ k → ¬ S k) : MvR N g n cap vt ls ms vm x' := ⟨h.1.ch c (fun k hk => hn k (.inl (by cases hk; rfl))), h.2.1.ch c (fun k hk => hn k (.inr (h.2.2 k hk))), h.2.2⟩
theorem MvT.ch {N g n cap : Nat} {vt : Value} {ls ms : List Value} {v : Value} {S : Nat → Prop} {x x' : World} (h : MvT N g n cap vt ls ms v x) (c : Ch S x x') (hn : ∀ k, k = g ∨ vt.ownBlock = some k ∨ N ≤ k → ¬ S k) : MvT N g n cap vt ls ms v x' := by
  obtain ⟨vm, h1, h2⟩ := h
  exact ⟨vm, h1, h2.ch c hn⟩
/-- The worlds within the statement. -/
def GU (B g : Nat) (vt : Value) (w : World) (k : Nat) (x : World) : Prop := match k with
  | 0 => Below w.heap.size w x
  | 1 => Ch (fun k => k = g ∨ vt.ownBlock = some k) w x
  | _ + 2 => Ch (fun k => (k = g ∨ vt.ownBlock = some k) ∨ k = B) w x
theorem GU.later {B g : Nat} {vt : Value} {w : World} {k : Nat} {x x' : World} (h : GU B g vt w k x) (hb : Below x.heap.size x x') : GU B g vt w k x' := by
  match k, h with
  | 0, h => exact bgo h hb
  | 1, h => exact Ch.later h hb
  | k + 2, h => exact Ch.later h hb
set_option maxHeartbeats 4000000 in
theorem undo_yes {B n : Nat} {vd vu : Value} {F : Nat → Prop} {d u : List (List Xg)} {l : List Xg} {w : World} (h : SkAt 68 B vd vu F d u w) (hn : d.length = n + 1) (hl : d[n]? = some l) :
    Calls Tryd.prog 25 #[.pointer (some ⟨B, 0, none⟩)] w fun e w' => ∃ v vd9 vu9 F9, e = .returned (.tuple #[v, .nilIface]) ∧ NwX w.heap.size v (bkL l) w' ∧ (∀ k, v.ownBlock = some k → ¬ F9 k) ∧ SkAt 68 B vd9 vu9 F9 (d.take n) (nwL u l) w' ∧ Ch F w w' ∧ ∀ k, F9 k → F k ∨ w.heap.size ≤ k := by
  have HP := hid_of' (peekUndo_yes h hn hl)
  have H := hid_of' (And.intro h (And.intro hn hl))
  clear h hn hl
  go_enter Tryd.func25, Tryd.ntmps25
  go_upto_region 4 with (go_at_call 35; (with_reducible refine HP.out.mono ?_); rintro e w1 ⟨v0, rfl, hv0, hb1⟩; clear HP; obtain ⟨av, cv, hv9, _⟩ := Rw.form hv0.1; generalize List.length _ = nv at hv9; subst hv9; have HV := hid_of' (And.intro hv0 hb1); clear hv0 hb1)
  obtain ⟨h, hn, hl⟩ := H.out
  replace h := h.later HV.out.2
  obtain ⟨us, hO, hE⟩ := h.rd.open
  obtain ⟨ub, hO2, hE2⟩ := h.ru.open
  obtain ⟨ul, hul, hed⟩ := hE.at hl
  have hus : us.length = n + 1 := by rw [hE.1, hn]
  obtain ⟨g, cap, hvf, _, _⟩ := hO.at hul
  rw [hus] at hvf
  subst hvf
  obtain ⟨ab, cb, hvt⟩ := hO2.form
  have hubl : ub.length ≤ 64 := by rw [hE2.1]; exact h.lu
  generalize hnb : ub.length = nb at hvt
  subst hvt
  have hap : ¬ Value.ownBlock (.slice ab nb cb) = some g := fun q => h.apart g rfl q
  have hgB : ¬ g = B := h.dne (by decide) g rfl
  have htB : ∀ k, Value.ownBlock (.slice ab nb cb) = some k → ¬ k = B := h.une (by decide)
  have hln := h.ld
  have HO := hid_of' (And.intro hO (And.intro hus (And.intro hul (And.intro hO2 (And.intro (by omega : n ≤ 64) (And.intro hubl hap))))))
  have HR := hid_of' h.lies
  have HBN : Hid (¬ (B = g ∨ Value.ownBlock (.slice ab nb cb) = some B)) := fun q => q.elim (fun e => hgB e.symm) (fun e => htB B e rfl)
  have hBl : B < w1.heap.size := h.lies.lt
  have HGB : Hid (∀ k, k = g ∨ Value.ownBlock (.slice ab nb cb) = some k ∨ w1.heap.size ≤ k → ¬ k = B) := fun k hk e => by
    rcases hk with q | q | q
    · exact hgB (q.symm.trans e)
    · exact htB k q e
    · omega
  have HK := hid_of' (And.intro h (And.intro hE (And.intro hE2 hed)))
  clear h hn hl hO hE hO2 hE2 hul hed hus hubl hap hgB htB hln hBl hnb
  refine wp_region_seqE 17 (by kernel_rfl) (fun _ => none) (by kernel_rfl) (by kernel_rfl) (by decide) (fun i v x => match i with
    | 0 => v = .pointer (some ⟨B, 0, none⟩)
    | 1 => v = .pointer (some ⟨B, 0, none⟩)
    | 2 => v = .pointer (some ⟨B, 0, none⟩)
    | 3 => v = .pointer (some ⟨B, 0, none⟩)
    | 4 => v = .pointer (some ⟨B, 0, none⟩)
    | 5 => v = .slice (some ⟨g, 0, none⟩) (n + 1) cap
    | 6 => v = .pointer (some ⟨B, 0, none⟩)
    | 7 => v = .pointer (some ⟨B, 0, none⟩)
    | 8 => v = .pointer (some ⟨B, 1, none⟩)
    | 9 => v = .slice ab nb cb
    | 10 => MvT w1.heap.size g n cap (.slice ab nb cb) (us.take n) (nwL ub ul) v x
    | 11 => MvT w1.heap.size g n cap (.slice ab nb cb) (us.take n) (nwL ub ul) v x
    | 12 => v = .slice (some ⟨g, 0, none⟩) n cap
    | 13 => MvR w1.heap.size g n cap (.slice ab nb cb) (us.take n) (nwL ub ul) v x
    | 14 => v = .pointer (some ⟨B, 0, none⟩)
    | 15 => v = .pointer (some ⟨B, 0, none⟩)
    | 16 => RowAt B #[.slice (some ⟨g, 0, none⟩) n cap, .slice ab nb cb] 68 x
    | _ => True) (fun _ => false) ?_ [10, 16] (by decide) (by decide) (fun k x => GU B g (.slice ab nb cb) w1 k x) (fun c a b => c = 16 → Ch (fun k => k = B) a b) (fun k x x' hG hb => GU.later hG hb) (fun _ h => h) ?_ ?_ ?_ ?_
  · intro j v x b hj
    cases hj
  · intro i v x x' hR hb
    match i, hR with
    | 0, h => exact h
    | 1, h => exact h
    | 2, h => exact h
    | 3, h => exact h
    | 4, h => exact h
    | 5, h => exact h
    | 6, h => exact h
    | 7, h => exact h
    | 8, h => exact h
    | 9, h => exact h
    | 10, h => exact h.later hb
    | 11, h => exact h.later hb
    | 12, h => exact h
    | 13, h => exact h.later hb
    | 14, h => exact h
    | 15, h => exact h
    | 16, h => exact h.later hb
    | m + 17, h => exact h
  · intro cc i v x x' hcc hne hanc hR hb
    match i, hne, hanc, hR with
    | 0, hne, hanc, h => exact h
    | 1, hne, hanc, h => exact h
    | 2, hne, hanc, h => exact h
    | 3, hne, hanc, h => exact h
    | 4, hne, hanc, h => exact h
    | 5, hne, hanc, h => exact h
    | 6, hne, hanc, h => exact h
    | 7, hne, hanc, h => exact h
    | 8, hne, hanc, h => exact h
    | 9, hne, hanc, h => exact h
    | 10, hne, hanc, h =>
      rcases List.mem_cons.1 hcc with q | q
      · subst q; exact absurd rfl hne
      · exact h.ch (hb (List.mem_singleton.1 q)) HGB.out
    | 11, hne, hanc, h =>
      rcases List.mem_cons.1 hcc with q | q
      · subst q; exact absurd hanc (by rw [show ancB _ 24 10 11 = true by kernel_rfl]; decide)
      · exact h.ch (hb (List.mem_singleton.1 q)) HGB.out
    | 12, hne, hanc, h => exact h
    | 13, hne, hanc, h =>
      rcases List.mem_cons.1 hcc with q | q
      · subst q; exact absurd hanc (by rw [show ancB _ 24 10 13 = true by kernel_rfl]; decide)
      · exact h.ch (hb (List.mem_singleton.1 q)) HGB.out
    | 14, hne, hanc, h => exact h
    | 15, hne, hanc, h => exact h
    | 16, hne, hanc, h =>
      rcases List.mem_cons.1 hcc with q | q
      · subst q; exact absurd hanc (by rw [show ancB _ 24 10 16 = true by kernel_rfl]; decide)
      · exact absurd (List.mem_singleton.1 q).symm hne
    | m + 17, hne, hanc, h => exact h
  · intro i o hi ho q x vals kk hG hlo hhi hdep hoth
    have t0 : q.tmps[0]? = some (.pointer (some ⟨B, 0, none⟩)) := by rw [hoth 0 (by kernel_rfl)]; rfl
    match i, hi, ho, hlo, hhi with
    | 0, _, ho, hlo, hhi =>
      simp only [List.getElem?_cons_zero, Option.some.injEq] at ho
      subst ho
      unfold Oper.wp
      simp [execOp, go_sem, t0]
      exact cameDB _ rfl (by decide) (Below.refl _ _) rfl (fun h => absurd h (by decide))
    | 1, _, ho, hlo, hhi =>
      simp only [List.getElem?_cons_succ, List.getElem?_cons_zero, Option.some.injEq] at ho
      subst ho
      unfold Oper.wp
      simp [execOp, go_sem, t0]
      exact cameDB _ rfl (by decide) (Below.refl _ _) rfl (fun h => absurd h (by decide))
    | 2, _, ho, hlo, hhi =>
      simp only [List.getElem?_cons_succ, List.getElem?_cons_zero, Option.some.injEq] at ho
      subst ho
      unfold Oper.wp
      simp [execOp, go_sem, t0]
      exact cameDB _ rfl (by decide) (Below.refl _ _) rfl (fun h => absurd h (by decide))
    | 3, _, ho, hlo, hhi =>
      simp only [List.getElem?_cons_succ, List.getElem?_cons_zero, Option.some.injEq] at ho
      subst ho
      obtain ⟨u2, e2⟩ := hdep ⟨2, .data⟩ (by simp) rfl _ 17 rfl rfl
      rw [show vals 2 = .pointer (some ⟨B, 0, none⟩) from e2] at u2
      unfold Oper.wp
      simp [execOp, go_sem, u2]
      exact cameDB _ rfl (by decide) (Below.refl _ _) rfl (fun h => absurd h (by decide))
    | 4, _, ho, hlo, hhi =>
      simp only [List.getElem?_cons_succ, List.getElem?_cons_zero, Option.some.injEq] at ho
      subst ho
      obtain ⟨u3, e3⟩ := hdep ⟨3, .data⟩ (by simp) rfl _ 18 rfl rfl
      rw [show vals 3 = .pointer (some ⟨B, 0, none⟩) from e3] at u3
      unfold Oper.wp
      simp [execOp, go_sem, u3]
      exact cameDB _ rfl (by decide) (Below.refl _ _) rfl (fun h => absurd h (by decide))
    | 5, _, ho, hlo, hhi =>
      simp only [List.getElem?_cons_succ, List.getElem?_cons_zero, Option.some.injEq] at ho
      subst ho
      obtain ⟨u4, e4⟩ := hdep ⟨4, .data⟩ (by simp) rfl _ 19 rfl rfl
      rw [show vals 4 = .pointer (some ⟨B, 0, none⟩) from e4] at u4
      obtain rfl : kk = 0 := Nat.le_zero.1 (Nat.le_trans hhi (Nat.le_of_eq (by kernel_rfl)))
      have hb0 : Below w1.heap.size w1 x := hG
      have cc : x.cell? ⟨B, 0, none⟩ = some (.slice (some ⟨g, 0, none⟩) (n + 1) cap) := (HR.out.later hb0).cellIs 0 rfl
      unfold Oper.wp
      simp [execOp, go_sem, u4, cc]
      exact cameDB _ rfl (by decide) (Below.refl _ _) rfl (fun h => absurd h (by decide))
    | 6, _, ho, hlo, hhi =>
      simp only [List.getElem?_cons_succ, List.getElem?_cons_zero, Option.some.injEq] at ho
      subst ho
      unfold Oper.wp
      simp [execOp, go_sem, t0]
      exact cameDB _ rfl (by decide) (Below.refl _ _) rfl (fun h => absurd h (by decide))
    | 7, _, ho, hlo, hhi =>
      simp only [List.getElem?_cons_succ, List.getElem?_cons_zero, Option.some.injEq] at ho
      subst ho
      obtain ⟨u6, e6⟩ := hdep ⟨6, .data⟩ (by simp) rfl _ 21 rfl rfl
      rw [show vals 6 = .pointer (some ⟨B, 0, none⟩) from e6] at u6
      unfold Oper.wp
      simp [execOp, go_sem, u6]
      exact cameDB _ rfl (by decide) (Below.refl _ _) rfl (fun h => absurd h (by decide))
    | 8, _, ho, hlo, hhi =>
      simp only [List.getElem?_cons_succ, List.getElem?_cons_zero, Option.some.injEq] at ho
      subst ho
      obtain ⟨u7, e7⟩ := hdep ⟨7, .data⟩ (by simp) rfl _ 22 rfl rfl
      rw [show vals 7 = .pointer (some ⟨B, 0, none⟩) from e7] at u7
      unfold Oper.wp
      simp [execOp, go_sem, u7]
      exact cameDB _ rfl (by decide) (Below.refl _ _) rfl (fun h => absurd h (by decide))
    | 9, _, ho, hlo, hhi =>
      simp only [List.getElem?_cons_succ, List.getElem?_cons_zero, Option.some.injEq] at ho
      subst ho
      obtain ⟨u8, e8⟩ := hdep ⟨8, .data⟩ (by simp) rfl _ 23 rfl rfl
      rw [show vals 8 = .pointer (some ⟨B, 1, none⟩) from e8] at u8
      obtain rfl : kk = 0 := Nat.le_zero.1 (Nat.le_trans hhi (Nat.le_of_eq (by kernel_rfl)))
      have hb0 : Below w1.heap.size w1 x := hG
      have cc : x.cell? ⟨B, 1, none⟩ = some (.slice ab nb cb) := (HR.out.later hb0).cellIs 1 rfl
      unfold Oper.wp
      simp [execOp, go_sem, u8, cc]
      exact cameDB _ rfl (by decide) (Below.refl _ _) rfl (fun h => absurd h (by decide))
    | 10, _, ho, hlo, hhi =>
      simp only [List.getElem?_cons_succ, List.getElem?_cons_zero, Option.some.injEq] at ho
      subst ho
      obtain ⟨u5, e5⟩ := hdep ⟨5, .data⟩ (by simp) rfl _ 20 rfl rfl
      rw [show vals 5 = .slice (some ⟨g, 0, none⟩) (n + 1) cap from e5] at u5
      obtain ⟨u9, e9⟩ := hdep ⟨9, .data⟩ (by simp) rfl _ 24 rfl rfl
      rw [show vals 9 = .slice ab nb cb from e9] at u9
      obtain rfl : kk = 0 := Nat.le_zero.1 (Nat.le_trans hhi (Nat.le_of_eq (by kernel_rfl)))
      have hb0 : Below w1.heap.size w1 x := hG
      unfold Oper.wp
      simp [go_sem, u5, u9]
      refine (moveNewest_ok (HO.out.1.later hb0) HO.out.2.1 HO.out.2.2.1 (HO.out.2.2.2.1.later hb0) HO.out.2.2.2.2.1 HO.out.2.2.2.2.2.1 HO.out.2.2.2.2.2.2).mono ?_
      rintro r x1 ⟨vm, rfl, q1, q2, q3, q4⟩
      exact cameDX _ rfl (by decide) ⟨fun e => absurd e (by decide), (Ch.of hb0).trans q4, q4.size⟩ ⟨vm, rfl, q1, q2, fun k hk => (q3 k hk).imp id (fun q => by have := hb0.size; omega)⟩ rfl
    | 11, _, ho, hlo, hhi =>
      simp only [List.getElem?_cons_succ, List.getElem?_cons_zero, Option.some.injEq] at ho
      subst ho
      obtain ⟨u10, e10⟩ := hdep ⟨10, .data⟩ (by simp) rfl _ 25 rfl rfl
      unfold Oper.wp
      simp [execOp, go_sem, u10]
      exact cameDB _ rfl (by decide) (Below.refl _ _) e10 (fun h => absurd h (by decide))
    | 12, _, ho, hlo, hhi =>
      simp only [List.getElem?_cons_succ, List.getElem?_cons_zero, Option.some.injEq] at ho
      subst ho
      obtain ⟨u11, e11⟩ := hdep ⟨11, .data⟩ (by simp) rfl _ 14 rfl rfl
      obtain ⟨vm, h11, _⟩ : MvT w1.heap.size g n cap (.slice ab nb cb) (us.take n) (nwL ub ul) (vals 11) x := e11
      rw [h11] at u11
      unfold Oper.wp
      simp [execOp, go_sem, u11]
      exact cameDB _ rfl (by decide) (Below.refl _ _) rfl (fun h => absurd h (by decide))
    | 13, _, ho, hlo, hhi =>
      simp only [List.getElem?_cons_succ, List.getElem?_cons_zero, Option.some.injEq] at ho
      subst ho
      obtain ⟨u11, e11⟩ := hdep ⟨11, .data⟩ (by simp) rfl _ 14 rfl rfl
      obtain ⟨vm, h11, hm⟩ : MvT w1.heap.size g n cap (.slice ab nb cb) (us.take n) (nwL ub ul) (vals 11) x := e11
      rw [h11] at u11
      unfold Oper.wp
      simp [execOp, go_sem, u11]
      exact cameDB _ rfl (by decide) (Below.refl _ _) hm (fun h => absurd h (by decide))
    | 14, _, ho, hlo, hhi =>
      simp only [List.getElem?_cons_succ, List.getElem?_cons_zero, Option.some.injEq] at ho
      subst ho
      obtain ⟨u0, e0⟩ := hdep ⟨0, .data⟩ (by simp) rfl _ 15 rfl rfl
      rw [show vals 0 = .pointer (some ⟨B, 0, none⟩) from e0] at u0
      unfold Oper.wp
      simp [execOp, go_sem, u0]
      exact cameDB _ rfl (by decide) (Below.refl _ _) rfl (fun h => absurd h (by decide))
    | 15, _, ho, hlo, hhi =>
      simp only [List.getElem?_cons_succ, List.getElem?_cons_zero, Option.some.injEq] at ho
      subst ho
      obtain ⟨u14, e14⟩ := hdep ⟨14, .data⟩ (by simp) rfl _ 28 rfl rfl
      rw [show vals 14 = .pointer (some ⟨B, 0, none⟩) from e14] at u14
      unfold Oper.wp
      simp [execOp, go_sem, u14]
      exact cameDB _ rfl (by decide) (Below.refl _ _) rfl (fun h => absurd h (by decide))
    | 16, _, ho, hlo, hhi =>
      simp only [List.getElem?_cons_succ, List.getElem?_cons_zero, Option.some.injEq] at ho
      subst ho
      obtain ⟨u15, e15⟩ := hdep ⟨15, .data⟩ (by simp) rfl _ 29 rfl rfl
      rw [show vals 15 = .pointer (some ⟨B, 0, none⟩) from e15] at u15
      obtain ⟨u12, e12⟩ := hdep ⟨12, .data⟩ (by simp) rfl _ 26 rfl rfl
      rw [show vals 12 = .slice (some ⟨g, 0, none⟩) n cap from e12] at u12
      obtain rfl : kk = 1 := Nat.le_antisymm (Nat.le_trans hhi (Nat.le_of_eq (by kernel_rfl))) (Nat.le_trans (Nat.le_of_eq (by kernel_rfl)) hlo)
      have hc0 : Ch (fun k => k = g ∨ Value.ownBlock (.slice ab nb cb) = some k) w1 x := hG
      have rX := HR.out.ch hc0 HBN.out
      have cc : x.cell? ⟨B, 0, none⟩ = some (.slice (some ⟨g, 0, none⟩) (n + 1) cap) := rX.cellIs 0 rfl
      have ff := rX.froz 0
      unfold Oper.wp
      simp [execOp, go_sem, u15, u12, cc, ff]
      exact cameDX undef rfl (by decide) ⟨fun _ => (Ch.refl (fun k => k = B) x).set (p := ⟨B, 0, none⟩) (.inl rfl) (.slice (some ⟨g, 0, none⟩) n cap), (hc0.mono (fun s q => .inl (.inl q))).set (p := ⟨B, 0, none⟩) (.inl (.inr rfl)) (.slice (some ⟨g, 0, none⟩) n cap), by simp [World.setCell]⟩ (rX.setc 0 (.slice (some ⟨g, 0, none⟩) n cap)) rfl
    | m + 17, hi, _, _, _ => exact absurd hi (by omega)
  · intro vals x hX hR _
    have e1 : vals 1 = .pointer (some ⟨B, 0, none⟩) := hR 1 (by decide)
    obtain ⟨p1, p2, p3⟩ : MvR w1.heap.size g n cap (.slice ab nb cb) (us.take n) (nwL ub ul) (vals 13) x := hR 13 (by decide)
    have rX : RowAt B #[.slice (some ⟨g, 0, none⟩) n cap, .slice ab nb cb] 68 x := hR 16 (by decide)
    have hC : Ch (fun k => (k = g ∨ Value.ownBlock (.slice ab nb cb) = some k) ∨ k = B) w1 x := hX
    obtain ⟨am, cm, hvm⟩ := p2.form
    generalize (nwL ub ul).length = nm at hvm
    rw [hvm] at p2 p3
    have k1 := rX.cellIs 1 rfl
    have f1 := rX.froz 1
    have r2 := rX.setc 1 (.slice am nm cm)
    obtain ⟨h, hE, hE2, hed⟩ := HK.out
    obtain ⟨hO, hus, hul, hO2, hn64, hub, hap⟩ := HO.out
    have c2 : Ch (fun k => (k = g ∨ Value.ownBlock (.slice ab nb cb) = some k) ∨ k = B) w1 (x.setCell ⟨B, 1, none⟩ (.slice am nm cm)) := hC.set (p := ⟨B, 1, none⟩) (.inl (.inr rfl)) _
    have cB : Ch (fun k => k = B) x (x.setCell ⟨B, 1, none⟩ (.slice am nm cm)) := (Ch.refl (fun k => k = B) x).set (p := ⟨B, 1, none⟩) (.inl rfl) _
    have p1' := p1.ch cB (fun k hk => HGB.out k (.inl (by cases hk; rfl)))
    have p2' := p2.ch cB (fun k hk => HGB.out k (.inr (p3 k hk)))
    have hS : ∀ k, ((k = g ∨ Value.ownBlock (.slice ab nb cb) = some k) ∨ k = B) → k < w1.heap.size → ¬ ∃ cur, w1.heap[k]? = some (.cells cur 66 (0, 0)) := fun k hk _ hc => by
      obtain ⟨cur, hc⟩ := hc
      rcases hk with (hk | hk) | hk
      · obtain ⟨cur', hc'⟩ := hO.1.typ g rfl
        rw [hk, hc'] at hc
        simp at hc
      · obtain ⟨cur', hc'⟩ := hO2.1.typ k hk
        rw [hc'] at hc
        simp at hc
      · exact typ_ne h.lies hc (by decide) hk
    have hE' := hE.apartOf c2 hS
    have hE2' := hE2.apartOf c2 hS
    have hed' : EdAt F ul l (x.setCell ⟨B, 1, none⟩ (.slice am nm cm)) := hE'.2 n ul l hul (by rw [show d[n]? = some l from H.out.2.2])
    have hFl : ∀ k, ((k = g ∨ Value.ownBlock (.slice ab nb cb) = some k) ∨ k = B) → F k := fun k hk => by
      rcases hk with (hk | hk) | hk
      · rw [hk]; exact h.fd g rfl
      · exact h.fu k hk
      · rw [hk]; exact h.fB
    have hlw : ∀ k, F k → k < w.heap.size := H.out.1.lt
    have hltm : ∀ k, Value.ownBlock (.slice am nm cm) = some k → k < (x.setCell ⟨B, 1, none⟩ (.slice am nm cm)).heap.size := p2'.1.lt
    have hltl : g < (x.setCell ⟨B, 1, none⟩ (.slice am nm cm)).heap.size := p1'.1.lt g rfl
    have hb1 := HV.out.2.size
    have HY : Hid (∃ vd9 vu9 F9, NwX w.heap.size (.slice av nv cv) (bkL l) (x.setCell ⟨B, 1, none⟩ (.slice am nm cm)) ∧ (∀ k, Value.ownBlock (.slice av nv cv) = some k → ¬ F9 k) ∧ SkAt 68 B vd9 vu9 F9 (d.take n) (nwL u l) (x.setCell ⟨B, 1, none⟩ (.slice am nm cm)) ∧ Ch F w (x.setCell ⟨B, 1, none⟩ (.slice am nm cm)) ∧ ∀ k, F9 k → F k ∨ w.heap.size ≤ k) := by
      refine ⟨(.slice (some ⟨g, 0, none⟩) n cap), (.slice am nm cm), fun k => (F k ∨ w1.heap.size ≤ k) ∧ k < (x.setCell ⟨B, 1, none⟩ (.slice am nm cm)).heap.size, ⟨Rw.ch HV.out.1.1 c2 (fun k hk hs => ?_), HV.out.1.2⟩, fun k hk hf => ?_, ⟨r2, ?_, ?_, ?_, ?_, ?_, ⟨.inl h.fB, r2.lt⟩, ?_, ?_, fun k hk => hk.2⟩, ?_, fun k hk => hk.1.imp id (fun q => by omega)⟩
      · have := hlw k (hFl k hs)
        have := HV.out.1.2 k hk
        omega
      · have := Rw.lt HV.out.1.1 k hk
        have := HV.out.1.2 k hk
        rcases hf.1 with q | q
        · have := hlw k q
          omega
        · omega
      · exact ERow.of p1' ((hE'.take n).mono (fun k hk hq => ⟨.inl hk, hq⟩))
      · exact ERow.of p2' (EsAt.nw (hE2'.mono (fun k hk hq => ⟨.inl hk, hq⟩)) (hed'.mono (fun k hk hq => ⟨.inl hk, hq⟩)))
      · intro k hk hk'
        cases hk
        rcases p3 g hk' with q | q
        · exact hap q
        · have := hlw g (h.fd g rfl); omega
      · rw [List.length_take]; omega
      · exact nwL_len u l h.lu
      · exact fun k hk => by cases hk; exact ⟨.inl (h.fd g rfl), hltl⟩
      · exact fun k hk => ⟨(p3 k hk).imp (h.fu k) id, hltm k hk⟩
      · exact (Ch.of HV.out.2).go c2 (fun s q => .inl (hFl s q))
    clear p1 p2 p3 p1' p2' hE hE2 hE' hE2' hed hed' hO hO2 hS hFl hlw hltm hltl r2 rX hX hR c2 cB hC h HK HO hus hul hap hub hn64 H hb1 HV HR HBN HGB
    simp only [List.drop, List.take, putAll, List.setIfInBounds_toArray, List.set_cons_succ, List.set_cons_zero, e1, hvm]
    clear e1 hvm
    go_wp2
    go_ret2
    obtain ⟨vd9, vu9, F9, z1, z2, z3, z4, z5⟩ := HY.out
    exact ⟨_, vd9, vu9, F9, rfl, z1, z2, z3, z4, z5⟩
set_option maxHeartbeats 1000000 in
theorem undo_no {ad : Nat → Addr} {B : Nat} {vd vu : Value} {F : Nat → Prop} {d u : List (List Xg)} {w : World} (L : Ln ad w) (h : SkAt 68 B vd vu F d u w) (h0 : d = []) :
    Calls Tryd.prog 25 #[.pointer (some ⟨B, 0, none⟩)] w fun e w' => ∃ v, e = .returned (.tuple #[.slice none 0 0, v]) ∧ ErrR ad w.heap.size (some (bUndo, -1, 11)) v w' ∧ Below w.heap.size w w' := by
  have HP := hid_of' (peekUndo_no L h h0)
  clear h h0 L
  go_enter Tryd.func25, Tryd.ntmps25
  go_wp2_with (go_at_call 35; (with_reducible refine HP.out.mono ?_); rintro e w1 ⟨v0, rfl, ⟨b, rfl, hb, hk, hf⟩, hb1⟩; clear HP)
  go_ret2
  exact ⟨_, rfl, ⟨b, rfl, hb, hk, hf⟩, hb1⟩
set_option maxHeartbeats 4000000 in
theorem redo_yes {B n : Nat} {vd vu : Value} {F : Nat → Prop} {d u : List (List Xg)} {l : List Xg} {w : World} (h : SkAt 68 B vd vu F d u w) (hn : u.length = n + 1) (hl : u[n]? = some l) :
    Calls Tryd.prog 26 #[.pointer (some ⟨B, 0, none⟩)] w fun e w' => ∃ v vd9 vu9 F9, e = .returned (.tuple #[v, .nilIface]) ∧ NwX w.heap.size v (agL l) w' ∧ (∀ k, v.ownBlock = some k → ¬ F9 k) ∧ SkAt 68 B vd9 vu9 F9 (nwL d l) (u.take n) w' ∧ Ch F w w' ∧ ∀ k, F9 k → F k ∨ w.heap.size ≤ k := by
  have HP := hid_of' (peekRedo_yes h hn hl)
  have H := hid_of' (And.intro h (And.intro hn hl))
  clear h hn hl
  go_enter Tryd.func26, Tryd.ntmps26
  go_upto_region 4 with (go_at_call 35; (with_reducible refine HP.out.mono ?_); rintro e w1 ⟨v0, rfl, hv0, hb1⟩; clear HP; obtain ⟨av, cv, hv9, _⟩ := Rw.form hv0.1; generalize List.length _ = nv at hv9; subst hv9; have HV := hid_of' (And.intro hv0 hb1); clear hv0 hb1)
  obtain ⟨h, hn, hl⟩ := H.out
  replace h := h.later HV.out.2
  obtain ⟨us, hO, hE⟩ := h.ru.open
  obtain ⟨ub, hO2, hE2⟩ := h.rd.open
  obtain ⟨ul, hul, hed⟩ := hE.at hl
  have hus : us.length = n + 1 := by rw [hE.1, hn]
  obtain ⟨g, cap, hvf, _, _⟩ := hO.at hul
  rw [hus] at hvf
  subst hvf
  obtain ⟨ab, cb, hvt⟩ := hO2.form
  have hubl : ub.length ≤ 64 := by rw [hE2.1]; exact h.ld
  generalize hnb : ub.length = nb at hvt
  subst hvt
  have hap : ¬ Value.ownBlock (.slice ab nb cb) = some g := fun q => h.apart g q rfl
  have hgB : ¬ g = B := h.une (by decide) g rfl
  have htB : ∀ k, Value.ownBlock (.slice ab nb cb) = some k → ¬ k = B := h.dne (by decide)
  have hln := h.lu
  have HO := hid_of' (And.intro hO (And.intro hus (And.intro hul (And.intro hO2 (And.intro (by omega : n ≤ 64) (And.intro hubl hap))))))
  have HR := hid_of' h.lies
  have HBN : Hid (¬ (B = g ∨ Value.ownBlock (.slice ab nb cb) = some B)) := fun q => q.elim (fun e => hgB e.symm) (fun e => htB B e rfl)
  have hBl : B < w1.heap.size := h.lies.lt
  have HGB : Hid (∀ k, k = g ∨ Value.ownBlock (.slice ab nb cb) = some k ∨ w1.heap.size ≤ k → ¬ k = B) := fun k hk e => by
    rcases hk with q | q | q
    · exact hgB (q.symm.trans e)
    · exact htB k q e
    · omega
  have HK := hid_of' (And.intro h (And.intro hE (And.intro hE2 hed)))
  clear h hn hl hO hE hO2 hE2 hul hed hus hubl hap hgB htB hln hBl hnb
  refine wp_region_seqE 17 (by kernel_rfl) (fun _ => none) (by kernel_rfl) (by kernel_rfl) (by decide) (fun i v x => match i with
    | 0 => v = .pointer (some ⟨B, 0, none⟩)
    | 1 => v = .pointer (some ⟨B, 0, none⟩)
    | 2 => v = .pointer (some ⟨B, 0, none⟩)
    | 3 => v = .pointer (some ⟨B, 0, none⟩)
    | 4 => v = .pointer (some ⟨B, 1, none⟩)
    | 5 => v = .slice (some ⟨g, 0, none⟩) (n + 1) cap
    | 6 => v = .pointer (some ⟨B, 0, none⟩)
    | 7 => v = .pointer (some ⟨B, 0, none⟩)
    | 8 => v = .pointer (some ⟨B, 0, none⟩)
    | 9 => v = .slice ab nb cb
    | 10 => MvT w1.heap.size g n cap (.slice ab nb cb) (us.take n) (nwL ub ul) v x
    | 11 => MvT w1.heap.size g n cap (.slice ab nb cb) (us.take n) (nwL ub ul) v x
    | 12 => v = .slice (some ⟨g, 0, none⟩) n cap
    | 13 => MvR w1.heap.size g n cap (.slice ab nb cb) (us.take n) (nwL ub ul) v x
    | 14 => v = .pointer (some ⟨B, 0, none⟩)
    | 15 => v = .pointer (some ⟨B, 1, none⟩)
    | 16 => RowAt B #[.slice ab nb cb, .slice (some ⟨g, 0, none⟩) n cap] 68 x
    | _ => True) (fun _ => false) ?_ [10, 16] (by decide) (by decide) (fun k x => GU B g (.slice ab nb cb) w1 k x) (fun c a b => c = 16 → Ch (fun k => k = B) a b) (fun k x x' hG hb => GU.later hG hb) (fun _ h => h) ?_ ?_ ?_ ?_
  · intro j v x b hj
    cases hj
  · intro i v x x' hR hb
    match i, hR with
    | 0, h => exact h
    | 1, h => exact h
    | 2, h => exact h
    | 3, h => exact h
    | 4, h => exact h
    | 5, h => exact h
    | 6, h => exact h
    | 7, h => exact h
    | 8, h => exact h
    | 9, h => exact h
    | 10, h => exact h.later hb
    | 11, h => exact h.later hb
    | 12, h => exact h
    | 13, h => exact h.later hb
    | 14, h => exact h
    | 15, h => exact h
    | 16, h => exact h.later hb
    | m + 17, h => exact h
  · intro cc i v x x' hcc hne hanc hR hb
    match i, hne, hanc, hR with
    | 0, hne, hanc, h => exact h
    | 1, hne, hanc, h => exact h
    | 2, hne, hanc, h => exact h
    | 3, hne, hanc, h => exact h
    | 4, hne, hanc, h => exact h
    | 5, hne, hanc, h => exact h
    | 6, hne, hanc, h => exact h
    | 7, hne, hanc, h => exact h
    | 8, hne, hanc, h => exact h
    | 9, hne, hanc, h => exact h
    | 10, hne, hanc, h =>
      rcases List.mem_cons.1 hcc with q | q
      · subst q; exact absurd rfl hne
      · exact h.ch (hb (List.mem_singleton.1 q)) HGB.out
    | 11, hne, hanc, h =>
      rcases List.mem_cons.1 hcc with q | q
      · subst q; exact absurd hanc (by rw [show ancB _ 24 10 11 = true by kernel_rfl]; decide)
      · exact h.ch (hb (List.mem_singleton.1 q)) HGB.out
    | 12, hne, hanc, h => exact h
    | 13, hne, hanc, h =>
      rcases List.mem_cons.1 hcc with q | q
      · subst q; exact absurd hanc (by rw [show ancB _ 24 10 13 = true by kernel_rfl]; decide)
      · exact h.ch (hb (List.mem_singleton.1 q)) HGB.out
    | 14, hne, hanc, h => exact h
    | 15, hne, hanc, h => exact h
    | 16, hne, hanc, h =>
      rcases List.mem_cons.1 hcc with q | q
      · subst q; exact absurd hanc (by rw [show ancB _ 24 10 16 = true by kernel_rfl]; decide)
      · exact absurd (List.mem_singleton.1 q).symm hne
    | m + 17, hne, hanc, h => exact h
  · intro i o hi ho q x vals kk hG hlo hhi hdep hoth
    have t0 : q.tmps[0]? = some (.pointer (some ⟨B, 0, none⟩)) := by rw [hoth 0 (by kernel_rfl)]; rfl
    match i, hi, ho, hlo, hhi with
    | 0, _, ho, hlo, hhi =>
      simp only [List.getElem?_cons_zero, Option.some.injEq] at ho
      subst ho
      unfold Oper.wp
      simp [execOp, go_sem, t0]
      exact cameDB _ rfl (by decide) (Below.refl _ _) rfl (fun h => absurd h (by decide))
    | 1, _, ho, hlo, hhi =>
      simp only [List.getElem?_cons_succ, List.getElem?_cons_zero, Option.some.injEq] at ho
      subst ho
      unfold Oper.wp
      simp [execOp, go_sem, t0]
      exact cameDB _ rfl (by decide) (Below.refl _ _) rfl (fun h => absurd h (by decide))
    | 2, _, ho, hlo, hhi =>
      simp only [List.getElem?_cons_succ, List.getElem?_cons_zero, Option.some.injEq] at ho
      subst ho
      unfold Oper.wp
      simp [execOp, go_sem, t0]
      exact cameDB _ rfl (by decide) (Below.refl _ _) rfl (fun h => absurd h (by decide))
    | 3, _, ho, hlo, hhi =>
      simp only [List.getElem?_cons_succ, List.getElem?_cons_zero, Option.some.injEq] at ho
      subst ho
      obtain ⟨u2, e2⟩ := hdep ⟨2, .data⟩ (by simp) rfl _ 17 rfl rfl
      rw [show vals 2 = .pointer (some ⟨B, 0, none⟩) from e2] at u2
      unfold Oper.wp
      simp [execOp, go_sem, u2]
      exact cameDB _ rfl (by decide) (Below.refl _ _) rfl (fun h => absurd h (by decide))
    | 4, _, ho, hlo, hhi =>
      simp only [List.getElem?_cons_succ, List.getElem?_cons_zero, Option.some.injEq] at ho
      subst ho
      obtain ⟨u3, e3⟩ := hdep ⟨3, .data⟩ (by simp) rfl _ 18 rfl rfl
      rw [show vals 3 = .pointer (some ⟨B, 0, none⟩) from e3] at u3
      unfold Oper.wp
      simp [execOp, go_sem, u3]
      exact cameDB _ rfl (by decide) (Below.refl _ _) rfl (fun h => absurd h (by decide))
    | 5, _, ho, hlo, hhi =>
      simp only [List.getElem?_cons_succ, List.getElem?_cons_zero, Option.some.injEq] at ho
      subst ho
      obtain ⟨u4, e4⟩ := hdep ⟨4, .data⟩ (by simp) rfl _ 19 rfl rfl
      rw [show vals 4 = .pointer (some ⟨B, 1, none⟩) from e4] at u4
      obtain rfl : kk = 0 := Nat.le_zero.1 (Nat.le_trans hhi (Nat.le_of_eq (by kernel_rfl)))
      have hb0 : Below w1.heap.size w1 x := hG
      have cc : x.cell? ⟨B, 1, none⟩ = some (.slice (some ⟨g, 0, none⟩) (n + 1) cap) := (HR.out.later hb0).cellIs 1 rfl
      unfold Oper.wp
      simp [execOp, go_sem, u4, cc]
      exact cameDB _ rfl (by decide) (Below.refl _ _) rfl (fun h => absurd h (by decide))
    | 6, _, ho, hlo, hhi =>
      simp only [List.getElem?_cons_succ, List.getElem?_cons_zero, Option.some.injEq] at ho
      subst ho
      unfold Oper.wp
      simp [execOp, go_sem, t0]
      exact cameDB _ rfl (by decide) (Below.refl _ _) rfl (fun h => absurd h (by decide))
    | 7, _, ho, hlo, hhi =>
      simp only [List.getElem?_cons_succ, List.getElem?_cons_zero, Option.some.injEq] at ho
      subst ho
      obtain ⟨u6, e6⟩ := hdep ⟨6, .data⟩ (by simp) rfl _ 21 rfl rfl
      rw [show vals 6 = .pointer (some ⟨B, 0, none⟩) from e6] at u6
      unfold Oper.wp
      simp [execOp, go_sem, u6]
      exact cameDB _ rfl (by decide) (Below.refl _ _) rfl (fun h => absurd h (by decide))
    | 8, _, ho, hlo, hhi =>
      simp only [List.getElem?_cons_succ, List.getElem?_cons_zero, Option.some.injEq] at ho
      subst ho
      obtain ⟨u7, e7⟩ := hdep ⟨7, .data⟩ (by simp) rfl _ 22 rfl rfl
      rw [show vals 7 = .pointer (some ⟨B, 0, none⟩) from e7] at u7
      unfold Oper.wp
      simp [execOp, go_sem, u7]
      exact cameDB _ rfl (by decide) (Below.refl _ _) rfl (fun h => absurd h (by decide))
    | 9, _, ho, hlo, hhi =>
      simp only [List.getElem?_cons_succ, List.getElem?_cons_zero, Option.some.injEq] at ho
      subst ho
      obtain ⟨u8, e8⟩ := hdep ⟨8, .data⟩ (by simp) rfl _ 23 rfl rfl
      rw [show vals 8 = .pointer (some ⟨B, 0, none⟩) from e8] at u8
      obtain rfl : kk = 0 := Nat.le_zero.1 (Nat.le_trans hhi (Nat.le_of_eq (by kernel_rfl)))
      have hb0 : Below w1.heap.size w1 x := hG
      have cc : x.cell? ⟨B, 0, none⟩ = some (.slice ab nb cb) := (HR.out.later hb0).cellIs 0 rfl
      unfold Oper.wp
      simp [execOp, go_sem, u8, cc]
      exact cameDB _ rfl (by decide) (Below.refl _ _) rfl (fun h => absurd h (by decide))
    | 10, _, ho, hlo, hhi =>
      simp only [List.getElem?_cons_succ, List.getElem?_cons_zero, Option.some.injEq] at ho
      subst ho
      obtain ⟨u5, e5⟩ := hdep ⟨5, .data⟩ (by simp) rfl _ 20 rfl rfl
      rw [show vals 5 = .slice (some ⟨g, 0, none⟩) (n + 1) cap from e5] at u5
      obtain ⟨u9, e9⟩ := hdep ⟨9, .data⟩ (by simp) rfl _ 24 rfl rfl
      rw [show vals 9 = .slice ab nb cb from e9] at u9
      obtain rfl : kk = 0 := Nat.le_zero.1 (Nat.le_trans hhi (Nat.le_of_eq (by kernel_rfl)))
      have hb0 : Below w1.heap.size w1 x := hG
      unfold Oper.wp
      simp [go_sem, u5, u9]
      refine (moveNewest_ok (HO.out.1.later hb0) HO.out.2.1 HO.out.2.2.1 (HO.out.2.2.2.1.later hb0) HO.out.2.2.2.2.1 HO.out.2.2.2.2.2.1 HO.out.2.2.2.2.2.2).mono ?_
      rintro r x1 ⟨vm, rfl, q1, q2, q3, q4⟩
      exact cameDX _ rfl (by decide) ⟨fun e => absurd e (by decide), (Ch.of hb0).trans q4, q4.size⟩ ⟨vm, rfl, q1, q2, fun k hk => (q3 k hk).imp id (fun q => by have := hb0.size; omega)⟩ rfl
    | 11, _, ho, hlo, hhi =>
      simp only [List.getElem?_cons_succ, List.getElem?_cons_zero, Option.some.injEq] at ho
      subst ho
      obtain ⟨u10, e10⟩ := hdep ⟨10, .data⟩ (by simp) rfl _ 25 rfl rfl
      unfold Oper.wp
      simp [execOp, go_sem, u10]
      exact cameDB _ rfl (by decide) (Below.refl _ _) e10 (fun h => absurd h (by decide))
    | 12, _, ho, hlo, hhi =>
      simp only [List.getElem?_cons_succ, List.getElem?_cons_zero, Option.some.injEq] at ho
      subst ho
      obtain ⟨u11, e11⟩ := hdep ⟨11, .data⟩ (by simp) rfl _ 14 rfl rfl
      obtain ⟨vm, h11, _⟩ : MvT w1.heap.size g n cap (.slice ab nb cb) (us.take n) (nwL ub ul) (vals 11) x := e11
      rw [h11] at u11
      unfold Oper.wp
      simp [execOp, go_sem, u11]
      exact cameDB _ rfl (by decide) (Below.refl _ _) rfl (fun h => absurd h (by decide))
    | 13, _, ho, hlo, hhi =>
      simp only [List.getElem?_cons_succ, List.getElem?_cons_zero, Option.some.injEq] at ho
      subst ho
      obtain ⟨u11, e11⟩ := hdep ⟨11, .data⟩ (by simp) rfl _ 14 rfl rfl
      obtain ⟨vm, h11, hm⟩ : MvT w1.heap.size g n cap (.slice ab nb cb) (us.take n) (nwL ub ul) (vals 11) x := e11
      rw [h11] at u11
      unfold Oper.wp
      simp [execOp, go_sem, u11]
      exact cameDB _ rfl (by decide) (Below.refl _ _) hm (fun h => absurd h (by decide))
    | 14, _, ho, hlo, hhi =>
      simp only [List.getElem?_cons_succ, List.getElem?_cons_zero, Option.some.injEq] at ho
      subst ho
      obtain ⟨u0, e0⟩ := hdep ⟨0, .data⟩ (by simp) rfl _ 15 rfl rfl
      rw [show vals 0 = .pointer (some ⟨B, 0, none⟩) from e0] at u0
      unfold Oper.wp
      simp [execOp, go_sem, u0]
      exact cameDB _ rfl (by decide) (Below.refl _ _) rfl (fun h => absurd h (by decide))
    | 15, _, ho, hlo, hhi =>
      simp only [List.getElem?_cons_succ, List.getElem?_cons_zero, Option.some.injEq] at ho
      subst ho
      obtain ⟨u14, e14⟩ := hdep ⟨14, .data⟩ (by simp) rfl _ 28 rfl rfl
      rw [show vals 14 = .pointer (some ⟨B, 0, none⟩) from e14] at u14
      unfold Oper.wp
      simp [execOp, go_sem, u14]
      exact cameDB _ rfl (by decide) (Below.refl _ _) rfl (fun h => absurd h (by decide))
    | 16, _, ho, hlo, hhi =>
      simp only [List.getElem?_cons_succ, List.getElem?_cons_zero, Option.some.injEq] at ho
      subst ho
      obtain ⟨u15, e15⟩ := hdep ⟨15, .data⟩ (by simp) rfl _ 29 rfl rfl
      rw [show vals 15 = .pointer (some ⟨B, 1, none⟩) from e15] at u15
      obtain ⟨u12, e12⟩ := hdep ⟨12, .data⟩ (by simp) rfl _ 26 rfl rfl
      rw [show vals 12 = .slice (some ⟨g, 0, none⟩) n cap from e12] at u12
      obtain rfl : kk = 1 := Nat.le_antisymm (Nat.le_trans hhi (Nat.le_of_eq (by kernel_rfl))) (Nat.le_trans (Nat.le_of_eq (by kernel_rfl)) hlo)
      have hc0 : Ch (fun k => k = g ∨ Value.ownBlock (.slice ab nb cb) = some k) w1 x := hG
      have rX := HR.out.ch hc0 HBN.out
      have cc : x.cell? ⟨B, 1, none⟩ = some (.slice (some ⟨g, 0, none⟩) (n + 1) cap) := rX.cellIs 1 rfl
      have ff := rX.froz 1
      unfold Oper.wp
      simp [execOp, go_sem, u15, u12, cc, ff]
      exact cameDX undef rfl (by decide) ⟨fun _ => (Ch.refl (fun k => k = B) x).set (p := ⟨B, 1, none⟩) (.inl rfl) (.slice (some ⟨g, 0, none⟩) n cap), (hc0.mono (fun s q => .inl (.inl q))).set (p := ⟨B, 1, none⟩) (.inl (.inr rfl)) (.slice (some ⟨g, 0, none⟩) n cap), by simp [World.setCell]⟩ (rX.setc 1 (.slice (some ⟨g, 0, none⟩) n cap)) rfl
    | m + 17, hi, _, _, _ => exact absurd hi (by omega)
  · intro vals x hX hR _
    have e1 : vals 1 = .pointer (some ⟨B, 0, none⟩) := hR 1 (by decide)
    obtain ⟨p1, p2, p3⟩ : MvR w1.heap.size g n cap (.slice ab nb cb) (us.take n) (nwL ub ul) (vals 13) x := hR 13 (by decide)
    have rX : RowAt B #[.slice ab nb cb, .slice (some ⟨g, 0, none⟩) n cap] 68 x := hR 16 (by decide)
    have hC : Ch (fun k => (k = g ∨ Value.ownBlock (.slice ab nb cb) = some k) ∨ k = B) w1 x := hX
    obtain ⟨am, cm, hvm⟩ := p2.form
    generalize (nwL ub ul).length = nm at hvm
    rw [hvm] at p2 p3
    have k1 := rX.cellIs 0 rfl
    have f1 := rX.froz 0
    have r2 := rX.setc 0 (.slice am nm cm)
    obtain ⟨h, hE, hE2, hed⟩ := HK.out
    obtain ⟨hO, hus, hul, hO2, hn64, hub, hap⟩ := HO.out
    have c2 : Ch (fun k => (k = g ∨ Value.ownBlock (.slice ab nb cb) = some k) ∨ k = B) w1 (x.setCell ⟨B, 0, none⟩ (.slice am nm cm)) := hC.set (p := ⟨B, 0, none⟩) (.inl (.inr rfl)) _
    have cB : Ch (fun k => k = B) x (x.setCell ⟨B, 0, none⟩ (.slice am nm cm)) := (Ch.refl (fun k => k = B) x).set (p := ⟨B, 0, none⟩) (.inl rfl) _
    have p1' := p1.ch cB (fun k hk => HGB.out k (.inl (by cases hk; rfl)))
    have p2' := p2.ch cB (fun k hk => HGB.out k (.inr (p3 k hk)))
    have hS : ∀ k, ((k = g ∨ Value.ownBlock (.slice ab nb cb) = some k) ∨ k = B) → k < w1.heap.size → ¬ ∃ cur, w1.heap[k]? = some (.cells cur 66 (0, 0)) := fun k hk _ hc => by
      obtain ⟨cur, hc⟩ := hc
      rcases hk with (hk | hk) | hk
      · obtain ⟨cur', hc'⟩ := hO.1.typ g rfl
        rw [hk, hc'] at hc
        simp at hc
      · obtain ⟨cur', hc'⟩ := hO2.1.typ k hk
        rw [hc'] at hc
        simp at hc
      · exact typ_ne h.lies hc (by decide) hk
    have hE' := hE.apartOf c2 hS
    have hE2' := hE2.apartOf c2 hS
    have hed' : EdAt F ul l (x.setCell ⟨B, 0, none⟩ (.slice am nm cm)) := hE'.2 n ul l hul (by rw [show u[n]? = some l from H.out.2.2])
    have hFl : ∀ k, ((k = g ∨ Value.ownBlock (.slice ab nb cb) = some k) ∨ k = B) → F k := fun k hk => by
      rcases hk with (hk | hk) | hk
      · rw [hk]; exact h.fu g rfl
      · exact h.fd k hk
      · rw [hk]; exact h.fB
    have hlw : ∀ k, F k → k < w.heap.size := H.out.1.lt
    have hltm : ∀ k, Value.ownBlock (.slice am nm cm) = some k → k < (x.setCell ⟨B, 0, none⟩ (.slice am nm cm)).heap.size := p2'.1.lt
    have hltl : g < (x.setCell ⟨B, 0, none⟩ (.slice am nm cm)).heap.size := p1'.1.lt g rfl
    have hb1 := HV.out.2.size
    have HY : Hid (∃ vd9 vu9 F9, NwX w.heap.size (.slice av nv cv) (agL l) (x.setCell ⟨B, 0, none⟩ (.slice am nm cm)) ∧ (∀ k, Value.ownBlock (.slice av nv cv) = some k → ¬ F9 k) ∧ SkAt 68 B vd9 vu9 F9 (nwL d l) (u.take n) (x.setCell ⟨B, 0, none⟩ (.slice am nm cm)) ∧ Ch F w (x.setCell ⟨B, 0, none⟩ (.slice am nm cm)) ∧ ∀ k, F9 k → F k ∨ w.heap.size ≤ k) := by
      refine ⟨(.slice am nm cm), (.slice (some ⟨g, 0, none⟩) n cap), fun k => (F k ∨ w1.heap.size ≤ k) ∧ k < (x.setCell ⟨B, 0, none⟩ (.slice am nm cm)).heap.size, ⟨Rw.ch HV.out.1.1 c2 (fun k hk hs => ?_), HV.out.1.2⟩, fun k hk hf => ?_, ⟨r2, ?_, ?_, ?_, ?_, ?_, ⟨.inl h.fB, r2.lt⟩, ?_, ?_, fun k hk => hk.2⟩, ?_, fun k hk => hk.1.imp id (fun q => by omega)⟩
      · have := hlw k (hFl k hs)
        have := HV.out.1.2 k hk
        omega
      · have := Rw.lt HV.out.1.1 k hk
        have := HV.out.1.2 k hk
        rcases hf.1 with q | q
        · have := hlw k q
          omega
        · omega
      · exact ERow.of p2' (EsAt.nw (hE2'.mono (fun k hk hq => ⟨.inl hk, hq⟩)) (hed'.mono (fun k hk hq => ⟨.inl hk, hq⟩)))
      · exact ERow.of p1' ((hE'.take n).mono (fun k hk hq => ⟨.inl hk, hq⟩))
      · intro k hk hk'
        cases hk'
        rcases p3 g hk with q | q
        · exact hap q
        · have := hlw g (h.fu g rfl); omega
      · exact nwL_len d l h.ld
      · rw [List.length_take]; omega
      · exact fun k hk => ⟨(p3 k hk).imp (h.fd k) id, hltm k hk⟩
      · exact fun k hk => by cases hk; exact ⟨.inl (h.fu g rfl), hltl⟩
      · exact (Ch.of HV.out.2).go c2 (fun s q => .inl (hFl s q))
    clear p1 p2 p3 p1' p2' hE hE2 hE' hE2' hed hed' hO hO2 hS hFl hlw hltm hltl r2 rX hX hR c2 cB hC h HK HO hus hul hap hub hn64 H hb1 HV HR HBN HGB
    simp only [List.drop, List.take, putAll, List.setIfInBounds_toArray, List.set_cons_succ, List.set_cons_zero, e1, hvm]
    clear e1 hvm
    go_wp2
    go_ret2
    obtain ⟨vd9, vu9, F9, z1, z2, z3, z4, z5⟩ := HY.out
    exact ⟨_, vd9, vu9, F9, rfl, z1, z2, z3, z4, z5⟩
set_option maxHeartbeats 1000000 in
theorem redo_no {ad : Nat → Addr} {B : Nat} {vd vu : Value} {F : Nat → Prop} {d u : List (List Xg)} {w : World} (L : Ln ad w) (h : SkAt 68 B vd vu F d u w) (h0 : u = []) :
    Calls Tryd.prog 26 #[.pointer (some ⟨B, 0, none⟩)] w fun e w' => ∃ v, e = .returned (.tuple #[.slice none 0 0, v]) ∧ ErrR ad w.heap.size (some (bRedo, -1, 11)) v w' ∧ Below w.heap.size w w' := by
  have HP := hid_of' (peekRedo_no L h h0)
  clear h h0 L
  go_enter Tryd.func26, Tryd.ntmps26
  go_wp2_with (go_at_call 35; (with_reducible refine HP.out.mono ?_); rintro e w1 ⟨v0, rfl, ⟨b, rfl, hb, hk, hf⟩, hb1⟩; clear HP)
  go_ret2
  exact ⟨_, rfl, ⟨b, rfl, hb, hk, hf⟩, hb1⟩
end Go.Proofs.YtgkbgojgpomcdaaDoor
