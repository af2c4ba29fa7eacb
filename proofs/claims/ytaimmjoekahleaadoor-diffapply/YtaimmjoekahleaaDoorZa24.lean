
/-
  diff.characters: the characters of two texts, or why not.
-/
import Derived.Test.YtaimmjoekahleaaDoorZa22
import Derived.Test.YtaimmjoekahleaaDoorZa23
namespace Go.Proofs.YtaimmjoekahleaaDoor
open Go.RowKit Go.Extern.Stop Go.Stop Go.Extern
set_option maxRecDepth 100000

/-- The tables of utf8. -/
def U8 (w : World) : Prop := Lib.Utf8Tabs (Tryd.lays196_ren.g 3) (Tryd.lays196_ren.g 4) w
theorem U8.later {w w' : World} (h : U8 w) (hb : Below w.heap.size w w') : U8 w' := Utf8Tabs_below h hb
theorem valid_is {w : World} (h : U8 w) (s : ByteArray) (hs : s.size ≤ 70368744177664) : Calls Tryd.prog 23 #[.string s] w fun e w' => e = .returned (.bool (Lib.validD s.data.toList)) ∧ Below w.heap.size w w' :=
  Any.utf8_ValidString Tryd.lays196 s w (by omega) h
theorem count_is (w : World) (s : ByteArray) (hs : s.size ≤ 70368744177664) : Calls Tryd.prog 46 #[.string s] w fun e w' => e = .returned (.int .i64 ((rn s.data.toList).length : Int)) ∧ Below w.heap.size w w' := by
  refine (Tryd.utf8_RuneCountInString s w (by omega)).mono ?_
  rintro e w' ⟨rfl, pos, rfl⟩
  rw [count_rn]
  exact ⟨rfl, below_one w _⟩
/-- A text's characters, in a row of one's own. -/
theorem runes_new (w : World) (s : ByteArray) (hs : s.size ≤ 70368744177664) : ∃ c w', (convert 9 47 (.string s)).run Tryd.prog w = .ok (.slice (some ⟨w.heap.size, 0, none⟩) (rn s.data.toList).length c) w' ∧ RwR (.slice (some ⟨w.heap.size, 0, none⟩) (rn s.data.toList).length c) (rn s.data.toList) w' ∧ Below w.heap.size w w' := by
  have hl := rn_len s.data.toList
  have hz : s.size = s.data.toList.length := by rw [Array.length_toList]; rfl
  have h := run_runes_of_string (P := Tryd.prog) w 9 47 21 s Tryd.underlying9 Tryd.underlying47 Tryd.underlying21 (by rw [runesFrom_rn]; simp only [List.size_toArray, List.length_map]; omega)
  rw [runesFrom_rn] at h
  simp only [List.size_toArray, List.length_map] at h
  have hge := grownCap_ge w (rn s.data.toList).length 0 21
  have hcm : grownCap w (rn s.data.toList).length 0 21 ≤ maxLen := grownCap_le_maxLen w _ 0 _ (by unfold maxLen; omega)
  refine ⟨_, _, h, ⟨by simp, .inr ⟨w.heap.size, _, _, rfl, heap_alloc_new w.drew _, hge, hcm, ?_, ?_⟩⟩, ?_⟩
  · simp only [Array.size_append, List.size_toArray, List.length_map, Array.size_replicate]
    omega
  · simp only [Array.toList_append]
    rw [List.take_append_of_le_length (by simp), List.take_of_length_le (by simp)]
  · exact (below_drewN (Below.refl _ _) 1).alloc (Nat.le_refl _) _
/-- A reason's variable. -/
def Vr (ad : Nat → Addr) (g k : Nat) (w : World) : Prop := w.cell? ⟨g, 0, none⟩ = some (.iface 154 (.pointer (some (ad k))))
theorem Vr.later {ad : Nat → Addr} {g k : Nat} {w w' : World} (h : Vr ad g k w) (hb : Below w.heap.size w w') : Vr ad g k w' := by
  have h0 : w.cell? ⟨g, 0, none⟩ = some (.iface 154 (.pointer (some (ad k)))) := h
  unfold Vr
  rw [hb.cell (World.block_lt_of_cell? _ _ h0)]
  exact h0
theorem newF {ad : Nat → Addr} (la ca : ByteArray) (at_ : Int) (k : Nat) (w : World) :
    Calls Tryd.prog 24 #[.string la, .string ca, .int .i64 at_, .iface 154 (.pointer (some (ad k)))] w fun e w' => e = .returned (.iface 70 (.pointer (some ⟨w.heap.size, 0, none⟩))) ∧ FaultAt ad w.heap.size la ca (place at_) k w' ∧ Below w.heap.size w w' := by
  have key : ∀ p, max at_ (-1) = p → place at_ = p := by
    intro p hp
    unfold place
    split <;> omega
  by_cases h : -1 ≤ at_
  · have hm : max at_ (-1) = at_ := by omega
    rw [key at_ hm]
    go_enter Tryd.func24, Tryd.ntmps24
    go_wp2
    go_ret
    exact ⟨rfl, heap_alloc_last w _, below_one _ _⟩
  · have hm : max at_ (-1) = -1 := by omega
    rw [key (-1) hm]
    have h2 : at_ ≤ -1 := by omega
    go_enter Tryd.func24, Tryd.ntmps24
    go_wp2
    go_ret
    exact ⟨rfl, heap_alloc_last w _, below_one _ _⟩
/-- What is refused: the call, the place, the reason. -/
abbrev Rf := Option (ByteArray × Int × Nat)
def bD : ByteArray := ⟨#[100, 105, 102, 102]⟩
/-- The error that says so; its block is new. -/
def ErrR (ad : Nat → Addr) (M : Nat) (o : Rf) (v : Value) (w : World) : Prop := match o with
  | none => v = .nilIface
  | some (c, a, k) => ∃ b, v = .iface 70 (.pointer (some ⟨b, 0, none⟩)) ∧ M ≤ b ∧ k < 13 ∧ FaultAt ad b bD c (place a) k w
theorem ErrR.later {ad : Nat → Addr} {M : Nat} {o : Rf} {v : Value} {w w' : World} (h : ErrR ad M o v w) (hb : Below w.heap.size w w') : ErrR ad M o v w' := by
  match o, h with
  | none, h => exact h
  | some (_, _, _), ⟨b, h1, h2, h3, h4⟩ => exact ⟨b, h1, h2, h3, RowAt.later h4 hb⟩
theorem ErrR.mono {ad : Nat → Addr} {M M' : Nat} {o : Rf} {v : Value} {w : World} (h : ErrR ad M o v w) (hm : M' ≤ M) : ErrR ad M' o v w := by
  match o, h with
  | none, h => exact h
  | some (_, _, _), ⟨b, h1, h2, h3, h4⟩ => exact ⟨b, h1, Nat.le_trans hm h2, h3, h4⟩
theorem newR {ad : Nat → Addr} (ca : ByteArray) (at_ : Int) (k : Nat) (hk : k < 13) (w : World) :
    Calls Tryd.prog 24 #[.string ⟨#[100, 105, 102, 102]⟩, .string ca, .int .i64 at_, .iface 154 (.pointer (some (ad k)))] w fun e w' => ∃ v, e = .returned v ∧ ErrR ad w.heap.size (some (ca, at_, k)) v w' ∧ Below w.heap.size w w' := by
  refine (newF (ad := ad) bD ca at_ k w).mono ?_
  rintro e w' ⟨rfl, h1, h2⟩
  exact ⟨_, rfl, ⟨_, rfl, Nat.le_refl _, hk, h1⟩, h2⟩

/-- What the two texts' reading wants of memory. -/
structure Env (ad : Nat → Addr) (w : World) : Prop where
  u8 : U8 w
  tx : Vr ad 0 2 w
  rm : Vr ad 4 12 w
theorem Env.later {ad : Nat → Addr} {w w' : World} (h : Env ad w) (hb : Below w.heap.size w w') : Env ad w' := ⟨h.u8.later hb, h.tx.later hb, h.rm.later hb⟩
theorem divK (na : Nat) : IntKind.i64.wrap (Int.tdiv 4194304 (na : Int)) = ((4194304 / na : Nat) : Int) := by
  have h1 : Int.tdiv 4194304 (na : Int) = ((4194304 / na : Nat) : Int) := rfl
  have h2 : 4194304 / na ≤ 4194304 := Nat.div_le_self _ _
  rw [h1, IntKind.wrap_i64]
  generalize 4194304 / na = q at *
  omega
/-- Why two texts can't be read. -/
def chW (a b : ByteArray) : Option (Int × Nat) :=
  if Lib.validD a.data.toList = false then some (0, 2) else if Lib.validD b.data.toList = false then some (1, 2) else if 0 < (rn a.data.toList).length ∧ 4194304 / (rn a.data.toList).length < (rn b.data.toList).length then some (-1, 12) else none

set_option maxHeartbeats 4000000 in
theorem chars_a {ad : Nat → Addr} {w : World} (E : Env ad w) (c a b : ByteArray) (ha : a.size ≤ 70368744177664) (hv : Lib.validD a.data.toList = false) :
    Calls Tryd.prog 34 #[.string c, .string a, .string b] w fun e w' => ∃ v, e = .returned (.tuple #[.slice none 0 0, .slice none 0 0, v]) ∧ ErrR ad w.heap.size (some (c, 0, 2)) v w' ∧ Below w.heap.size w w' := by
  have HV := hid_of' (valid_is E.u8 a ha)
  rw [hv] at HV
  have HT := hid_of' E.tx
  have HN := fun x => hid_of' (newR (ad := ad) c 0 2 (by omega) x)
  clear E
  go_enter Tryd.func34, Tryd.ntmps34
  go_upto_region 2 with (go_at_call 23; (with_reducible refine HV.out.mono ?_); rintro e w1 ⟨rfl, hb1⟩)
  have ct : w1.cell? ⟨0, 0, none⟩ = some (.iface 154 (.pointer (some (ad 2)))) := HT.out.later hb1
  go_wp2_with (go_at_call 24; refine ((HN w1).out.mono ?_); rintro e w2 ⟨v, rfl, he, hb2⟩)
  go_ret3
  exact ⟨_, rfl, he.mono hb1.size, bgo hb1 hb2⟩

set_option maxHeartbeats 4000000 in
theorem chars_b {ad : Nat → Addr} {w : World} (E : Env ad w) (c a b : ByteArray) (ha : a.size ≤ 70368744177664) (hb : b.size ≤ 70368744177664) (hv : Lib.validD a.data.toList = true) (hu : Lib.validD b.data.toList = false) :
    Calls Tryd.prog 34 #[.string c, .string a, .string b] w fun e w' => ∃ v, e = .returned (.tuple #[.slice none 0 0, .slice none 0 0, v]) ∧ ErrR ad w.heap.size (some (c, 1, 2)) v w' ∧ Below w.heap.size w w' := by
  have HV := hid_of' (valid_is E.u8 a ha)
  rw [hv] at HV
  have HU := hid_of' (fun (x : World) (hx : Below w.heap.size w x) => valid_is (E.u8.later hx) b hb)
  rw [hu] at HU
  have HT := hid_of' E.tx
  have HN := fun x => hid_of' (newR (ad := ad) c 1 2 (by omega) x)
  clear E hv hu
  go_enter Tryd.func34, Tryd.ntmps34
  go_upto_region 3 with (go_at_call 23; (with_reducible refine HV.out.mono ?_); rintro e w1 ⟨rfl, hb1⟩)
  go_upto_region 4 with (go_at_call 23; (with_reducible refine (HU.out _ hb1).mono ?_); rintro e w2 ⟨rfl, hb2⟩)
  have ct : w2.cell? ⟨0, 0, none⟩ = some (.iface 154 (.pointer (some (ad 2)))) := HT.out.later (bgo hb1 hb2)
  go_wp2_with (go_at_call 24; refine ((HN w2).out.mono ?_); rintro e w3 ⟨v, rfl, he, hb3⟩)
  go_ret3
  exact ⟨_, rfl, he.mono (bgo hb1 hb2).size, bgo (bgo hb1 hb2) hb3⟩

set_option maxHeartbeats 4000000 in
theorem chars_room {ad : Nat → Addr} {w : World} (E : Env ad w) (c a b : ByteArray) (ha : a.size ≤ 70368744177664) (hb : b.size ≤ 70368744177664) (hv : Lib.validD a.data.toList = true) (hu : Lib.validD b.data.toList = true)
    (h0 : 0 < (rn a.data.toList).length) (hr : 4194304 / (rn a.data.toList).length < (rn b.data.toList).length) :
    Calls Tryd.prog 34 #[.string c, .string a, .string b] w fun e w' => ∃ v, e = .returned (.tuple #[.slice none 0 0, .slice none 0 0, v]) ∧ ErrR ad w.heap.size (some (c, -1, 12)) v w' ∧ Below w.heap.size w w' := by
  have HV := hid_of' (valid_is E.u8 a ha)
  rw [hv] at HV
  have HU := hid_of' (fun (x : World) (hx : Below w.heap.size w x) => valid_is (E.u8.later hx) b hb)
  rw [hu] at HU
  have HCa := hid_of' (fun x => count_is x a ha)
  have HC := hid_of' (fun x => count_is x b hb)
  have HT := hid_of' E.rm
  have HN := fun x => hid_of' (newR (ad := ad) c (-1) 12 (by omega) x)
  have hal := Nat.le_trans (rn_len a.data.toList) (show a.data.toList.length ≤ 70368744177664 by rw [Array.length_toList]; exact ha)
  have hbl := Nat.le_trans (rn_len b.data.toList) (show b.data.toList.length ≤ 70368744177664 by rw [Array.length_toList]; exact hb)
  generalize (rn a.data.toList).length = na at HCa h0 hr hal
  generalize (rn b.data.toList).length = nb at HC hr hbl
  clear E hv hu
  have hna1 : (0 : Int) < (na : Int) := by omega
  have hna3 : ¬ na = 0 := by omega
  have hdv := divK na
  generalize 4194304 / na = qn at hr hdv
  go_enter Tryd.func34, Tryd.ntmps34
  go_upto_region 3 with (go_at_call 23; (with_reducible refine HV.out.mono ?_); rintro e w1 ⟨rfl, hb1⟩)
  go_upto_region 5 with (go_at_call 23; (with_reducible refine (HU.out _ hb1).mono ?_); rintro e w2 ⟨rfl, hb2⟩)
  go_upto_region 6 with (go_at_call 46; (with_reducible refine (HCa.out _).mono ?_); rintro e w3 ⟨rfl, hb3⟩)
  refine wp_region_tail 8 (by kernel_rfl) (fun j => match j with | 2 => some true | _ => none) (by kernel_rfl) (by kernel_rfl) (by decide) (fun i v x => match i with
    | 0 => v = .int .i64 (na : Int)
    | 1 => v = .bool true
    | 2 => v = .bool true
    | 3 => v = .string b
    | 4 => v = .int .i64 (nb : Int)
    | 5 => v = .int .i64 (na : Int)
    | 6 => v = .int .i64 (qn : Int)
    | 7 => v = .bool (decide (qn < nb))
    | _ => True) (fun _ => false) (fun j v x b h hR => by
      match j, h, hR with
      | 2, h, hR => cases h; exact hR
      | 0, h, _ | 1, h, _ | 3, h, _ | 4, h, _ | 5, h, _ | 6, h, _ | 7, h, _ => cases h
      | m + 8, h, _ => cases h) ?_ ?_ ?_
  · intro i v x x' hR hb
    match i, hR with
    | 0, h => exact h
    | 1, h => exact h
    | 2, h => exact h
    | 3, h => exact h
    | 4, h => exact h
    | 5, h => exact h
    | 6, h => exact h
    | 7, h => exact h
    | m + 8, h => exact h
  · intro i o hi ho q x vals hX hdep hoth
    have t9 : q.tmps[9]? = some (.int .i64 (na : Int)) := by rw [hoth 9 (by kernel_rfl)]; rfl
    have t2 : q.tmps[2]? = some (.string b) := by rw [hoth 2 (by kernel_rfl)]; rfl
    match i, hi, ho with
    | 0, _, ho =>
      simp only [List.getElem?_cons_zero, Option.some.injEq] at ho
      subst ho
      unfold Oper.wp
      simp [execOp, go_sem, t9]
      exact came _ rfl (Below.refl _ _) rfl (fun h => absurd h (by decide))
    | 1, _, ho =>
      simp only [List.getElem?_cons_succ, List.getElem?_cons_zero, Option.some.injEq] at ho
      subst ho
      obtain ⟨u0, e0⟩ := hdep ⟨0, .data⟩ (by simp) rfl _ 24 rfl rfl
      rw [show vals 0 = .int .i64 (na : Int) from e0] at u0
      unfold Oper.wp
      simp [execOp, go_sem, u0, h0]
      exact came _ rfl (Below.refl _ _) rfl (fun h => absurd h (by decide))
    | 2, _, ho =>
      simp only [List.getElem?_cons_succ, List.getElem?_cons_zero, Option.some.injEq] at ho
      subst ho
      obtain ⟨u1, e1⟩ := hdep ⟨1, .data⟩ (by simp) rfl _ 25 rfl rfl
      rw [show vals 1 = .bool true from e1] at u1
      unfold Oper.wp
      simp [execOp, go_sem, u1]
      exact came _ rfl (Below.refl _ _) rfl (fun h => absurd h (by decide))
    | 3, _, ho =>
      simp only [List.getElem?_cons_succ, List.getElem?_cons_zero, Option.some.injEq] at ho
      subst ho
      unfold Oper.wp
      simp [execOp, go_sem, t2]
      exact came _ rfl (Below.refl _ _) rfl (fun h => absurd h (by decide))
    | 4, _, ho =>
      simp only [List.getElem?_cons_succ, List.getElem?_cons_zero, Option.some.injEq] at ho
      subst ho
      obtain ⟨u3, e3⟩ := hdep ⟨3, .data⟩ (by simp) rfl _ 27 rfl rfl
      rw [show vals 3 = .string b from e3] at u3
      unfold Oper.wp
      simp [go_sem, u3]
      refine (HC.out x).mono ?_
      rintro r x1 ⟨rfl, hb1⟩
      exact came _ rfl hb1 rfl (fun h => absurd h (by decide))
    | 5, _, ho =>
      simp only [List.getElem?_cons_succ, List.getElem?_cons_zero, Option.some.injEq] at ho
      subst ho
      unfold Oper.wp
      simp [execOp, go_sem, t9]
      exact came _ rfl (Below.refl _ _) rfl (fun h => absurd h (by decide))
    | 6, _, ho =>
      simp only [List.getElem?_cons_succ, List.getElem?_cons_zero, Option.some.injEq] at ho
      subst ho
      obtain ⟨u5, e5⟩ := hdep ⟨5, .data⟩ (by simp) rfl _ 29 rfl rfl
      rw [show vals 5 = .int .i64 (na : Int) from e5] at u5
      unfold Oper.wp
      simp [execOp, go_sem, u5, hna3, hdv]
      exact came _ rfl (Below.refl _ _) rfl (fun h => absurd h (by decide))
    | 7, _, ho =>
      simp only [List.getElem?_cons_succ, List.getElem?_cons_zero, Option.some.injEq] at ho
      subst ho
      obtain ⟨u4, e4⟩ := hdep ⟨4, .data⟩ (by simp) rfl _ 28 rfl rfl
      rw [show vals 4 = .int .i64 (nb : Int) from e4] at u4
      obtain ⟨u6, e6⟩ := hdep ⟨6, .data⟩ (by simp) rfl _ 30 rfl rfl
      rw [show vals 6 = .int .i64 (qn : Int) from e6] at u6
      unfold Oper.wp
      simp [execOp, go_sem, u4, u6]
      exact came _ rfl (Below.refl _ _) rfl (fun h => absurd h (by decide))
    | m + 8, hi, _ => exact absurd hi (by omega)
  · intro vals w4 hX hR _
    have f0 : vals 0 = .int .i64 (na : Int) := hR 0 (by decide)
    have f1 : vals 1 = .bool true := hR 1 (by decide)
    have f2 : vals 2 = .bool true := hR 2 (by decide)
    have f3 : vals 3 = .string b := hR 3 (by decide)
    have f4 : vals 4 = .int .i64 (nb : Int) := hR 4 (by decide)
    have f5 : vals 5 = .int .i64 (na : Int) := hR 5 (by decide)
    have f6 : vals 6 = .int .i64 (qn : Int) := hR 6 (by decide)
    have f7 : vals 7 = .bool (decide (qn < nb)) := hR 7 (by decide)
    simp only [List.drop, List.take, putAll, List.setIfInBounds_toArray, List.set_cons_succ, List.set_cons_zero, f0, f1, f2, f3, f4, f5, f6, f7]
    clear f0 f1 f2 f3 f4 f5 f6 f7 hR hdv
    have hb9 := bgo (bgo (bgo hb1 hb2) hb3) hX
    have HB := hid_of' hb9
    rw [decide_eq_true hr]
    have ct : w4.cell? ⟨4, 0, none⟩ = some (.iface 154 (.pointer (some (ad 12)))) := HT.out.later hb9
    clear hb9 hX hr
    go_wp2_with (go_at_call 24; refine ((HN w4).out.mono ?_); rintro e w5 ⟨v, rfl, he, hb5⟩)
    go_ret3
    exact ⟨_, rfl, he.mono HB.out.size, bgo HB.out hb5⟩
section
variable {ops : Array Oper} {rest : List Oper} {o : Oper} {A : Act} {w : World} {Q : Exit → Act → World → Prop}
theorem wpL_runes (hgd : o.guard = none) (x : Operand) (ho : o.op = .convert 9 47 x) {s : ByteArray} (hx : A.eval x = .string s) (hs : s.size ≤ 70368744177664)
    (k : ∀ c w', RwR (.slice (some ⟨w.heap.size, 0, none⟩) (rn s.data.toList).length c) (rn s.data.toList) w' → Below w.heap.size w w' → wpList Tryd.prog ops Q rest (A.put o.dst (.slice (some ⟨w.heap.size, 0, none⟩) (rn s.data.toList).length c)) w') : wpList Tryd.prog ops Q (o :: rest) A w := by
  refine wpList_plain hgd fun _ hK => ?_
  obtain ⟨c, w', h1, h2, h3⟩ := runes_new w s hs
  unfold Oper.wp execOp
  simp only [ho, hx, Sem.run_bind, Result.andThen, h1]
  exact hK _ _ (k c w' h2 h3)
end
/-- Two texts' characters, each in a new row. -/
def ChOk (w : World) (a b : ByteArray) (e : Ending) (w' : World) : Prop := ∃ v1 v2, e = .returned (.tuple #[v1, v2, .nilIface]) ∧ RwR v1 (rn a.data.toList) w' ∧ RwR v2 (rn b.data.toList) w' ∧ (∀ k, v1.ownBlock = some k → w.heap.size ≤ k) ∧ (∀ k, v2.ownBlock = some k → w.heap.size ≤ k) ∧ Below w.heap.size w w'

set_option maxHeartbeats 4000000 in
theorem chars_ok1 {ad : Nat → Addr} {w : World} (E : Env ad w) (c a b : ByteArray) (ha : a.size ≤ 70368744177664) (hb : b.size ≤ 70368744177664) (hv : Lib.validD a.data.toList = true) (hu : Lib.validD b.data.toList = true)
    (h0 : 0 < (rn a.data.toList).length) (hr : ¬ 4194304 / (rn a.data.toList).length < (rn b.data.toList).length) :
    Calls Tryd.prog 34 #[.string c, .string a, .string b] w fun e w' => ChOk w a b e w' := by
  have HV := hid_of' (valid_is E.u8 a ha)
  rw [hv] at HV
  have HU := hid_of' (fun (x : World) (hx : Below w.heap.size w x) => valid_is (E.u8.later hx) b hb)
  rw [hu] at HU
  have HCa := hid_of' (fun x => count_is x a ha)
  have HC := hid_of' (fun x => count_is x b hb)
  have HRa := hid_of' (fun x => runes_new x a ha)
  have HRb := hid_of' (fun x => runes_new x b hb)
  have HLa := hid_of' (rfl : (rn a.data.toList).length = (rn a.data.toList).length)
  have hal := Nat.le_trans (rn_len a.data.toList) (show a.data.toList.length ≤ 70368744177664 by rw [Array.length_toList]; exact ha)
  have hbl := Nat.le_trans (rn_len b.data.toList) (show b.data.toList.length ≤ 70368744177664 by rw [Array.length_toList]; exact hb)
  obtain ⟨na, hna⟩ : ∃ na, na = (rn a.data.toList).length := ⟨_, rfl⟩
  obtain ⟨nb, hnb⟩ : ∃ nb, nb = (rn b.data.toList).length := ⟨_, rfl⟩
  rw [← hna] at HCa h0 hr hal
  rw [← hnb] at HC hr hbl
  clear HLa hna hnb
  clear E hv hu
  have hna1 : (0 : Int) < (na : Int) := by omega
  have hna3 : ¬ na = 0 := by omega
  have hdv := divK na
  generalize 4194304 / na = qn at hr hdv
  go_enter Tryd.func34, Tryd.ntmps34
  go_upto_region 3 with (go_at_call 23; (with_reducible refine HV.out.mono ?_); rintro e w1 ⟨rfl, hb1⟩)
  go_upto_region 5 with (go_at_call 23; (with_reducible refine (HU.out _ hb1).mono ?_); rintro e w2 ⟨rfl, hb2⟩)
  go_upto_region 6 with (go_at_call 46; (with_reducible refine (HCa.out _).mono ?_); rintro e w3 ⟨rfl, hb3⟩)
  refine wp_region_tail 8 (by kernel_rfl) (fun j => match j with | 2 => some true | _ => none) (by kernel_rfl) (by kernel_rfl) (by decide) (fun i v x => match i with
    | 0 => v = .int .i64 (na : Int)
    | 1 => v = .bool true
    | 2 => v = .bool true
    | 3 => v = .string b
    | 4 => v = .int .i64 (nb : Int)
    | 5 => v = .int .i64 (na : Int)
    | 6 => v = .int .i64 (qn : Int)
    | 7 => v = .bool (decide (qn < nb))
    | _ => True) (fun _ => false) (fun j v x b h hR => by
      match j, h, hR with
      | 2, h, hR => cases h; exact hR
      | 0, h, _ | 1, h, _ | 3, h, _ | 4, h, _ | 5, h, _ | 6, h, _ | 7, h, _ => cases h
      | m + 8, h, _ => cases h) ?_ ?_ ?_
  · intro i v x x' hR hb
    match i, hR with
    | 0, h => exact h
    | 1, h => exact h
    | 2, h => exact h
    | 3, h => exact h
    | 4, h => exact h
    | 5, h => exact h
    | 6, h => exact h
    | 7, h => exact h
    | m + 8, h => exact h
  · intro i o hi ho q x vals hX hdep hoth
    have t9 : q.tmps[9]? = some (.int .i64 (na : Int)) := by rw [hoth 9 (by kernel_rfl)]; rfl
    have t2 : q.tmps[2]? = some (.string b) := by rw [hoth 2 (by kernel_rfl)]; rfl
    match i, hi, ho with
    | 0, _, ho =>
      simp only [List.getElem?_cons_zero, Option.some.injEq] at ho
      subst ho
      unfold Oper.wp
      simp [execOp, go_sem, t9]
      exact came _ rfl (Below.refl _ _) rfl (fun h => absurd h (by decide))
    | 1, _, ho =>
      simp only [List.getElem?_cons_succ, List.getElem?_cons_zero, Option.some.injEq] at ho
      subst ho
      obtain ⟨u0, e0⟩ := hdep ⟨0, .data⟩ (by simp) rfl _ 24 rfl rfl
      rw [show vals 0 = .int .i64 (na : Int) from e0] at u0
      unfold Oper.wp
      simp [execOp, go_sem, u0, h0]
      exact came _ rfl (Below.refl _ _) rfl (fun h => absurd h (by decide))
    | 2, _, ho =>
      simp only [List.getElem?_cons_succ, List.getElem?_cons_zero, Option.some.injEq] at ho
      subst ho
      obtain ⟨u1, e1⟩ := hdep ⟨1, .data⟩ (by simp) rfl _ 25 rfl rfl
      rw [show vals 1 = .bool true from e1] at u1
      unfold Oper.wp
      simp [execOp, go_sem, u1]
      exact came _ rfl (Below.refl _ _) rfl (fun h => absurd h (by decide))
    | 3, _, ho =>
      simp only [List.getElem?_cons_succ, List.getElem?_cons_zero, Option.some.injEq] at ho
      subst ho
      unfold Oper.wp
      simp [execOp, go_sem, t2]
      exact came _ rfl (Below.refl _ _) rfl (fun h => absurd h (by decide))
    | 4, _, ho =>
      simp only [List.getElem?_cons_succ, List.getElem?_cons_zero, Option.some.injEq] at ho
      subst ho
      obtain ⟨u3, e3⟩ := hdep ⟨3, .data⟩ (by simp) rfl _ 27 rfl rfl
      rw [show vals 3 = .string b from e3] at u3
      unfold Oper.wp
      simp [go_sem, u3]
      refine (HC.out x).mono ?_
      rintro r x1 ⟨rfl, hb1⟩
      exact came _ rfl hb1 rfl (fun h => absurd h (by decide))
    | 5, _, ho =>
      simp only [List.getElem?_cons_succ, List.getElem?_cons_zero, Option.some.injEq] at ho
      subst ho
      unfold Oper.wp
      simp [execOp, go_sem, t9]
      exact came _ rfl (Below.refl _ _) rfl (fun h => absurd h (by decide))
    | 6, _, ho =>
      simp only [List.getElem?_cons_succ, List.getElem?_cons_zero, Option.some.injEq] at ho
      subst ho
      obtain ⟨u5, e5⟩ := hdep ⟨5, .data⟩ (by simp) rfl _ 29 rfl rfl
      rw [show vals 5 = .int .i64 (na : Int) from e5] at u5
      unfold Oper.wp
      simp [execOp, go_sem, u5, hna3, hdv]
      exact came _ rfl (Below.refl _ _) rfl (fun h => absurd h (by decide))
    | 7, _, ho =>
      simp only [List.getElem?_cons_succ, List.getElem?_cons_zero, Option.some.injEq] at ho
      subst ho
      obtain ⟨u4, e4⟩ := hdep ⟨4, .data⟩ (by simp) rfl _ 28 rfl rfl
      rw [show vals 4 = .int .i64 (nb : Int) from e4] at u4
      obtain ⟨u6, e6⟩ := hdep ⟨6, .data⟩ (by simp) rfl _ 30 rfl rfl
      rw [show vals 6 = .int .i64 (qn : Int) from e6] at u6
      unfold Oper.wp
      simp [execOp, go_sem, u4, u6]
      exact came _ rfl (Below.refl _ _) rfl (fun h => absurd h (by decide))
    | m + 8, hi, _ => exact absurd hi (by omega)
  · intro vals w4 hX hR _
    have f0 : vals 0 = .int .i64 (na : Int) := hR 0 (by decide)
    have f1 : vals 1 = .bool true := hR 1 (by decide)
    have f2 : vals 2 = .bool true := hR 2 (by decide)
    have f3 : vals 3 = .string b := hR 3 (by decide)
    have f4 : vals 4 = .int .i64 (nb : Int) := hR 4 (by decide)
    have f5 : vals 5 = .int .i64 (na : Int) := hR 5 (by decide)
    have f6 : vals 6 = .int .i64 (qn : Int) := hR 6 (by decide)
    have f7 : vals 7 = .bool (decide (qn < nb)) := hR 7 (by decide)
    simp only [List.drop, List.take, putAll, List.setIfInBounds_toArray, List.set_cons_succ, List.set_cons_zero, f0, f1, f2, f3, f4, f5, f6, f7]
    clear f0 f1 f2 f3 f4 f5 f6 f7 hR hdv
    have hb9 := bgo (bgo (bgo hb1 hb2) hb3) hX
    have HB := hid_of' hb9
    rw [decide_eq_false hr]
    clear hb9 hX hr
    go_wp2_with (first
      | (refine wpL_runes rfl _ rfl rfl hb ?_; intro c2 w6 q2 b2)
      | (refine wpL_runes rfl _ rfl rfl ha ?_; intro c1 w5 q1 b1))
    go_ret3
    exact ⟨_, _, rfl, q1.later b2, q2, (fun k hk => by cases hk; exact HB.out.size), (fun k hk => by cases hk; exact (bgo HB.out b1).size), bgo (bgo HB.out b1) b2⟩

set_option maxHeartbeats 4000000 in
theorem chars_ok0 {ad : Nat → Addr} {w : World} (E : Env ad w) (c a b : ByteArray) (ha : a.size ≤ 70368744177664) (hb : b.size ≤ 70368744177664) (hv : Lib.validD a.data.toList = true) (hu : Lib.validD b.data.toList = true)
    (h0 : (rn a.data.toList).length = 0) :
    Calls Tryd.prog 34 #[.string c, .string a, .string b] w fun e w' => ChOk w a b e w' := by
  have HV := hid_of' (valid_is E.u8 a ha)
  rw [hv] at HV
  have HU := hid_of' (fun (x : World) (hx : Below w.heap.size w x) => valid_is (E.u8.later hx) b hb)
  rw [hu] at HU
  have HCa := hid_of' (fun x => count_is x a ha)
  rw [h0] at HCa
  have HRa := hid_of' (fun x => runes_new x a ha)
  have HRb := hid_of' (fun x => runes_new x b hb)
  clear E hv hu h0
  go_enter Tryd.func34, Tryd.ntmps34
  go_upto_region 3 with (go_at_call 23; (with_reducible refine HV.out.mono ?_); rintro e w1 ⟨rfl, hb1⟩)
  go_upto_region 5 with (go_at_call 23; (with_reducible refine (HU.out _ hb1).mono ?_); rintro e w2 ⟨rfl, hb2⟩)
  go_upto_region 6 with (go_at_call 46; (with_reducible refine (HCa.out _).mono ?_); rintro e w3 ⟨rfl, hb3⟩)
  have HB := hid_of' (bgo (bgo hb1 hb2) hb3)
  clear hb1 hb2 hb3
  go_region
  have hd : Below w3.heap.size w3 w3.drew := below_drewN (Below.refl _ _) 1
  replace HB := hid_of' (bgo HB.out hd)
  clear hd
  generalize w3.drew = w4 at HB ⊢
  go_wp2_with (first
    | (refine wpL_runes rfl _ rfl rfl hb ?_; intro c2 w6 q2 b2)
    | (refine wpL_runes rfl _ rfl rfl ha ?_; intro c1 w5 q1 b1))
  go_ret3
  exact ⟨_, _, rfl, q1.later b2, q2, (fun k hk => by cases hk; exact HB.out.size), (fun k hk => by cases hk; exact (bgo HB.out b1).size), bgo (bgo HB.out b1) b2⟩
/-- Both are read, or why not. -/
theorem chars_ok {ad : Nat → Addr} {w : World} (E : Env ad w) (c a b : ByteArray) (ha : a.size ≤ 70368744177664) (hb : b.size ≤ 70368744177664) (h : chW a b = none) :
    Calls Tryd.prog 34 #[.string c, .string a, .string b] w fun e w' => ChOk w a b e w' := by
  unfold chW at h
  cases hv : Lib.validD a.data.toList
  · rw [if_pos hv] at h; cases h
  · rw [if_neg (by rw [hv]; decide)] at h
    cases hu : Lib.validD b.data.toList
    · rw [if_pos hu] at h; cases h
    · rw [if_neg (by rw [hu]; decide)] at h
      by_cases h0 : 0 < (rn a.data.toList).length
      · by_cases hr : 4194304 / (rn a.data.toList).length < (rn b.data.toList).length
        · rw [if_pos ⟨h0, hr⟩] at h; cases h
        · exact chars_ok1 E c a b ha hb hv hu h0 hr
      · exact chars_ok0 E c a b ha hb hv hu (by omega)
theorem chars_no {ad : Nat → Addr} {w : World} (E : Env ad w) (c a b : ByteArray) (ha : a.size ≤ 70368744177664) (hb : b.size ≤ 70368744177664) {i : Int} {k : Nat} (h : chW a b = some (i, k)) :
    Calls Tryd.prog 34 #[.string c, .string a, .string b] w fun e w' => ∃ v, e = .returned (.tuple #[.slice none 0 0, .slice none 0 0, v]) ∧ ErrR ad w.heap.size (some (c, i, k)) v w' ∧ Below w.heap.size w w' := by
  unfold chW at h
  cases hv : Lib.validD a.data.toList
  · rw [if_pos hv] at h
    cases h
    exact chars_a E c a b ha hv
  · rw [if_neg (by rw [hv]; decide)] at h
    cases hu : Lib.validD b.data.toList
    · rw [if_pos hu] at h
      cases h
      exact chars_b E c a b ha hb hv hu
    · rw [if_neg (by rw [hu]; decide)] at h
      by_cases h0 : 0 < (rn a.data.toList).length ∧ 4194304 / (rn a.data.toList).length < (rn b.data.toList).length
      · rw [if_pos h0] at h
        cases h
        exact chars_room E c a b ha hb hv hu h0.1 h0.2
      · rw [if_neg h0] at h
        cases h
/-- What is read fits in a table. -/
theorem chW_fits {a b : ByteArray} (h : chW a b = none) : Lib.validD a.data.toList = true ∧ Lib.validD b.data.toList = true ∧ (rn a.data.toList = [] ∨ rn b.data.toList = [] ∨ (rn a.data.toList).length + (rn b.data.toList).length ≤ 8388608) := by
  unfold chW at h
  cases hv : Lib.validD a.data.toList
  · rw [if_pos hv] at h; cases h
  · rw [if_neg (by rw [hv]; decide)] at h
    cases hu : Lib.validD b.data.toList
    · rw [if_pos hu] at h; cases h
    · rw [if_neg (by rw [hu]; decide)] at h
      refine ⟨rfl, rfl, ?_⟩
      by_cases h0 : 0 < (rn a.data.toList).length ∧ 4194304 / (rn a.data.toList).length < (rn b.data.toList).length
      · rw [if_pos h0] at h; cases h
      · by_cases h1 : (rn a.data.toList).length = 0
        · exact .inl (List.eq_nil_of_length_eq_zero h1)
        · by_cases h2 : (rn b.data.toList).length = 0
          · exact .inr (.inl (List.eq_nil_of_length_eq_zero h2))
          · refine .inr (.inr ?_)
            have h3 : (rn b.data.toList).length ≤ 4194304 / (rn a.data.toList).length := by
              rcases Nat.lt_or_ge (4194304 / (rn a.data.toList).length) (rn b.data.toList).length with q | q
              · exact absurd ⟨by omega, q⟩ h0
              · exact q
            have h4 : (rn b.data.toList).length * (rn a.data.toList).length ≤ 4194304 := (Nat.le_div_iff_mul_le (by omega)).1 h3
            have h5 : (rn a.data.toList).length ≤ (rn b.data.toList).length * (rn a.data.toList).length := Nat.le_mul_of_pos_left _ (by omega)
            have h6 : (rn b.data.toList).length ≤ (rn b.data.toList).length * (rn a.data.toList).length := Nat.le_mul_of_pos_right _ (by omega)
            omega
end Go.Proofs.YtaimmjoekahleaaDoor
