
/-
  fault.Chain and fault.First of an error without a Many. barrowkeep.Refused, where nothing is refused. barrowkeep.Refused: an error held against the document's refusal.
-/
import Derived.Test.YtjalehlmldlooaaGreatDoorZap36
import Derived.Test.YtjalehlmldlooaaGreatDoorZap01
import Derived.Test.YtjalehlmldlooaaGreatDoorZap03
namespace Go.Proofs.YtjalehlmldlooaaGreatDoor
open Go.RowKit Go.Extern.Stop Go.Stop Go.Extern
set_option maxRecDepth 100000

set_option maxHeartbeats 400000 in
/-- (*Fault).link. -/
theorem link_any {b : Nat} {la ca : ByteArray} {at_ : Int} {y : Value} {w : World} (hf : w.heap[b]? = some (.cells #[.string la, .string ca, .int .i64 at_, y] 108 (0, 0))) :
    Calls Tryz.prog 56 #[.pointer (some ⟨b, 0, none⟩)] w fun e w' => e = .returned (.agg #[.string la, .string ca, .int .i64 at_]) ∧ Below w.heap.size w w' := by
  have c0 : w.cell? ⟨b, 0, none⟩ = some (.string la) := by rw [cell_of_heap hf]; rfl
  have c1 : w.cell? ⟨b, 1, none⟩ = some (.string ca) := by rw [cell_of_heap hf]; rfl
  have c2 : w.cell? ⟨b, 2, none⟩ = some (.int .i64 at_) := by rw [cell_of_heap hf]; rfl
  have hlt : b < w.heap.size := (Array.getElem?_eq_some_iff.1 hf).1
  have hne : ¬ b = w.heap.size := by omega
  clear hf
  go_enter Tryz.func56, Tryz.ntmps56
  go_wp2
  go_region
  all_goals go_wp2
  exact bodyPost_ret (v := .agg #[.string la, .string ca, .int .i64 at_]) (by simp [results, Tryz.results56, go_sem]) rfl ⟨rfl, (below_oneE _ _).drew⟩

/-- P1.5: the places on the first way, of an error without a Many. -/
def chn : ErrT → List Lnk
  | .fault _ la ca at_ why => ⟨la, ca, at_⟩ :: chn why
  | _ => []

theorem chn_len (e : ErrT) : (chn e).length = deep e := by
  induction e using ErrT.rec (motive_2 := fun _ => True) with
  | none => rfl
  | rsn k => rfl
  | fault b la ca a y ih => simp [chn, deep, ih]
  | many b g c l _ => rfl
  | nil => trivial
  | cons _ _ _ _ => trivial

theorem info_link : (Tryz.prog.info? 94).map (fun i => (i.zero, i.size, i.bytes)) = some (some (.agg #[.string ⟨#[]⟩, .string ⟨#[]⟩, .int .i64 0]), 3, 40) := by kernel_rfl

theorem cell_three_new (w : World) (a b c : Value) (t : TypeId) : ∀ j u, [a, b, c][j]? = some u → (w.alloc (.cells #[a, b, c] t)).cell? ((⟨w.heap.size, 0, none⟩ : Addr).add j) = some u := by
  intro j u hu
  match j, hu with
  | 0, hu => simp at hu; subst hu; simp [Addr.add]
  | 1, hu => simp at hu; subst hu; simp [Addr.add]
  | 2, hu => simp at hu; subst hu; simp [Addr.add]
  | n + 3, hu => simp at hu

theorem owns_below {w w' : World} {B : Nat} {e : TypeId} {size n : Nat} {v : Value} {xs : List Value} (h : w.ownsRow B e size v n xs) (hb : Below w.heap.size w w') : w'.ownsRow B e size v n xs :=
  h.kept (row := none) ⟨hb.os, hb.tape, hb.output, hb.size, fun k hk _ => hb.block k hk⟩ (by cases hv : v.ownBlock <;> simp)

set_option maxHeartbeats 2000000 in
theorem chain_plain {ad : Nat → Addr} {w : World} (L : Laid ad w) (e : ErrT) (hp : Plain e) (hS : Spine ad w.heap.size w e) (hd : deep e ≤ 100000) :
    Calls Tryz.prog 32 #[val ad e] w fun ev w' => ∃ r, ev = .returned r ∧ w'.ownsRow w.heap.size 94 3 r (chn e).length (lcells (chn e)) ∧ Below w.heap.size w w' := by
  obtain ⟨i0, hi, hi3⟩ := Option.map_eq_some_iff.1 info_link
  simp only [Prod.mk.injEq] at hi3
  obtain ⟨hz0, hz1, hz2⟩ := hi3
  have HE : Aside (Plain e ∧ deep e ≤ 100000) := ⟨hp, hd⟩
  clear hp hd
  go_enter Tryz.func32, Tryz.ntmps32
  go_wp2
  go_loopg [0, 3] (deep e) (fun k v kv wr => ∃ (e' : ErrT) (done : List Lnk), k = deep e' ∧ v = val ad e' ∧ Aside (leaf e' = leaf e ∧ done ++ chn e' = chn e) ∧ Spine ad w.heap.size wr e' ∧ Below w.heap.size w wr ∧ wr.ownsRow w.heap.size 94 3 kv done.length (lcells done))
  case atStart => exact ⟨e, [], rfl, rfl, ⟨rfl, rfl⟩, hS, Below.refl _ _, World.ownsRow_nil _ _ _ _⟩
  case round =>
    obtain ⟨e', done, hgk, rfl, hA, hS', hb, hown⟩ := hrel
    clear hS
    have Lr := L.below hb
    have HD : Hid (done.length + deep e' ≤ 100000) := by
      have h1 := HE.out.2
      have h2 := congrArg List.length hA.out.2
      rw [List.length_append, chn_len, chn_len] at h2
      show _ ≤ _
      omega
    cases e' with
    | fault b la ca at_ why =>
      obtain ⟨hbm, hbh, hne, hSw⟩ := hS'
      obtain ⟨t, v, hv⟩ := val_iface ad hne
      have hbl : b < wr.heap.size := by have := hb.size; omega
      simp only [val_fault]
      go_wp2_with (first | (go_at_call 54; refine (asFault_f b t v _ (by rw [cell_of_heap hbh, hv]; rfl) Lr.et).mono ?_; rintro ev w1 ⟨rfl, hb1⟩; have hbh1 : w1.heap[b]? = some (.cells #[.string la, .string ca, .int .i64 at_, val ad why] 108 (0, 0)) := by (rw [hb1.block b hbl]; exact hbh)) | (go_at_call 55; refine (asMany_f b t v _ (by rw [cell_of_heap hbh1, hv]; rfl)).mono ?_; rintro ev w2 ⟨rfl, hb2⟩; have hbh2 : w2.heap[b]? = some (.cells #[.string la, .string ca, .int .i64 at_, val ad why] 108 (0, 0)) := by (rw [hb2.block b (by have := hb1.size; omega)]; exact hbh1)) | (go_at_call 56; refine (link_any hbh2).mono ?_; rintro ev w3 ⟨rfl, hb3⟩; have hown3 := owns_below (owns_below (owns_below hown hb1) hb2) hb3) | (at_builtin; refine wpList_append_own _ rfl _ _ 33 rfl w.heap.size 94 i0 (.agg #[.string ⟨#[]⟩, .string ⟨#[]⟩, .int .i64 0]) 3 40 Tryz.underlying33 hi hz0 hz1 hz2 rfl (by decide) _ _ _ rfl (hown3.alloc _) ⟨w3.heap.size, 0, none⟩ 1 1 [.string la, .string ca, .int .i64 at_] rfl rfl ?c1 ?c2 ?c3 ?c4 ?c5 ?_))
      case c1 => exact cell_three_new _ _ _ _ _
      case c2 =>
        intro u hu
        simp only [List.mem_cons, List.not_mem_nil, or_false] at hu
        rcases hu with rfl | rfl | rfl <;> rfl
      case c3 => have := HD.out; simp only [deep] at this; unfold maxLen; omega
      case c4 => have := HD.out; simp only [deep] at this; omega
      case c5 => have := hb.size; have := hb1.size; have := hb2.size; have := hb3.size; simp; omega
      intro v0 w4 hown0 hgr hnn
      clear hnn
      have hb03 := bgoE (bgoE (bgoE hb hb1) hb2) hb3
      have hb04 : Below w.heap.size w w4 := (hb03.alloc hb03.size _).grown hgr (by have := hb03.size; simp; omega) (fun j hj => (hown.lt j hj).1)
      have hbh4 : w4.heap[b]? = some (.cells #[.string la, .string ca, .int .i64 at_, val ad why] 108 (0, 0)) := by
        rw [hb04.block b hbm, ← hb.block b hbm]; exact hbh
      have c43 : w4.cell? ⟨b, 3, none⟩ = some (val ad why) := by rw [cell_of_heap hbh4]; rfl
      have hSw4 : Spine ad w.heap.size w4 why := by
        have hbr4 : Below w.heap.size wr w4 := ⟨hb04.os.trans hb.os.symm, hb04.tape.trans hb.tape.symm, hb04.output.trans hb.output.symm, by
          have h1 := hb1.size; have h2 := hb2.size; have h3 := hb3.size; have h4 := hgr.size; simp at h4; omega, fun k hk => (hb04.block k hk).trans (hb.block k hk).symm⟩
        exact hSw.below hbr4
      clear hbh hbh1 hbh2 hbh4 hown hown3 hv hi
      go_wp2
      go_roundg (deep why)
      case measure => rw [hgk]; simp [deep]
      case rel =>
        refine ⟨why, done ++ [⟨la, ca, at_⟩], rfl, rfl, ⟨hA.out.1, ?_⟩, hSw4, hb04, ?_⟩
        · rw [List.append_assoc]; exact hA.out.2
        · rw [lcells_append]; simpa [lcells] using hown0
    | none =>
      simp only [val_none]
      go_wp2_with (first | (go_at_call 54; refine (asFault_nil _).mono ?_; rintro ev w1 ⟨rfl, hb1⟩) | (go_at_call 55; refine (asMany_nil _).mono ?_; rintro ev w2 ⟨rfl, hb2⟩))
      go_ret
      have hd := hA.out.2
      simp only [chn, List.append_nil] at hd
      refine ⟨_, rfl, ?_, bgoE (bgoE hb hb1) hb2⟩
      rw [← hd]
      exact owns_below (owns_below hown hb1) hb2
    | rsn k =>
      simp only [val_rsn]
      go_wp2_with (first | (go_at_call 54; refine (asFault_s _ _).mono ?_; rintro ev w1 ⟨rfl, hb1⟩) | (go_at_call 55; refine (asMany_s _ _ (Lr.below hb1).et).mono ?_; rintro ev w2 ⟨rfl, hb2⟩))
      go_ret
      have hd := hA.out.2
      simp only [chn, List.append_nil] at hd
      refine ⟨_, rfl, ?_, bgoE (bgoE hb hb1) hb2⟩
      rw [← hd]
      exact owns_below (owns_below hown hb1) hb2
    | many b g c l => exact absurd hA.out.1.symm (HE.out.1 b g c l)
end Go.Proofs.YtjalehlmldlooaaGreatDoor
namespace Go.Proofs.YtjalehlmldlooaaGreatDoor
open Go.RowKit
set_option maxRecDepth 100000

/-- No error, and no refusal. -/
theorem refused_none (a a' : Option Addr) (n c n' c' : Nat) (w : World) :
    Calls Tryz.prog 8 #[.nilIface, .agg (nov 0 a n c a' n' c')] w fun e w' => e = .returned (.bool true) ∧ Below w.heap.size w w' := by
  unfold nov
  go_enter Tryz.func8, Tryz.ntmps8
  go_wp2
  go_ret
  exact ⟨rfl, below_one _ _⟩

end Go.Proofs.YtjalehlmldlooaaGreatDoor
namespace Go.Proofs.YtjalehlmldlooaaGreatDoor
open Go.RowKit Go.Extern.Stop Go.Stop Go.Extern
set_option maxRecDepth 100000

theorem slAt_of_in {w : World} {g n c size : Nat} {cs : List Value} (h : CsIn g 0 cs.toArray w) (hs : cs.length = n * size) : SlAt w (.slice (some ⟨g, 0, none⟩) n c) size n cs :=
  ⟨hs, .inr ⟨g, 0, c, rfl, h.1, fun j u hu => h.2 j u (by simpa using hu)⟩⟩

/-- A Fault around a reason, in memory. -/
def FaultAt (ad : Nat → Addr) (b : Nat) (la ca : ByteArray) (at_ : Int) (k : Nat) (w : World) : Prop := RowAt b #[.string la, .string ca, .int .i64 at_, .iface 197 (.pointer (some (ad k)))] 108 w
theorem FaultAt.spine {ad : Nat → Addr} {b : Nat} {la ca : ByteArray} {at_ : Int} {k : Nat} {w : World} (h : FaultAt ad b la ca at_ k w) (hk : k < 14) : Spine ad w.heap.size w (.fault b la ca at_ (.rsn k)) := ⟨RowAt.lt h, h, (by intro e; cases e), hk⟩
theorem plain_fault (b : Nat) (la ca : ByteArray) (at_ : Int) (k : Nat) : Plain (.fault b la ca at_ (.rsn k)) := by intro b g c l h; cases h

theorem codeF {ad : Nat → Addr} {b : Nat} {la ca : ByteArray} {at_ : Int} {k : Nat} {w : World} (L : Laid ad w) (h : FaultAt ad b la ca at_ k w) (hk : k < 13) :
    Calls Tryz.prog 30 #[.iface 97 (.pointer (some ⟨b, 0, none⟩))] w fun e w' => e = .returned (.int .i64 ((k : Int) + 1)) ∧ Below w.heap.size w w' := by
  have := code_any (ad := ad) (w := w) (.fault b la ca at_ (.rsn k)) (by intro h; cases h) (through_plain L _ (plain_fault b la ca at_ k) (h.spine (by omega)))
  simpa [codeOf, cds, hk, val] using this
theorem chainF {ad : Nat → Addr} {b : Nat} {la ca : ByteArray} {at_ : Int} {k : Nat} {w : World} (L : Laid ad w) (h : FaultAt ad b la ca at_ k w) (hk : k < 13) :
    Calls Tryz.prog 32 #[.iface 97 (.pointer (some ⟨b, 0, none⟩))] w fun e w' => ∃ r, e = .returned r ∧ SlAt w' r 3 1 (lcells [⟨la, ca, at_⟩]) ∧ Below w.heap.size w w' :=
  (chain_plain L (.fault b la ca at_ (.rsn k)) (plain_fault b la ca at_ k) (h.spine (by omega)) (by simp [deep])).mono fun _ _ ⟨r, h1, h2, h3⟩ => ⟨r, h1, SlAt.of_owns h2, h3⟩
theorem codesF {ad : Nat → Addr} {b : Nat} {la ca : ByteArray} {at_ : Int} {k : Nat} {w : World} (L : Laid ad w) (h : FaultAt ad b la ca at_ k w) (hk : k < 13) :
    Calls Tryz.prog 34 #[.iface 97 (.pointer (some ⟨b, 0, none⟩))] w fun e w' => ∃ r, e = .returned r ∧ SlAt w' r 1 1 (ints [(k : Int) + 1]) ∧ Below w.heap.size w w' := by
  have hth : ThroughV (val ad (.fault b la ca at_ (.rsn k))) (fst (.fault b la ca at_ (.rsn k))) (cds (.fault b la ca at_ (.rsn k))) w := through_plain L _ (plain_fault b la ca at_ k) (h.spine (by omega))
  have := codes_any hth
  have hc : cds (.fault b la ca at_ (.rsn k)) = [(k : Int) + 1] := by simp [cds, hk]
  rw [hc] at this
  exact this.mono fun _ _ ⟨r, h1, h2, h3⟩ => ⟨r, h1, SlAt.of_owns h2, h3⟩

set_option maxHeartbeats 2000000 in
/-- An error that is a Fault around a reason, and the document's refusal of the same place and reason. -/
theorem refused_some {ad : Nat → Addr} {b : Nat} {la ca : ByteArray} {at_ : Int} {k : Nat} {w : World} (L : Laid ad w) (hF : FaultAt ad b la ca at_ k w) (hk : k < 13)
    {g g' : Nat} (h1 : CsIn g' 0 #[.string la, .string ca, .int .i64 at_] w) (h2 : CsIn g 0 #[.int .i64 ((k : Int) + 1)] w) :
    Calls Tryz.prog 8 #[.iface 97 (.pointer (some ⟨b, 0, none⟩)), .agg (nov ((k : Int) + 1) (some ⟨g', 0, none⟩) 1 1 (some ⟨g, 0, none⟩) 1 1)] w fun e w' => e = .returned (.bool true) ∧ Below w.heap.size w w' := by
  have hnz : (((k : Int) + 1) == 0) = false := by rw [beq_eq_false_iff_ne]; omega
  have hse : (((k : Int) + 1) == ((k : Int) + 1)) = true := by simp
  have hN : RowAt w.heap.size (nov ((k : Int) + 1) (some ⟨g', 0, none⟩) 1 1 (some ⟨g, 0, none⟩) 1 1) 36 (w.alloc (.cells (nov ((k : Int) + 1) (some ⟨g', 0, none⟩) 1 1 (some ⟨g, 0, none⟩) 1 1) 36)) := heap_alloc_last w _
  have n0 : (nov ((k : Int) + 1) (some ⟨g', 0, none⟩) 1 1 (some ⟨g, 0, none⟩) 1 1)[0]? = some (.int .i64 ((k : Int) + 1)) := rfl
  have hB := below_one w (.cells (nov ((k : Int) + 1) (some ⟨g', 0, none⟩) 1 1 (some ⟨g, 0, none⟩) 1 1) 36)
  go_enter Tryz.func8, Tryz.ntmps8
  go_upto_region 3 with fail
  have c0 := hN.cls 0 _ n0
  refine wp_region_cls (by kernel_rfl) (by kernel_rfl) ?_
  repeat (first | go_big_quiet_skip | (go_big_quiet_want; first | (go_big_quiet_op; first | go_big_quiet_on | go_big_quiet_call ((go_at_call 30; exact cls_of (codeF (L.below (bgo hB (wOf_below _))) (hF.later (bgo hB (wOf_below _))) hk))))))
  refine wpQuiet_nil ?_
  rintro w1 ⟨s1, e1⟩
  have hb1 := wOf_below s1
  rw [← e1] at hb1
  clear e1 s1
  replace hN := hN.later hb1
  replace hB := bgo hB hb1
  clear hb1
  clear c0 n0
  go_upto_region 5 with fail
  refine wp_region_tail 13 (by kernel_rfl) (fun j => if j = 5 then some true else none) (by kernel_rfl) (by kernel_rfl) (by decide) (fun i v x => match i with
    | 0 => v = .iface 97 (.pointer (some ⟨b, 0, none⟩))
    | 1 => SlAt x v 3 1 (lcells [⟨la, ca, at_⟩])
    | 2 => v = .pointer (some ⟨w.heap.size, 1, none⟩)
    | 3 => v = .slice (some ⟨g', 0, none⟩) 1 1
    | 6 => v = .iface 97 (.pointer (some ⟨b, 0, none⟩))
    | 7 => SlAt x v 1 1 (ints [(k : Int) + 1])
    | 8 => v = .pointer (some ⟨w.heap.size, 2, none⟩)
    | 9 => v = .slice (some ⟨g, 0, none⟩) 1 1
    | _ => v = .bool true) (fun _ => false) ?_ ?_ ?_ ?_
  · intro j v x b hj hR
    by_cases e : j = 5
    · subst e; simp at hj; subst hj; exact hR
    · simp [e] at hj
  · intro i v x x' hR hb
    match i, hR with
    | 0, h | 2, h | 3, h | 4, h | 5, h | 6, h | 8, h | 9, h => exact h
    | 1, h => exact SlAt.below h hb
    | 7, h => exact SlAt.below h hb
    | n + 10, h => exact h
  · intro i o hi ho q x vals hX hdep hoth
    have t0 : q.tmps[0]? = some (.iface 97 (.pointer (some ⟨b, 0, none⟩))) := by rw [hoth 0 (by kernel_rfl)]; rfl
    have t3 : q.tmps[3]? = some (.pointer (some ⟨w.heap.size, 0, none⟩)) := by rw [hoth 3 (by kernel_rfl)]; rfl
    match i, hi, ho with
    | 0, _, ho =>
      simp only [List.getElem?_cons_zero, Option.some.injEq] at ho
      subst ho
      unfold Oper.wp
      simp [execOp, go_sem, t0]
      exact came _ rfl (Below.refl _ _) rfl (fun h => absurd h (by decide))
    | 1, _, ho =>
      simp only [List.getElem?_cons_succ, List.getElem?_cons_zero, Option.some.injEq] at ho
      subst ho
      obtain ⟨u0, e0⟩ := hdep ⟨0, .data⟩ (by simp) rfl _ 19 rfl rfl
      rw [show vals 0 = .iface 97 (.pointer (some ⟨b, 0, none⟩)) from e0] at u0
      unfold Oper.wp
      simp [go_sem, u0]
      refine (chainF (L.below (bgo hB hX)) (hF.later (bgo hB hX)) hk).mono ?_
      rintro e x1 ⟨r, rfl, h1, hb1⟩
      exact came _ rfl hb1 h1 (fun h => absurd h (by decide))
    | 2, _, ho =>
      simp only [List.getElem?_cons_succ, List.getElem?_cons_zero, Option.some.injEq] at ho
      subst ho
      unfold Oper.wp
      simp [execOp, go_sem, t3]
      exact came _ rfl (Below.refl _ _) rfl (fun h => absurd h (by decide))
    | 3, _, ho =>
      simp only [List.getElem?_cons_succ, List.getElem?_cons_zero, Option.some.injEq] at ho
      subst ho
      obtain ⟨u0, e0⟩ := hdep ⟨2, .data⟩ (by simp) rfl _ 21 rfl rfl
      rw [show vals 2 = .pointer (some ⟨w.heap.size, 1, none⟩) from e0] at u0
      have cc := (hN.later hX).cell 1
      unfold Oper.wp
      simp [execOp, go_sem, u0, cc, nov]
      exact came _ rfl (Below.refl _ _) rfl (fun h => absurd h (by decide))
    | 4, _, ho =>
      simp only [List.getElem?_cons_succ, List.getElem?_cons_zero, Option.some.injEq] at ho
      subst ho
      obtain ⟨u0, e0⟩ := hdep ⟨1, .data⟩ (by simp) rfl _ 20 rfl rfl
      obtain ⟨u1, e1⟩ := hdep ⟨3, .data⟩ (by simp) rfl _ 22 rfl rfl
      rw [show vals 3 = .slice (some ⟨g', 0, none⟩) 1 1 from e1] at u1
      have e0' : SlAt x (vals 1) 3 1 (lcells [⟨la, ca, at_⟩]) := e0
      have hs : SlAt x (.slice (some ⟨g', 0, none⟩) 1 1) 3 1 (lcells [⟨la, ca, at_⟩]) := slAt_of_in (h1.later (bgo hB hX)) rfl
      unfold Oper.wp
      simp [go_sem, u0, u1]
      refine (links_eq (xs := [⟨la, ca, at_⟩]) e0' hs (by simp)).mono ?_
      rintro e x1 ⟨rfl, hb1⟩
      exact came _ rfl hb1 rfl (fun h => absurd h (by decide))
    | 5, _, ho =>
      simp only [List.getElem?_cons_succ, List.getElem?_cons_zero, Option.some.injEq] at ho
      subst ho
      obtain ⟨u0, e0⟩ := hdep ⟨4, .data⟩ (by simp) rfl _ 23 rfl rfl
      rw [show vals 4 = .bool true from e0] at u0
      unfold Oper.wp
      simp [execOp, go_sem, u0]
      exact came _ rfl (Below.refl _ _) rfl (fun h => absurd h (by decide))
    | 6, _, ho =>
      simp only [List.getElem?_cons_succ, List.getElem?_cons_zero, Option.some.injEq] at ho
      subst ho
      unfold Oper.wp
      simp [execOp, go_sem, t0]
      exact came _ rfl (Below.refl _ _) rfl (fun h => absurd h (by decide))
    | 7, _, ho =>
      simp only [List.getElem?_cons_succ, List.getElem?_cons_zero, Option.some.injEq] at ho
      subst ho
      obtain ⟨u0, e0⟩ := hdep ⟨6, .data⟩ (by simp) rfl _ 25 rfl rfl
      rw [show vals 6 = .iface 97 (.pointer (some ⟨b, 0, none⟩)) from e0] at u0
      unfold Oper.wp
      simp [go_sem, u0]
      refine (codesF (L.below (bgo hB hX)) (hF.later (bgo hB hX)) hk).mono ?_
      rintro e x1 ⟨r, rfl, h1, hb1⟩
      exact came _ rfl hb1 h1 (fun h => absurd h (by decide))
    | 8, _, ho =>
      simp only [List.getElem?_cons_succ, List.getElem?_cons_zero, Option.some.injEq] at ho
      subst ho
      unfold Oper.wp
      simp [execOp, go_sem, t3]
      exact came _ rfl (Below.refl _ _) rfl (fun h => absurd h (by decide))
    | 9, _, ho =>
      simp only [List.getElem?_cons_succ, List.getElem?_cons_zero, Option.some.injEq] at ho
      subst ho
      obtain ⟨u0, e0⟩ := hdep ⟨8, .data⟩ (by simp) rfl _ 27 rfl rfl
      rw [show vals 8 = .pointer (some ⟨w.heap.size, 2, none⟩) from e0] at u0
      have cc := (hN.later hX).cell 2
      unfold Oper.wp
      simp [execOp, go_sem, u0, cc, nov]
      exact came _ rfl (Below.refl _ _) rfl (fun h => absurd h (by decide))
    | 10, _, ho =>
      simp only [List.getElem?_cons_succ, List.getElem?_cons_zero, Option.some.injEq] at ho
      subst ho
      obtain ⟨u0, e0⟩ := hdep ⟨7, .data⟩ (by simp) rfl _ 26 rfl rfl
      obtain ⟨u1, e1⟩ := hdep ⟨9, .data⟩ (by simp) rfl _ 28 rfl rfl
      rw [show vals 9 = .slice (some ⟨g, 0, none⟩) 1 1 from e1] at u1
      have e0' : SlAt x (vals 7) 1 1 (ints [(k : Int) + 1]) := e0
      have hs : SlAt x (.slice (some ⟨g, 0, none⟩) 1 1) 1 1 (ints [(k : Int) + 1]) := slAt_of_in (h2.later (bgo hB hX)) rfl
      unfold Oper.wp
      simp [go_sem, u0, u1]
      refine (ints_eq (xs := [(k : Int) + 1]) e0' hs (by simp)).mono ?_
      rintro e x1 ⟨rfl, hb1⟩
      exact came _ rfl hb1 rfl (fun h => absurd h (by decide))
    | 11, _, ho =>
      simp only [List.getElem?_cons_succ, List.getElem?_cons_zero, Option.some.injEq] at ho
      subst ho
      obtain ⟨u0, e0⟩ := hdep ⟨5, .data⟩ (by simp) rfl _ 24 rfl rfl
      obtain ⟨u1, e1⟩ := hdep ⟨10, .data⟩ (by simp) rfl _ 29 rfl rfl
      rw [show vals 5 = .bool true from e0] at u0
      rw [show vals 10 = .bool true from e1] at u1
      unfold Oper.wp
      simp [execOp, go_sem, u0, u1]
      exact came _ rfl (Below.refl _ _) rfl (fun h => absurd h (by decide))
    | 12, _, ho =>
      simp only [List.getElem?_cons_succ, List.getElem?_cons_zero, Option.some.injEq] at ho
      subst ho
      obtain ⟨u0, e0⟩ := hdep ⟨11, .data⟩ (by simp) rfl _ 30 rfl rfl
      rw [show vals 11 = .bool true from e0] at u0
      unfold Oper.wp
      simp [execOp, go_sem, u0]
      exact came _ rfl (Below.refl _ _) rfl (fun h => absurd h (by decide))
  · intro vals x hX hR _
    have e4 : vals 12 = .bool true := hR 12 (by decide)
    simp only [List.drop, List.take, putAll, List.setIfInBounds_toArray, List.set_cons_succ, List.set_cons_zero, e4]
    go_wp2
    go_ret
    exact ⟨rfl, bgo hB hX⟩
end Go.Proofs.YtjalehlmldlooaaGreatDoor
