
/-
  fault.Chain and fault.First of an error without a Many.
-/
import Derived.Test.YthabeapgkaggmaaDoorLists
namespace Go.Proofs.YthabeapgkaggmaaDoor
open Go.RowKit Go.Extern.Stop Go.Stop Go.Extern
set_option maxRecDepth 100000

set_option maxHeartbeats 400000 in
/-- (*Fault).link. -/
theorem link_any {b : Nat} {la ca : ByteArray} {at_ : Int} {y : Value} {w : World} (hf : w.heap[b]? = some (.cells #[.string la, .string ca, .int .i64 at_, y] 66 (0, 0))) :
    Calls Tryd.prog 32 #[.pointer (some ⟨b, 0, none⟩)] w fun e w' => e = .returned (.agg #[.string la, .string ca, .int .i64 at_]) ∧ Below w.heap.size w w' := by
  have c0 : w.cell? ⟨b, 0, none⟩ = some (.string la) := by rw [cell_of_heap hf]; rfl
  have c1 : w.cell? ⟨b, 1, none⟩ = some (.string ca) := by rw [cell_of_heap hf]; rfl
  have c2 : w.cell? ⟨b, 2, none⟩ = some (.int .i64 at_) := by rw [cell_of_heap hf]; rfl
  have hlt : b < w.heap.size := (Array.getElem?_eq_some_iff.1 hf).1
  have hne : ¬ b = w.heap.size := by omega
  clear hf
  go_enter Tryd.func32, Tryd.ntmps32
  go_wp2
  go_region
  all_goals go_wp2
  exact bodyPost_ret (v := .agg #[.string la, .string ca, .int .i64 at_]) (by simp [results, Tryd.results32, go_sem]) rfl ⟨rfl, (below_oneE _ _).drew⟩

/-- P1.5: the places on the first way, of an error without a Many. -/
def chn : ErrT → List Lnk
  | .fault _ la ca at_ why => ⟨la, ca, at_⟩ :: chn why
  | _ => []

theorem chn_len (e : ErrT) : (chn e).length = deep e := by
  induction e using ErrT.rec (motive_2 := fun _ => True) with
  | none => rfl
  | rsn k => rfl
  | fault b la ca a y ih => simp [chn, deep, ih]
  | many b g c l _ => rfl
  | nil => trivial
  | cons _ _ _ _ => trivial

theorem info_link : (Tryd.prog.info? 63).map (fun i => (i.zero, i.size, i.bytes)) = some (some (.agg #[.string ⟨#[]⟩, .string ⟨#[]⟩, .int .i64 0]), 3, 40) := by kernel_rfl

theorem cell_three_new (w : World) (a b c : Value) (t : TypeId) : ∀ j u, [a, b, c][j]? = some u → (w.alloc (.cells #[a, b, c] t)).cell? ((⟨w.heap.size, 0, none⟩ : Addr).add j) = some u := by
  intro j u hu
  match j, hu with
  | 0, hu => simp at hu; subst hu; simp [Addr.add]
  | 1, hu => simp at hu; subst hu; simp [Addr.add]
  | 2, hu => simp at hu; subst hu; simp [Addr.add]
  | n + 3, hu => simp at hu

theorem owns_below {w w' : World} {B : Nat} {e : TypeId} {size n : Nat} {v : Value} {xs : List Value} (h : w.ownsRow B e size v n xs) (hb : Below w.heap.size w w') : w'.ownsRow B e size v n xs :=
  h.kept (row := none) ⟨hb.os, hb.tape, hb.output, hb.size, fun k hk _ => hb.block k hk⟩ (by cases hv : v.ownBlock <;> simp)

set_option maxHeartbeats 2000000 in
theorem chain_plain {ad : Nat → Addr} {w : World} (L : Laid ad w) (e : ErrT) (hp : Plain e) (hS : Spine ad w.heap.size w e) (hd : deep e ≤ 100000) :
    Calls Tryd.prog 22 #[val ad e] w fun ev w' => ∃ r, ev = .returned r ∧ w'.ownsRow w.heap.size 63 3 r (chn e).length (lcells (chn e)) ∧ Below w.heap.size w w' := by
  obtain ⟨i0, hi, hi3⟩ := Option.map_eq_some_iff.1 info_link
  simp only [Prod.mk.injEq] at hi3
  obtain ⟨hz0, hz1, hz2⟩ := hi3
  have HE : Aside (Plain e ∧ deep e ≤ 100000) := ⟨hp, hd⟩
  clear hp hd
  go_enter Tryd.func22, Tryd.ntmps22
  go_wp2
  go_loopg [0, 3] (deep e) (fun k v kv wr => ∃ (e' : ErrT) (done : List Lnk), k = deep e' ∧ v = val ad e' ∧ Aside (leaf e' = leaf e ∧ done ++ chn e' = chn e) ∧ Spine ad w.heap.size wr e' ∧ Below w.heap.size w wr ∧ wr.ownsRow w.heap.size 63 3 kv done.length (lcells done))
  case atStart => exact ⟨e, [], rfl, rfl, ⟨rfl, rfl⟩, hS, Below.refl _ _, World.ownsRow_nil _ _ _ _⟩
  case round =>
    obtain ⟨e', done, hgk, rfl, hA, hS', hb, hown⟩ := hrel
    clear hS
    have Lr := L.below hb
    have HD : Hid (done.length + deep e' ≤ 100000) := by
      have h1 := HE.out.2
      have h2 := congrArg List.length hA.out.2
      rw [List.length_append, chn_len, chn_len] at h2
      show _ ≤ _
      omega
    cases e' with
    | fault b la ca at_ why =>
      obtain ⟨hbm, hbh, hne, hSw⟩ := hS'
      obtain ⟨t, v, hv⟩ := val_iface ad hne
      have hbl : b < wr.heap.size := by have := hb.size; omega
      simp only [val_fault]
      go_wp2_with (first | (go_at_call 30; refine (asFault_f b t v _ (by rw [cell_of_heap hbh, hv]; rfl) Lr.et).mono ?_; rintro ev w1 ⟨rfl, hb1⟩; have hbh1 : w1.heap[b]? = some (.cells #[.string la, .string ca, .int .i64 at_, val ad why] 66 (0, 0)) := by (rw [hb1.block b hbl]; exact hbh)) | (go_at_call 31; refine (asMany_f b t v _ (by rw [cell_of_heap hbh1, hv]; rfl)).mono ?_; rintro ev w2 ⟨rfl, hb2⟩; have hbh2 : w2.heap[b]? = some (.cells #[.string la, .string ca, .int .i64 at_, val ad why] 66 (0, 0)) := by (rw [hb2.block b (by have := hb1.size; omega)]; exact hbh1)) | (go_at_call 32; refine (link_any hbh2).mono ?_; rintro ev w3 ⟨rfl, hb3⟩; have hown3 := owns_below (owns_below (owns_below hown hb1) hb2) hb3) | (at_builtin; refine wpList_append_own _ rfl _ _ 30 rfl w.heap.size 63 i0 (.agg #[.string ⟨#[]⟩, .string ⟨#[]⟩, .int .i64 0]) 3 40 Tryd.underlying30 hi hz0 hz1 hz2 rfl (by decide) _ _ _ rfl (hown3.alloc _) ⟨w3.heap.size, 0, none⟩ 1 1 [.string la, .string ca, .int .i64 at_] rfl rfl ?c1 ?c2 ?c3 ?c4 ?c5 ?_))
      case c1 => exact cell_three_new _ _ _ _ _
      case c2 =>
        intro u hu
        simp only [List.mem_cons, List.not_mem_nil, or_false] at hu
        rcases hu with rfl | rfl | rfl <;> rfl
      case c3 => have := HD.out; simp only [deep] at this; unfold maxLen; omega
      case c4 => have := HD.out; simp only [deep] at this; omega
      case c5 => have := hb.size; have := hb1.size; have := hb2.size; have := hb3.size; simp; omega
      intro v0 w4 hown0 hgr hnn
      clear hnn
      have hb03 := bgoE (bgoE (bgoE hb hb1) hb2) hb3
      have hb04 : Below w.heap.size w w4 := (hb03.alloc hb03.size _).grown hgr (by have := hb03.size; simp; omega) (fun j hj => (hown.lt j hj).1)
      have hbh4 : w4.heap[b]? = some (.cells #[.string la, .string ca, .int .i64 at_, val ad why] 66 (0, 0)) := by
        rw [hb04.block b hbm, ← hb.block b hbm]; exact hbh
      have c43 : w4.cell? ⟨b, 3, none⟩ = some (val ad why) := by rw [cell_of_heap hbh4]; rfl
      have hSw4 : Spine ad w.heap.size w4 why := by
        have hbr4 : Below w.heap.size wr w4 := ⟨hb04.os.trans hb.os.symm, hb04.tape.trans hb.tape.symm, hb04.output.trans hb.output.symm, by
          have h1 := hb1.size; have h2 := hb2.size; have h3 := hb3.size; have h4 := hgr.size; simp at h4; omega, fun k hk => (hb04.block k hk).trans (hb.block k hk).symm⟩
        exact hSw.below hbr4
      clear hbh hbh1 hbh2 hbh4 hown hown3 hv hi
      go_wp2
      go_roundg (deep why)
      case measure => rw [hgk]; simp [deep]
      case rel =>
        refine ⟨why, done ++ [⟨la, ca, at_⟩], rfl, rfl, ⟨hA.out.1, ?_⟩, hSw4, hb04, ?_⟩
        · rw [List.append_assoc]; exact hA.out.2
        · rw [lcells_append]; simpa [lcells] using hown0
    | none =>
      simp only [val_none]
      go_wp2_with (first | (go_at_call 30; refine (asFault_nil _).mono ?_; rintro ev w1 ⟨rfl, hb1⟩) | (go_at_call 31; refine (asMany_nil _).mono ?_; rintro ev w2 ⟨rfl, hb2⟩))
      go_ret
      have hd := hA.out.2
      simp only [chn, List.append_nil] at hd
      refine ⟨_, rfl, ?_, bgoE (bgoE hb hb1) hb2⟩
      rw [← hd]
      exact owns_below (owns_below hown hb1) hb2
    | rsn k =>
      simp only [val_rsn]
      go_wp2_with (first | (go_at_call 30; refine (asFault_s _ _).mono ?_; rintro ev w1 ⟨rfl, hb1⟩) | (go_at_call 31; refine (asMany_s _ _ (Lr.below hb1).et).mono ?_; rintro ev w2 ⟨rfl, hb2⟩))
      go_ret
      have hd := hA.out.2
      simp only [chn, List.append_nil] at hd
      refine ⟨_, rfl, ?_, bgoE (bgoE hb hb1) hb2⟩
      rw [← hd]
      exact owns_below (owns_below hown hb1) hb2
    | many b g c l => exact absurd hA.out.1.symm (HE.out.1 b g c l)
end Go.Proofs.YthabeapgkaggmaaDoor
