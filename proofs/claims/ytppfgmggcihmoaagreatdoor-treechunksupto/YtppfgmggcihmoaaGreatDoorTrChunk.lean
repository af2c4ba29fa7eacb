/-
  (*tree.Tree).Chunks.
-/
import Derived.Test.YtppfgmggcihmoaaGreatDoorTrLeaf
import Derived.Test.YtppfgmggcihmoaaGreatDoorTrKp
namespace Go.Proofs.YtppfgmggcihmoaaGreatDoor
open Go.RowKit Go.Shelf
set_option maxRecDepth 100000
attribute [local go_sem] Oper.semAt_some

theorem infoInt : (Tryz.prog.info? 3).map (fun i => (i.zero, i.size, i.bytes)) = some (some (.int .i64 0), 1, 8) := by kernel_rfl
/-- The lengths of leaves, as values. -/
def lensV (ls : List (List El)) : List Value := ls.map fun l => .int .i64 (l.length : Int)
theorem lfsO_len {R : Rows} {t : Option Nd} {ls : List (List El)} {w : World} (h : (t = none ∧ ls = []) ∨ ∃ t', t = some t' ∧ t'.At R w ∧ t'.leaves = ls) : (lfsO t).map Lf.l = ls := by
  rcases h with ⟨rfl, rfl⟩ | ⟨t', rfl, _, rfl⟩
  · rfl
  · exact t'.lfs_l
theorem Nd.Full.leaves_ne : ∀ {t : Nd}, t.Full → ∀ m ∈ t.leaves, m ≠ []
  | .leaf _ _ _ _ l, h, m, hm => by simp [Nd.leaves] at hm; subst hm; exact h
  | .inner _ x y, h, m, hm => by
    rw [Nd.leaves, List.mem_append] at hm
    exact hm.elim (h.1.leaves_ne m) (h.2.leaves_ne m)
theorem len_flat : ∀ {ls : List (List El)}, (∀ m ∈ ls, m ≠ []) → ls.length ≤ ls.flatten.length
  | [], _ => by simp
  | a :: r, h => by
    have h1 := List.length_pos_iff.2 (h a (by simp))
    have h2 := len_flat (ls := r) fun m hm => h m (by simp [hm])
    simp only [List.flatten_cons, List.length_append, List.length_cons]
    omega
def lensA (Pq : Lf → Prop) (xs : List {x : Lf // Pq x}) : List Value := xs.map fun x => .int .i64 (x.1.l.length : Int)
theorem lensA_all {Pq : Lf → Prop} (xs : List Lf) (h : ∀ x ∈ xs, Pq x) : lensA Pq (xs.attachWith Pq h) = lensV (xs.map Lf.l) := by
  have : (xs.attachWith Pq h).map (fun x => x.1) = xs := List.attachWith_map_subtype_val ..
  unfold lensA lensV
  rw [List.map_map]
  conv => rhs; rw [← this, List.map_map]
  rfl

set_option maxHeartbeats 4000000 in
theorem chunksT_any {R : Rows} {b ch : Nat} {l : List El} {w : World} (h : TrL R b ch l w) (hl : l.length ≤ 1048576) :
    Calls Tryz.prog 35 #[pv b] w fun r w' => ∃ v ls, r = .returned v ∧ ls.flatten = l ∧ LOk ch ls ∧ (∀ m ∈ ls, m ≠ []) ∧ w'.ownsRow w.heap.size 3 1 v ls.length (lensV ls) ∧ Below w.heap.size w w' := by
  obtain ⟨ls, v, hr, hO, hfl, hok⟩ := h
  obtain ⟨t, rfl, hA, hM, hfull⟩ : ∃ t : Option Nd, v = pvO t ∧ (∀ t', t = some t' → t'.At R w) ∧ (lfsO t).map Lf.l = ls ∧ ∀ m ∈ ls, m ≠ [] := by
    rcases hO with ⟨rfl, rfl⟩ | ⟨t, rfl, h1, h2, rfl⟩
    · exact ⟨none, rfl, fun _ e => (by cases e), rfl, fun m hm => (by cases hm)⟩
    · exact ⟨some t, rfl, fun _ e => (by cases e; exact h1), t.lfs_l, h2.leaves_ne⟩
  have hN : (lfsO t).length ≤ 1048576 := by
    have e1 : (lfsO t).length = ls.length := by rw [← hM, List.length_map]
    have e2 := len_flat hfull
    rw [hfl] at e2
    omega
  obtain ⟨va, hva⟩ : ∃ va, pvO t = .pointer va := by cases t <;> exact ⟨_, rfl⟩
  have hfn := hM
  refine calls_out (n := 9) fun F hF => ?_
  have hdd : ∀ k : Nat, (F.depth.isSome = true → 1 ≤ k) := fun k h => by rw [depth_wide hF] at h; cases h
  have k1 : F.fn 35 := fn_wide hF _
  have k2 : F.fn 56 := fn_wide hF _
  have k3 : F.fn 74 := fn_wide hF _
  have hro := round_wide hF
  have bO := Boxed.new w 59 (.slice none 0 0)
  have bN := Boxed.new (w.alloc (.cells #[.slice none 0 0] 59)) 74 (.pointer va)
  rw [World.size_alloc] at bN
  have hB0 : Below w.heap.size w ((w.alloc (.cells #[.slice none 0 0] 59)).alloc (.cells #[.pointer va] 74)) := ((Below.refl _ w).alloc (Nat.le_refl _) _).alloc (by simp) _
  have hc1 : (w.alloc (.cells #[.slice none 0 0] 59)).cell? ⟨b, 1, none⟩ = some (.pointer va) := by
    have := (hr.later (below_one w (.cells #[.slice none 0 0] 59))).cell 1
    rw [hva] at this; exact this
  obtain ⟨i0, hi, hz0, hz1, hz2⟩ := info_parts infoInt
  have HS := hid_of' (leaves_stops hF 8 (w.heap.size + 1) (fun W => Below w.heap.size w W) (Below w.heap.size) (fun _ _ h k => h.trans k) (fun _ => True) t (fun _ _ => trivial) ((w.alloc (.cells #[.slice none 0 0] 59)).alloc (.cells #[.pointer va] 74)) (by simp) (by rw [hva]; exact bN.cell) (fun t' e W hW => (hA t' e).later hW) (fun W hW => hB0.trans (hW.mono (by simp; omega))))
  have HL := hid_of' (leaves_in hF (n := 8) va (w.alloc (.cells #[.slice none 0 0] 59)))
  rw [World.size_alloc] at HL
  unfold pv
  clear hF
  refine callsIn_of_wp_marks Tryz.func35 rfl k1 ?_ hro
  simp only [Tryz.ntmps35, List.size_toArray, List.length_cons, List.length_nil, Nat.reduceAdd, Nat.reduceSub, Array.replicate_succ, Array.replicate_zero, List.push_toArray, List.append_toArray, List.nil_append, List.cons_append]
  gi_wp2_with ((try refine ⟨hdd _, ?_⟩); gi_at_call 56; refine HL.out.mono ?_; clear HL; rintro e w' ⟨rfl, rfl⟩)
  refine wpIn_rangeFunc_ownG hro (by omega) (gf := 74) (lb := #[.pointer (some ⟨w.heap.size + 1, 0, none⟩)]) rfl k3 (enters_of Tryz.func74 (by kernel_rfl) rfl)
    HS.out belowK_t (belowK_b (by simp; omega)) (Below.refl _ _) (fun _ => rfl)
    (fun pre W => (∃ v, Boxed W w.heap.size 59 v ∧ W.ownsRow w.heap.size 3 1 v pre.length (lensA (fun _ => True) pre) ∧ True) ∧ Below w.heap.size w W)
    (fun _ _ _ => False)
    (OwnFrom.and (Own.from (holdsRow_own w.heap.size w.heap.size 59 3 1 (fun pre => pre.length) (fun pre => lensA (fun _ => True) pre) (fun _ _ => True)) _) (ownFrom_below (Nat.le_refl _) (by simp; omega)))
    (fun _ _ _ _ _ hs _ _ => hs)
    ⟨⟨_, bO.alloc _, World.ownsRow_nil _ _ _ _, trivial⟩, hB0⟩
    (fun x => { tmps := #[.pointer (some ⟨b, 0, none⟩), undef, .slice none 0 0, .pointer (some ⟨w.heap.size, 0, none⟩), x.1.v, .pointer (some ⟨b, 0, none⟩), .pointer (some ⟨b, 0, none⟩), .pointer (some ⟨b, 1, none⟩), .pointer va, .func (.func 74) #[] #[.pointer (some ⟨w.heap.size + 1, 0, none⟩)], x.1.v, undef, undef, undef, undef, undef, undef], defers := [] }) ?assign ?body ?done ?stop
  case assign =>
    intro l x W K hK
    gi_wp2
    exact hK
  case body =>
    rintro l pre x W ⟨⟨v, hv, hrow, _⟩, hB⟩ hlt
    have hc := hv.cell
    unfold Lf.v
    gi_wp2_with (gi_at_builtin; refine wpListIn_append_own _ rfl _ _ 59 rfl w.heap.size 3 i0 (.int .i64 0) 1 8 Tryz.underlying59 hi hz0 hz1 hz2 rfl (by decide) _ _ _ rfl (hrow.alloc _) ⟨W.heap.size, 0, none⟩ 1 1 [.int .i64 (x.1.l.length : Int)] rfl rfl (cell_one_new _ _ _) (by simp [Value.oneCell']) (by have hmx : maxLen = 9223372036854775807 := rfl; omega) (by omega) (by have := hB.size; simp; omega) ?_; intro v' w1 hown' hgrow _; obtain ⟨g', cap', rfl⟩ := ownsRow_succ hown'; obtain ⟨hv1, hv2, hr2, hk2, hb2⟩ := hv.appended (by decide) hrow hB.size (Nat.le_refl _) hown' hgrow; have hc1 := hv1.cell; have hf1 := hv1.frozen)
    exact ⟨hk2.from _, hb2, ⟨_, hv2, by rw [List.length_append]; simpa [lensA] using hr2, trivial⟩, hB.trans hb2⟩
  case done =>
    rintro D ys W hD rfl ⟨⟨v, hv, hrow, _⟩, hB⟩ hK
    have hc := hv.cell
    rw [lensA_all, List.length_attachWith] at hrow
    gi_wp2
    refine ⟨by simp, .inl ⟨_, _, rfl, run_takeDeferred hK, ?_⟩⟩
    exact ⟨_, results_tmp rfl _ _ _, v, (lfsO t).map Lf.l, rfl, by rw [hfn]; exact hfl, by rw [hfn]; exact hok, by rw [hfn]; exact hfull, by rw [List.length_map]; exact ownsRow_putObj hrow _ hK rfl, hB.trans (belowK_b (w := w) (Nat.le_refl _) W D _ _ (by simp at hD; omega) hK rfl rfl)⟩
  case stop =>
    rintro D c pre W _ _ h _
    exact h.elim
end Go.Proofs.YtppfgmggcihmoaaGreatDoor
