
/-
  (*Reader).Number, Count, Text, Byte, End.
-/
import Derived.Test.YteffpnjgchihpaaGreatDoorPB12
namespace Go.Proofs.YteffpnjgchihpaaGreatDoor
open Go.RowKit
set_option maxRecDepth 100000

theorem boxes_Number (rb : Nat) (most : Int) (w : World) : ((((w.alloc (.cells #[.pointer (some ⟨rb, 0, none⟩)] 127)).alloc (.cells #[.int .i64 most] 3)).alloc (.cells #[.int .i64 0] 3)).heap[w.heap.size]? = some (.cells #[.pointer (some ⟨rb, 0, none⟩)] 127 (0, 0))) ∧ ((((w.alloc (.cells #[.pointer (some ⟨rb, 0, none⟩)] 127)).alloc (.cells #[.int .i64 most] 3)).alloc (.cells #[.int .i64 0] 3)).heap[w.heap.size + 1]? = some (.cells #[.int .i64 most] 3 (0, 0))) ∧ ((((w.alloc (.cells #[.pointer (some ⟨rb, 0, none⟩)] 127)).alloc (.cells #[.int .i64 most] 3)).alloc (.cells #[.int .i64 0] 3)).heap[w.heap.size + 1 + 1]? = some (.cells #[.int .i64 0] 3 (0, 0))) ∧ Kept [] w (((w.alloc (.cells #[.pointer (some ⟨rb, 0, none⟩)] 127)).alloc (.cells #[.int .i64 most] 3)).alloc (.cells #[.int .i64 0] 3)) := by
  have s1 : (w.alloc (.cells #[.pointer (some ⟨rb, 0, none⟩)] 127)).heap.size = w.heap.size + 1 := by simp
  have s2 : ((w.alloc (.cells #[.pointer (some ⟨rb, 0, none⟩)] 127)).alloc (.cells #[.int .i64 most] 3)).heap.size = w.heap.size + 1 + 1 := by simp
  refine ⟨?_, ?_, ?_, (((Kept.refl _ w).alloc _).alloc _).alloc _⟩
  · rw [Below.heap_alloc _ _ _ (by rw [s2]; omega), Below.heap_alloc _ _ _ (by rw [s1]; omega)]; exact heap_alloc_last _ _ _
  · rw [Below.heap_alloc _ _ _ (by rw [s2]; omega), ← s1]; exact heap_alloc_last _ _ _
  · rw [← s2]; exact heap_alloc_last _ _ _

set_option maxHeartbeats 1000000 in
theorem Number_broken {rb g : Nat} {bs : List UInt8} {pl : Nat} {t : TypeId} {v : Value} {w : World} (h : RdAt rb g bs pl (.iface t v) w) (most : Int) :
    Calls Tryz.prog 90 #[.pointer (some ⟨rb, 0, none⟩), .int .i64 most] w fun e w' => e = .returned ((fun a b => .tuple #[a, b]) (.int .i64 0) (.iface t v)) ∧ Below w.heap.size w w' := by
  have hmf : ∀ (fn : Fn) (first cap : Array Value) (w : World), (Instr.makeFunc fn first cap).run Tryz.prog w = .ok (.func fn first cap) w := fun _ _ _ _ => rfl
  have HB := boxes_Number rb most w
  have HA : Aside (RdAt rb g bs pl (.iface t v) (((w.alloc (.cells #[.pointer (some ⟨rb, 0, none⟩)] 127)).alloc (.cells #[.int .i64 most] 3)).alloc (.cells #[.int .i64 0] 3)) ∧ Kept [] w (((w.alloc (.cells #[.pointer (some ⟨rb, 0, none⟩)] 127)).alloc (.cells #[.int .i64 most] 3)).alloc (.cells #[.int .i64 0] 3)) ∧ (((w.alloc (.cells #[.pointer (some ⟨rb, 0, none⟩)] 127)).alloc (.cells #[.int .i64 most] 3)).alloc (.cells #[.int .i64 0] 3)).heap[w.heap.size + 1 + 1]? = some (.cells #[.int .i64 0] 3 (0, 0))) := ⟨h.kept HB.2.2.2 (by simp) (by simp), HB.2.2.2, HB.2.2.1⟩
  clear h HB
  go_enter Tryz.func90, Tryz.ntmps90
  go_wp2_with (go_at_call 85; refine (attempt_broken HA.out.1 _ _).mono ?_; rintro e w2 ⟨rfl, hb2⟩; have hn2 : w2.heap[w.heap.size + 1 + 1]? = some (.cells #[.int .i64 0] 3 (0, 0)) := (by rw [hb2.block _ (lt_of_heap HA.out.2.2)]; exact HA.out.2.2); have d1 : w2.cell? ⟨w.heap.size + 1 + 1, 0, none⟩ = some (.int .i64 0) := (by rw [cellW_of hn2]; rfl); have d2 := frozenW_of hn2 0)
  have hbw : Below w.heap.size w w2 := ((HA.out.2.1.go (S' := []) (.of hb2) (by simp))).below (by simp) (Nat.le_refl _)
  refine bodyPost_ret (v := .tuple #[.int .i64 0, .iface t v]) (by simp [results, Tryz.results90, go_sem, d1]) rfl ⟨rfl, hbw.setCell (p := ⟨w.heap.size + 1 + 1, 0, none⟩) (by show w.heap.size ≤ w.heap.size + 1 + 1; omega) _⟩

set_option maxHeartbeats 2000000 in
theorem Number_any {ad : Nat → Addr} {rb g : Nat} {bs : List UInt8} {pl : Nat} {w : World} (L : Lw ad w) (h : RdAt rb g bs pl .nilIface w) (most : Int)  :
    Calls Tryz.prog 90 #[.pointer (some ⟨rb, 0, none⟩), .int .i64 most] w (RdOut ad rb g bs pl ⟨#[78, 117, 109, 98, 101, 114]⟩ w (fun a b => .tuple #[a, b]) (.int .i64 0) ((numR (bs.drop pl) most).map fun x => (.int .i64 x.1, x.2))) := by
  have hmf : ∀ (fn : Fn) (first cap : Array Value) (w : World), (Instr.makeFunc fn first cap).run Tryz.prog w = .ok (.func fn first cap) w := fun _ _ _ _ => rfl
  have HB := boxes_Number rb most w
  have lr : rb < w.heap.size := lt_of_heap h.lies
  have lg : g < w.heap.size := lt_of_heap h.raw
  have HL : Aside (rb < w.heap.size ∧ g < w.heap.size ∧ 8 ≤ rb) := ⟨lr, lg, h.lo⟩
  have hcf : ∀ caps w, (callFunc 103 caps).run Tryz.prog w = .ok (.enter 103 caps) w := fun caps w => by simp [go_sem]
  have HA : Aside (Lw ad (((w.alloc (.cells #[.pointer (some ⟨rb, 0, none⟩)] 127)).alloc (.cells #[.int .i64 most] 3)).alloc (.cells #[.int .i64 0] 3)) ∧ RdAt rb g bs pl .nilIface (((w.alloc (.cells #[.pointer (some ⟨rb, 0, none⟩)] 127)).alloc (.cells #[.int .i64 most] 3)).alloc (.cells #[.int .i64 0] 3)) ∧ ((((w.alloc (.cells #[.pointer (some ⟨rb, 0, none⟩)] 127)).alloc (.cells #[.int .i64 most] 3)).alloc (.cells #[.int .i64 0] 3)).heap[w.heap.size]? = some (.cells #[.pointer (some ⟨rb, 0, none⟩)] 127 (0, 0))) ∧ ((((w.alloc (.cells #[.pointer (some ⟨rb, 0, none⟩)] 127)).alloc (.cells #[.int .i64 most] 3)).alloc (.cells #[.int .i64 0] 3)).heap[w.heap.size + 1]? = some (.cells #[.int .i64 most] 3 (0, 0))) ∧ ((((w.alloc (.cells #[.pointer (some ⟨rb, 0, none⟩)] 127)).alloc (.cells #[.int .i64 most] 3)).alloc (.cells #[.int .i64 0] 3)).heap[w.heap.size + 1 + 1]? = some (.cells #[.int .i64 0] 3 (0, 0))) ∧ Kept [] w (((w.alloc (.cells #[.pointer (some ⟨rb, 0, none⟩)] 127)).alloc (.cells #[.int .i64 most] 3)).alloc (.cells #[.int .i64 0] 3))) := ⟨L.kept HB.2.2.2 (by simp), h.kept HB.2.2.2 (by simp) (by simp), HB⟩
  have hrd : ∀ w1, Kept [] (((w.alloc (.cells #[.pointer (some ⟨rb, 0, none⟩)] 127)).alloc (.cells #[.int .i64 most] 3)).alloc (.cells #[.int .i64 0] 3)) w1 → Lw ad w1 ∧ RdAt rb g bs pl .nilIface w1 ∧ w1.heap[w.heap.size]? = some (.cells #[.pointer (some ⟨rb, 0, none⟩)] 127 (0, 0)) ∧ w1.heap[w.heap.size + 1]? = some (.cells #[.int .i64 most] 3 (0, 0)) ∧ w1.heap[w.heap.size + 1 + 1]? = some (.cells #[.int .i64 0] 3 (0, 0)) := fun w1 k => ⟨HA.out.1.kept k (by simp), HA.out.2.1.kept k (by simp) (by simp), k.heap HA.out.2.2.1 (by simp), k.heap HA.out.2.2.2.1 (by simp), k.heap HA.out.2.2.2.2.1 (by simp)⟩
  have HR : Aside (∀ w1, Kept [] (((w.alloc (.cells #[.pointer (some ⟨rb, 0, none⟩)] 127)).alloc (.cells #[.int .i64 most] 3)).alloc (.cells #[.int .i64 0] 3)) w1 → Lw ad w1 ∧ RdAt rb g bs pl .nilIface w1 ∧ w1.heap[w.heap.size]? = some (.cells #[.pointer (some ⟨rb, 0, none⟩)] 127 (0, 0)) ∧ w1.heap[w.heap.size + 1]? = some (.cells #[.int .i64 most] 3 (0, 0)) ∧ w1.heap[w.heap.size + 1 + 1]? = some (.cells #[.int .i64 0] 3 (0, 0))) := hrd
  have HC : Aside (∀ caps w, (callFunc 103 caps).run Tryz.prog w = .ok (.enter 103 caps) w) := hcf
  clear L h HB hrd hcf lr lg
  cases hres : numR (bs.drop pl) most with
  | error c =>
    have HE : Aside (numR (bs.drop pl) most = .error c) := hres
    clear hres
    go_enter Tryz.func90, Tryz.ntmps90
    go_wp2_with (go_at_call 85; refine (attempt_err (c := c) (ad := ad) HA.out.2.1 _ 103 #[.pointer (some ⟨w.heap.size, 0, none⟩), .pointer (some ⟨w.heap.size + 1, 0, none⟩), .pointer (some ⟨w.heap.size + 1 + 1, 0, none⟩)] (HC.out _) [w.heap.size + 1 + 1] (by intro s hs; simp only [List.mem_singleton] at hs; subst hs; exact lt_of_heap HA.out.2.2.2.2.1) (fun w2 => w2.heap[w.heap.size + 1 + 1]? = some (.cells #[.int .i64 0] 3 (0, 0))) (fun w2 w3 hb hg => by rw [hb _ (by have := lt_of_heap HA.out.2.2.2.2.1; omega) (by have := HL.out; omega)]; exact hg) (fun w1 k1 => by
      have hh := HR.out w1 k1
      refine Calls.mono ((numC hh.1 hh.2.1 most _ _ _ _) hh.2.2.1 hh.2.2.2.1 hh.2.2.2.2 (by have := HL.out; omega) (by have := HL.out; omega)) ?_
      intro e w2 h2
      rw [HE.out] at h2
      exact ⟨h2.2.1, h2.1, h2.2.2.1, h2.2.2.2⟩)).mono ?_; rintro e w2 ⟨f, hf0, rfl, hr2, hf2, hk2, hg2⟩; have d1 : w2.cell? ⟨w.heap.size + 1 + 1, 0, none⟩ = some (.int .i64 0) := (by rw [cellW_of hg2]; rfl); have d2 := frozenW_of hg2 0)
    have hsf : ¬ f = w.heap.size + 1 + 1 := by have := lt_of_heap HA.out.2.2.2.2.1; omega
    have hk3 : Kept [w.heap.size + 1 + 1] w2 (w2.setCell ⟨w.heap.size + 1 + 1, 0, none⟩ (.int .i64 0)) := (Kept.refl _ _).set (p := ⟨w.heap.size + 1 + 1, 0, none⟩) (.inl (by simp)) _
    refine bodyPost_ret (v := .tuple #[.int .i64 0, refv f]) (by simp [results, Tryz.results90, go_sem, d1]) rfl ?_
    unfold RdOut
    refine ⟨((HA.out.2.2.2.2.2.mono (by simp)).go hk2 (by simp <;> omega)).go hk3 (by simp <;> omega), f, by have := HA.out.2.2.2.2.2.size; omega, rfl, hr2.kept hk3 (by simp; have := HL.out; omega) (by simp; have := HL.out; omega), hk3.heap hf2 (by simpa using hsf)⟩
  | ok x =>
    obtain ⟨y, k⟩ := x
    have HE : Aside (numR (bs.drop pl) most = .ok (y, k)) := hres
    clear hres
    go_enter Tryz.func90, Tryz.ntmps90
    go_wp2_with (go_at_call 85; refine (attempt_ok (q := pl + k) HA.out.2.1 _ 103 #[.pointer (some ⟨w.heap.size, 0, none⟩), .pointer (some ⟨w.heap.size + 1, 0, none⟩), .pointer (some ⟨w.heap.size + 1 + 1, 0, none⟩)] (HC.out _) [w.heap.size + 1 + 1] (by intro s hs; simp only [List.mem_singleton] at hs; subst hs; exact lt_of_heap HA.out.2.2.2.2.1) (fun w2 => w2.heap[w.heap.size + 1 + 1]? = some (.cells #[.int .i64 y] 3 (0, 0))) (fun w2 w3 hb hg => by rw [hb _ (by have := lt_of_heap HA.out.2.2.2.2.1; omega) (by have := HL.out; omega)]; exact hg) (fun w1 k1 => by
      have hh := HR.out w1 k1
      refine Calls.mono ((numC hh.1 hh.2.1 most _ _ _ _) hh.2.2.1 hh.2.2.2.1 hh.2.2.2.2 (by have := HL.out; omega) (by have := HL.out; omega)) ?_
      intro e w2 h2
      rw [HE.out] at h2
      exact ⟨h2.2.1, h2.1, h2.2.2.1, h2.2.2.2⟩)).mono ?_; rintro e w2 ⟨rfl, hr2, hk2, hg2⟩; have d1 : w2.cell? ⟨w.heap.size + 1 + 1, 0, none⟩ = some (.int .i64 y) := (by rw [cellW_of hg2]; rfl); have d2 := frozenW_of hg2 0)
    have hk3 : Kept [w.heap.size + 1 + 1] w2 (w2.setCell ⟨w.heap.size + 1 + 1, 0, none⟩ (.int .i64 y)) := (Kept.refl _ _).set (p := ⟨w.heap.size + 1 + 1, 0, none⟩) (.inl (by simp)) _
    refine bodyPost_ret (v := .tuple #[.int .i64 y, .nilIface]) (by simp [results, Tryz.results90, go_sem, d1]) rfl ?_
    unfold RdOut
    exact ⟨((HA.out.2.2.2.2.2.mono (by simp)).go hk2 (by simp <;> omega)).go hk3 (by simp <;> omega), rfl, hr2.kept hk3 (by simp; have := HL.out; omega) (by simp; have := HL.out; omega)⟩

theorem boxes_Count (rb : Nat) (least most : Int) (w : World) : (((((w.alloc (.cells #[.pointer (some ⟨rb, 0, none⟩)] 127)).alloc (.cells #[.int .i64 least] 3)).alloc (.cells #[.int .i64 most] 3)).alloc (.cells #[.int .i64 0] 3)).heap[w.heap.size]? = some (.cells #[.pointer (some ⟨rb, 0, none⟩)] 127 (0, 0))) ∧ (((((w.alloc (.cells #[.pointer (some ⟨rb, 0, none⟩)] 127)).alloc (.cells #[.int .i64 least] 3)).alloc (.cells #[.int .i64 most] 3)).alloc (.cells #[.int .i64 0] 3)).heap[w.heap.size + 1]? = some (.cells #[.int .i64 least] 3 (0, 0))) ∧ (((((w.alloc (.cells #[.pointer (some ⟨rb, 0, none⟩)] 127)).alloc (.cells #[.int .i64 least] 3)).alloc (.cells #[.int .i64 most] 3)).alloc (.cells #[.int .i64 0] 3)).heap[w.heap.size + 1 + 1]? = some (.cells #[.int .i64 most] 3 (0, 0))) ∧ (((((w.alloc (.cells #[.pointer (some ⟨rb, 0, none⟩)] 127)).alloc (.cells #[.int .i64 least] 3)).alloc (.cells #[.int .i64 most] 3)).alloc (.cells #[.int .i64 0] 3)).heap[w.heap.size + 1 + 1 + 1]? = some (.cells #[.int .i64 0] 3 (0, 0))) ∧ Kept [] w ((((w.alloc (.cells #[.pointer (some ⟨rb, 0, none⟩)] 127)).alloc (.cells #[.int .i64 least] 3)).alloc (.cells #[.int .i64 most] 3)).alloc (.cells #[.int .i64 0] 3)) := by
  have s1 : (w.alloc (.cells #[.pointer (some ⟨rb, 0, none⟩)] 127)).heap.size = w.heap.size + 1 := by simp
  have s2 : ((w.alloc (.cells #[.pointer (some ⟨rb, 0, none⟩)] 127)).alloc (.cells #[.int .i64 least] 3)).heap.size = w.heap.size + 1 + 1 := by simp
  have s3 : (((w.alloc (.cells #[.pointer (some ⟨rb, 0, none⟩)] 127)).alloc (.cells #[.int .i64 least] 3)).alloc (.cells #[.int .i64 most] 3)).heap.size = w.heap.size + 1 + 1 + 1 := by simp
  refine ⟨?_, ?_, ?_, ?_, ((((Kept.refl _ w).alloc _).alloc _).alloc _).alloc _⟩
  · rw [Below.heap_alloc _ _ _ (by rw [s3]; omega), Below.heap_alloc _ _ _ (by rw [s2]; omega), Below.heap_alloc _ _ _ (by rw [s1]; omega)]; exact heap_alloc_last _ _ _
  · rw [Below.heap_alloc _ _ _ (by rw [s3]; omega), Below.heap_alloc _ _ _ (by rw [s2]; omega), ← s1]; exact heap_alloc_last _ _ _
  · rw [Below.heap_alloc _ _ _ (by rw [s3]; omega), ← s2]; exact heap_alloc_last _ _ _
  · rw [← s3]; exact heap_alloc_last _ _ _

set_option maxHeartbeats 1000000 in
theorem Count_broken {rb g : Nat} {bs : List UInt8} {pl : Nat} {t : TypeId} {v : Value} {w : World} (h : RdAt rb g bs pl (.iface t v) w) (least most : Int) :
    Calls Tryz.prog 105 #[.pointer (some ⟨rb, 0, none⟩), .int .i64 least, .int .i64 most] w fun e w' => e = .returned ((fun a b => .tuple #[a, b]) (.int .i64 0) (.iface t v)) ∧ Below w.heap.size w w' := by
  have hmf : ∀ (fn : Fn) (first cap : Array Value) (w : World), (Instr.makeFunc fn first cap).run Tryz.prog w = .ok (.func fn first cap) w := fun _ _ _ _ => rfl
  have HB := boxes_Count rb least most w
  have HA : Aside (RdAt rb g bs pl (.iface t v) ((((w.alloc (.cells #[.pointer (some ⟨rb, 0, none⟩)] 127)).alloc (.cells #[.int .i64 least] 3)).alloc (.cells #[.int .i64 most] 3)).alloc (.cells #[.int .i64 0] 3)) ∧ Kept [] w ((((w.alloc (.cells #[.pointer (some ⟨rb, 0, none⟩)] 127)).alloc (.cells #[.int .i64 least] 3)).alloc (.cells #[.int .i64 most] 3)).alloc (.cells #[.int .i64 0] 3)) ∧ ((((w.alloc (.cells #[.pointer (some ⟨rb, 0, none⟩)] 127)).alloc (.cells #[.int .i64 least] 3)).alloc (.cells #[.int .i64 most] 3)).alloc (.cells #[.int .i64 0] 3)).heap[w.heap.size + 1 + 1 + 1]? = some (.cells #[.int .i64 0] 3 (0, 0))) := ⟨h.kept HB.2.2.2.2 (by simp) (by simp), HB.2.2.2.2, HB.2.2.2.1⟩
  clear h HB
  go_enter Tryz.func105, Tryz.ntmps105
  go_wp2_with (go_at_call 85; refine (attempt_broken HA.out.1 _ _).mono ?_; rintro e w2 ⟨rfl, hb2⟩; have hn2 : w2.heap[w.heap.size + 1 + 1 + 1]? = some (.cells #[.int .i64 0] 3 (0, 0)) := (by rw [hb2.block _ (lt_of_heap HA.out.2.2)]; exact HA.out.2.2); have d1 : w2.cell? ⟨w.heap.size + 1 + 1 + 1, 0, none⟩ = some (.int .i64 0) := (by rw [cellW_of hn2]; rfl); have d2 := frozenW_of hn2 0)
  have hbw : Below w.heap.size w w2 := ((HA.out.2.1.go (S' := []) (.of hb2) (by simp))).below (by simp) (Nat.le_refl _)
  refine bodyPost_ret (v := .tuple #[.int .i64 0, .iface t v]) (by simp [results, Tryz.results105, go_sem, d1]) rfl ⟨rfl, hbw.setCell (p := ⟨w.heap.size + 1 + 1 + 1, 0, none⟩) (by show w.heap.size ≤ w.heap.size + 1 + 1 + 1; omega) _⟩

set_option maxHeartbeats 2000000 in
theorem Count_any {ad : Nat → Addr} {rb g : Nat} {bs : List UInt8} {pl : Nat} {w : World} (L : Lw ad w) (h : RdAt rb g bs pl .nilIface w) (least most : Int) (hl1 : -9223372036854775808 ≤ least) (hl2 : least ≤ 9223372036854775807) :
    Calls Tryz.prog 105 #[.pointer (some ⟨rb, 0, none⟩), .int .i64 least, .int .i64 most] w (RdOut ad rb g bs pl ⟨#[67, 111, 117, 110, 116]⟩ w (fun a b => .tuple #[a, b]) (.int .i64 0) ((cntR (bs.drop pl) least most).map fun x => (.int .i64 x.1, x.2))) := by
  have hmf : ∀ (fn : Fn) (first cap : Array Value) (w : World), (Instr.makeFunc fn first cap).run Tryz.prog w = .ok (.func fn first cap) w := fun _ _ _ _ => rfl
  have HB := boxes_Count rb least most w
  have lr : rb < w.heap.size := lt_of_heap h.lies
  have lg : g < w.heap.size := lt_of_heap h.raw
  have HL : Aside (rb < w.heap.size ∧ g < w.heap.size ∧ 8 ≤ rb) := ⟨lr, lg, h.lo⟩
  have hcf : ∀ caps w, (callFunc 111 caps).run Tryz.prog w = .ok (.enter 111 caps) w := fun caps w => by simp [go_sem]
  have HA : Aside (Lw ad ((((w.alloc (.cells #[.pointer (some ⟨rb, 0, none⟩)] 127)).alloc (.cells #[.int .i64 least] 3)).alloc (.cells #[.int .i64 most] 3)).alloc (.cells #[.int .i64 0] 3)) ∧ RdAt rb g bs pl .nilIface ((((w.alloc (.cells #[.pointer (some ⟨rb, 0, none⟩)] 127)).alloc (.cells #[.int .i64 least] 3)).alloc (.cells #[.int .i64 most] 3)).alloc (.cells #[.int .i64 0] 3)) ∧ (((((w.alloc (.cells #[.pointer (some ⟨rb, 0, none⟩)] 127)).alloc (.cells #[.int .i64 least] 3)).alloc (.cells #[.int .i64 most] 3)).alloc (.cells #[.int .i64 0] 3)).heap[w.heap.size]? = some (.cells #[.pointer (some ⟨rb, 0, none⟩)] 127 (0, 0))) ∧ (((((w.alloc (.cells #[.pointer (some ⟨rb, 0, none⟩)] 127)).alloc (.cells #[.int .i64 least] 3)).alloc (.cells #[.int .i64 most] 3)).alloc (.cells #[.int .i64 0] 3)).heap[w.heap.size + 1]? = some (.cells #[.int .i64 least] 3 (0, 0))) ∧ (((((w.alloc (.cells #[.pointer (some ⟨rb, 0, none⟩)] 127)).alloc (.cells #[.int .i64 least] 3)).alloc (.cells #[.int .i64 most] 3)).alloc (.cells #[.int .i64 0] 3)).heap[w.heap.size + 1 + 1]? = some (.cells #[.int .i64 most] 3 (0, 0))) ∧ (((((w.alloc (.cells #[.pointer (some ⟨rb, 0, none⟩)] 127)).alloc (.cells #[.int .i64 least] 3)).alloc (.cells #[.int .i64 most] 3)).alloc (.cells #[.int .i64 0] 3)).heap[w.heap.size + 1 + 1 + 1]? = some (.cells #[.int .i64 0] 3 (0, 0))) ∧ Kept [] w ((((w.alloc (.cells #[.pointer (some ⟨rb, 0, none⟩)] 127)).alloc (.cells #[.int .i64 least] 3)).alloc (.cells #[.int .i64 most] 3)).alloc (.cells #[.int .i64 0] 3))) := ⟨L.kept HB.2.2.2.2 (by simp), h.kept HB.2.2.2.2 (by simp) (by simp), HB⟩
  have hrd : ∀ w1, Kept [] ((((w.alloc (.cells #[.pointer (some ⟨rb, 0, none⟩)] 127)).alloc (.cells #[.int .i64 least] 3)).alloc (.cells #[.int .i64 most] 3)).alloc (.cells #[.int .i64 0] 3)) w1 → Lw ad w1 ∧ RdAt rb g bs pl .nilIface w1 ∧ w1.heap[w.heap.size]? = some (.cells #[.pointer (some ⟨rb, 0, none⟩)] 127 (0, 0)) ∧ w1.heap[w.heap.size + 1]? = some (.cells #[.int .i64 least] 3 (0, 0)) ∧ w1.heap[w.heap.size + 1 + 1]? = some (.cells #[.int .i64 most] 3 (0, 0)) ∧ w1.heap[w.heap.size + 1 + 1 + 1]? = some (.cells #[.int .i64 0] 3 (0, 0)) := fun w1 k => ⟨HA.out.1.kept k (by simp), HA.out.2.1.kept k (by simp) (by simp), k.heap HA.out.2.2.1 (by simp), k.heap HA.out.2.2.2.1 (by simp), k.heap HA.out.2.2.2.2.1 (by simp), k.heap HA.out.2.2.2.2.2.1 (by simp)⟩
  have HR : Aside (∀ w1, Kept [] ((((w.alloc (.cells #[.pointer (some ⟨rb, 0, none⟩)] 127)).alloc (.cells #[.int .i64 least] 3)).alloc (.cells #[.int .i64 most] 3)).alloc (.cells #[.int .i64 0] 3)) w1 → Lw ad w1 ∧ RdAt rb g bs pl .nilIface w1 ∧ w1.heap[w.heap.size]? = some (.cells #[.pointer (some ⟨rb, 0, none⟩)] 127 (0, 0)) ∧ w1.heap[w.heap.size + 1]? = some (.cells #[.int .i64 least] 3 (0, 0)) ∧ w1.heap[w.heap.size + 1 + 1]? = some (.cells #[.int .i64 most] 3 (0, 0)) ∧ w1.heap[w.heap.size + 1 + 1 + 1]? = some (.cells #[.int .i64 0] 3 (0, 0))) := hrd
  have HC : Aside (∀ caps w, (callFunc 111 caps).run Tryz.prog w = .ok (.enter 111 caps) w) := hcf
  clear L h HB hrd hcf lr lg
  cases hres : cntR (bs.drop pl) least most with
  | error c =>
    have HE : Aside (cntR (bs.drop pl) least most = .error c) := hres
    clear hres
    go_enter Tryz.func105, Tryz.ntmps105
    go_wp2_with (go_at_call 85; refine (attempt_err (c := c) (ad := ad) HA.out.2.1 _ 111 #[.pointer (some ⟨w.heap.size, 0, none⟩), .pointer (some ⟨w.heap.size + 1, 0, none⟩), .pointer (some ⟨w.heap.size + 1 + 1, 0, none⟩), .pointer (some ⟨w.heap.size + 1 + 1 + 1, 0, none⟩)] (HC.out _) [w.heap.size + 1 + 1 + 1] (by intro s hs; simp only [List.mem_singleton] at hs; subst hs; exact lt_of_heap HA.out.2.2.2.2.2.1) (fun w2 => w2.heap[w.heap.size + 1 + 1 + 1]? = some (.cells #[.int .i64 0] 3 (0, 0))) (fun w2 w3 hb hg => by rw [hb _ (by have := lt_of_heap HA.out.2.2.2.2.2.1; omega) (by have := HL.out; omega)]; exact hg) (fun w1 k1 => by
      have hh := HR.out w1 k1
      refine Calls.mono ((cntC hh.1 hh.2.1 least most hl1 hl2 _ _ _ _ _) hh.2.2.1 hh.2.2.2.1 hh.2.2.2.2.1 hh.2.2.2.2.2 (by have := HL.out; omega) (by have := HL.out; omega)) ?_
      intro e w2 h2
      rw [HE.out] at h2
      exact ⟨h2.2.1, h2.1, h2.2.2.1, h2.2.2.2⟩)).mono ?_; rintro e w2 ⟨f, hf0, rfl, hr2, hf2, hk2, hg2⟩; have d1 : w2.cell? ⟨w.heap.size + 1 + 1 + 1, 0, none⟩ = some (.int .i64 0) := (by rw [cellW_of hg2]; rfl); have d2 := frozenW_of hg2 0)
    have hsf : ¬ f = w.heap.size + 1 + 1 + 1 := by have := lt_of_heap HA.out.2.2.2.2.2.1; omega
    have hk3 : Kept [w.heap.size + 1 + 1 + 1] w2 (w2.setCell ⟨w.heap.size + 1 + 1 + 1, 0, none⟩ (.int .i64 0)) := (Kept.refl _ _).set (p := ⟨w.heap.size + 1 + 1 + 1, 0, none⟩) (.inl (by simp)) _
    refine bodyPost_ret (v := .tuple #[.int .i64 0, refv f]) (by simp [results, Tryz.results105, go_sem, d1]) rfl ?_
    unfold RdOut
    refine ⟨((HA.out.2.2.2.2.2.2.mono (by simp)).go hk2 (by simp <;> omega)).go hk3 (by simp <;> omega), f, by have := HA.out.2.2.2.2.2.2.size; omega, rfl, hr2.kept hk3 (by simp; have := HL.out; omega) (by simp; have := HL.out; omega), hk3.heap hf2 (by simpa using hsf)⟩
  | ok x =>
    obtain ⟨y, k⟩ := x
    have HE : Aside (cntR (bs.drop pl) least most = .ok (y, k)) := hres
    clear hres
    go_enter Tryz.func105, Tryz.ntmps105
    go_wp2_with (go_at_call 85; refine (attempt_ok (q := pl + k) HA.out.2.1 _ 111 #[.pointer (some ⟨w.heap.size, 0, none⟩), .pointer (some ⟨w.heap.size + 1, 0, none⟩), .pointer (some ⟨w.heap.size + 1 + 1, 0, none⟩), .pointer (some ⟨w.heap.size + 1 + 1 + 1, 0, none⟩)] (HC.out _) [w.heap.size + 1 + 1 + 1] (by intro s hs; simp only [List.mem_singleton] at hs; subst hs; exact lt_of_heap HA.out.2.2.2.2.2.1) (fun w2 => w2.heap[w.heap.size + 1 + 1 + 1]? = some (.cells #[.int .i64 y] 3 (0, 0))) (fun w2 w3 hb hg => by rw [hb _ (by have := lt_of_heap HA.out.2.2.2.2.2.1; omega) (by have := HL.out; omega)]; exact hg) (fun w1 k1 => by
      have hh := HR.out w1 k1
      refine Calls.mono ((cntC hh.1 hh.2.1 least most hl1 hl2 _ _ _ _ _) hh.2.2.1 hh.2.2.2.1 hh.2.2.2.2.1 hh.2.2.2.2.2 (by have := HL.out; omega) (by have := HL.out; omega)) ?_
      intro e w2 h2
      rw [HE.out] at h2
      exact ⟨h2.2.1, h2.1, h2.2.2.1, h2.2.2.2⟩)).mono ?_; rintro e w2 ⟨rfl, hr2, hk2, hg2⟩; have d1 : w2.cell? ⟨w.heap.size + 1 + 1 + 1, 0, none⟩ = some (.int .i64 y) := (by rw [cellW_of hg2]; rfl); have d2 := frozenW_of hg2 0)
    have hk3 : Kept [w.heap.size + 1 + 1 + 1] w2 (w2.setCell ⟨w.heap.size + 1 + 1 + 1, 0, none⟩ (.int .i64 y)) := (Kept.refl _ _).set (p := ⟨w.heap.size + 1 + 1 + 1, 0, none⟩) (.inl (by simp)) _
    refine bodyPost_ret (v := .tuple #[.int .i64 y, .nilIface]) (by simp [results, Tryz.results105, go_sem, d1]) rfl ?_
    unfold RdOut
    exact ⟨((HA.out.2.2.2.2.2.2.mono (by simp)).go hk2 (by simp <;> omega)).go hk3 (by simp <;> omega), rfl, hr2.kept hk3 (by simp; have := HL.out; omega) (by simp; have := HL.out; omega)⟩

theorem boxes_Text (rb : Nat) (most : Int) (w : World) : ((((w.alloc (.cells #[.pointer (some ⟨rb, 0, none⟩)] 127)).alloc (.cells #[.int .i64 most] 3)).alloc (.cells #[.string ⟨#[]⟩] 9)).heap[w.heap.size]? = some (.cells #[.pointer (some ⟨rb, 0, none⟩)] 127 (0, 0))) ∧ ((((w.alloc (.cells #[.pointer (some ⟨rb, 0, none⟩)] 127)).alloc (.cells #[.int .i64 most] 3)).alloc (.cells #[.string ⟨#[]⟩] 9)).heap[w.heap.size + 1]? = some (.cells #[.int .i64 most] 3 (0, 0))) ∧ ((((w.alloc (.cells #[.pointer (some ⟨rb, 0, none⟩)] 127)).alloc (.cells #[.int .i64 most] 3)).alloc (.cells #[.string ⟨#[]⟩] 9)).heap[w.heap.size + 1 + 1]? = some (.cells #[.string ⟨#[]⟩] 9 (0, 0))) ∧ Kept [] w (((w.alloc (.cells #[.pointer (some ⟨rb, 0, none⟩)] 127)).alloc (.cells #[.int .i64 most] 3)).alloc (.cells #[.string ⟨#[]⟩] 9)) := by
  have s1 : (w.alloc (.cells #[.pointer (some ⟨rb, 0, none⟩)] 127)).heap.size = w.heap.size + 1 := by simp
  have s2 : ((w.alloc (.cells #[.pointer (some ⟨rb, 0, none⟩)] 127)).alloc (.cells #[.int .i64 most] 3)).heap.size = w.heap.size + 1 + 1 := by simp
  refine ⟨?_, ?_, ?_, (((Kept.refl _ w).alloc _).alloc _).alloc _⟩
  · rw [Below.heap_alloc _ _ _ (by rw [s2]; omega), Below.heap_alloc _ _ _ (by rw [s1]; omega)]; exact heap_alloc_last _ _ _
  · rw [Below.heap_alloc _ _ _ (by rw [s2]; omega), ← s1]; exact heap_alloc_last _ _ _
  · rw [← s2]; exact heap_alloc_last _ _ _

theorem boxes_Byte (rb : Nat)  (w : World) : (((w.alloc (.cells #[.pointer (some ⟨rb, 0, none⟩)] 127)).alloc (.cells #[.int .u8 0] 5)).heap[w.heap.size]? = some (.cells #[.pointer (some ⟨rb, 0, none⟩)] 127 (0, 0))) ∧ (((w.alloc (.cells #[.pointer (some ⟨rb, 0, none⟩)] 127)).alloc (.cells #[.int .u8 0] 5)).heap[w.heap.size + 1]? = some (.cells #[.int .u8 0] 5 (0, 0))) ∧ Kept [] w ((w.alloc (.cells #[.pointer (some ⟨rb, 0, none⟩)] 127)).alloc (.cells #[.int .u8 0] 5)) := by
  have s1 : (w.alloc (.cells #[.pointer (some ⟨rb, 0, none⟩)] 127)).heap.size = w.heap.size + 1 := by simp
  refine ⟨?_, ?_, ((Kept.refl _ w).alloc _).alloc _⟩
  · rw [Below.heap_alloc _ _ _ (by rw [s1]; omega)]; exact heap_alloc_last _ _ _
  · rw [← s1]; exact heap_alloc_last _ _ _

set_option maxHeartbeats 1000000 in
theorem Byte_broken {rb g : Nat} {bs : List UInt8} {pl : Nat} {t : TypeId} {v : Value} {w : World} (h : RdAt rb g bs pl (.iface t v) w)  :
    Calls Tryz.prog 89 #[.pointer (some ⟨rb, 0, none⟩)] w fun e w' => e = .returned ((fun a b => .tuple #[a, b]) (.int .u8 0) (.iface t v)) ∧ Below w.heap.size w w' := by
  have hmf : ∀ (fn : Fn) (first cap : Array Value) (w : World), (Instr.makeFunc fn first cap).run Tryz.prog w = .ok (.func fn first cap) w := fun _ _ _ _ => rfl
  have HB := boxes_Byte rb  w
  have HA : Aside (RdAt rb g bs pl (.iface t v) ((w.alloc (.cells #[.pointer (some ⟨rb, 0, none⟩)] 127)).alloc (.cells #[.int .u8 0] 5)) ∧ Kept [] w ((w.alloc (.cells #[.pointer (some ⟨rb, 0, none⟩)] 127)).alloc (.cells #[.int .u8 0] 5)) ∧ ((w.alloc (.cells #[.pointer (some ⟨rb, 0, none⟩)] 127)).alloc (.cells #[.int .u8 0] 5)).heap[w.heap.size + 1]? = some (.cells #[.int .u8 0] 5 (0, 0))) := ⟨h.kept HB.2.2 (by simp) (by simp), HB.2.2, HB.2.1⟩
  clear h HB
  go_enter Tryz.func89, Tryz.ntmps89
  go_wp2_with (go_at_call 85; refine (attempt_broken HA.out.1 _ _).mono ?_; rintro e w2 ⟨rfl, hb2⟩; have hn2 : w2.heap[w.heap.size + 1]? = some (.cells #[.int .u8 0] 5 (0, 0)) := (by rw [hb2.block _ (lt_of_heap HA.out.2.2)]; exact HA.out.2.2); have d1 : w2.cell? ⟨w.heap.size + 1, 0, none⟩ = some (.int .u8 0) := (by rw [cellW_of hn2]; rfl); have d2 := frozenW_of hn2 0)
  have hbw : Below w.heap.size w w2 := ((HA.out.2.1.go (S' := []) (.of hb2) (by simp))).below (by simp) (Nat.le_refl _)
  refine bodyPost_ret (v := .tuple #[.int .u8 0, .iface t v]) (by simp [results, Tryz.results89, go_sem, d1]) rfl ⟨rfl, hbw.setCell (p := ⟨w.heap.size + 1, 0, none⟩) (by show w.heap.size ≤ w.heap.size + 1; omega) _⟩

set_option maxHeartbeats 2000000 in
theorem Byte_any {ad : Nat → Addr} {rb g : Nat} {bs : List UInt8} {pl : Nat} {w : World} (L : Lw ad w) (h : RdAt rb g bs pl .nilIface w)   :
    Calls Tryz.prog 89 #[.pointer (some ⟨rb, 0, none⟩)] w (RdOut ad rb g bs pl ⟨#[66, 121, 116, 101]⟩ w (fun a b => .tuple #[a, b]) (.int .u8 0) ((byteR (bs.drop pl)).map fun x => (.int .u8 x.1, x.2))) := by
  have hmf : ∀ (fn : Fn) (first cap : Array Value) (w : World), (Instr.makeFunc fn first cap).run Tryz.prog w = .ok (.func fn first cap) w := fun _ _ _ _ => rfl
  have HB := boxes_Byte rb  w
  have lr : rb < w.heap.size := lt_of_heap h.lies
  have lg : g < w.heap.size := lt_of_heap h.raw
  have HL : Aside (rb < w.heap.size ∧ g < w.heap.size ∧ 8 ≤ rb) := ⟨lr, lg, h.lo⟩
  have hcf : ∀ caps w, (callFunc 101 caps).run Tryz.prog w = .ok (.enter 101 caps) w := fun caps w => by simp [go_sem]
  have HA : Aside (Lw ad ((w.alloc (.cells #[.pointer (some ⟨rb, 0, none⟩)] 127)).alloc (.cells #[.int .u8 0] 5)) ∧ RdAt rb g bs pl .nilIface ((w.alloc (.cells #[.pointer (some ⟨rb, 0, none⟩)] 127)).alloc (.cells #[.int .u8 0] 5)) ∧ (((w.alloc (.cells #[.pointer (some ⟨rb, 0, none⟩)] 127)).alloc (.cells #[.int .u8 0] 5)).heap[w.heap.size]? = some (.cells #[.pointer (some ⟨rb, 0, none⟩)] 127 (0, 0))) ∧ (((w.alloc (.cells #[.pointer (some ⟨rb, 0, none⟩)] 127)).alloc (.cells #[.int .u8 0] 5)).heap[w.heap.size + 1]? = some (.cells #[.int .u8 0] 5 (0, 0))) ∧ Kept [] w ((w.alloc (.cells #[.pointer (some ⟨rb, 0, none⟩)] 127)).alloc (.cells #[.int .u8 0] 5))) := ⟨L.kept HB.2.2 (by simp), h.kept HB.2.2 (by simp) (by simp), HB⟩
  have hrd : ∀ w1, Kept [] ((w.alloc (.cells #[.pointer (some ⟨rb, 0, none⟩)] 127)).alloc (.cells #[.int .u8 0] 5)) w1 → Lw ad w1 ∧ RdAt rb g bs pl .nilIface w1 ∧ w1.heap[w.heap.size]? = some (.cells #[.pointer (some ⟨rb, 0, none⟩)] 127 (0, 0)) ∧ w1.heap[w.heap.size + 1]? = some (.cells #[.int .u8 0] 5 (0, 0)) := fun w1 k => ⟨HA.out.1.kept k (by simp), HA.out.2.1.kept k (by simp) (by simp), k.heap HA.out.2.2.1 (by simp), k.heap HA.out.2.2.2.1 (by simp)⟩
  have HR : Aside (∀ w1, Kept [] ((w.alloc (.cells #[.pointer (some ⟨rb, 0, none⟩)] 127)).alloc (.cells #[.int .u8 0] 5)) w1 → Lw ad w1 ∧ RdAt rb g bs pl .nilIface w1 ∧ w1.heap[w.heap.size]? = some (.cells #[.pointer (some ⟨rb, 0, none⟩)] 127 (0, 0)) ∧ w1.heap[w.heap.size + 1]? = some (.cells #[.int .u8 0] 5 (0, 0))) := hrd
  have HC : Aside (∀ caps w, (callFunc 101 caps).run Tryz.prog w = .ok (.enter 101 caps) w) := hcf
  clear L h HB hrd hcf lr lg
  cases hres : byteR (bs.drop pl) with
  | error c =>
    have HE : Aside (byteR (bs.drop pl) = .error c) := hres
    clear hres
    go_enter Tryz.func89, Tryz.ntmps89
    go_wp2_with (go_at_call 85; refine (attempt_err (c := c) (ad := ad) HA.out.2.1 _ 101 #[.pointer (some ⟨w.heap.size, 0, none⟩), .pointer (some ⟨w.heap.size + 1, 0, none⟩)] (HC.out _) [w.heap.size + 1] (by intro s hs; simp only [List.mem_singleton] at hs; subst hs; exact lt_of_heap HA.out.2.2.2.1) (fun w2 => w2.heap[w.heap.size + 1]? = some (.cells #[.int .u8 0] 5 (0, 0))) (fun w2 w3 hb hg => by rw [hb _ (by have := lt_of_heap HA.out.2.2.2.1; omega) (by have := HL.out; omega)]; exact hg) (fun w1 k1 => by
      have hh := HR.out w1 k1
      refine Calls.mono ((byteC hh.1 hh.2.1 _ _ _) hh.2.2.1 hh.2.2.2 (by have := HL.out; omega) (by have := HL.out; omega)) ?_
      intro e w2 h2
      rw [HE.out] at h2
      exact ⟨h2.2.1, h2.1, h2.2.2.1, h2.2.2.2⟩)).mono ?_; rintro e w2 ⟨f, hf0, rfl, hr2, hf2, hk2, hg2⟩; have d1 : w2.cell? ⟨w.heap.size + 1, 0, none⟩ = some (.int .u8 0) := (by rw [cellW_of hg2]; rfl); have d2 := frozenW_of hg2 0)
    have hsf : ¬ f = w.heap.size + 1 := by have := lt_of_heap HA.out.2.2.2.1; omega
    have hk3 : Kept [w.heap.size + 1] w2 (w2.setCell ⟨w.heap.size + 1, 0, none⟩ (.int .u8 0)) := (Kept.refl _ _).set (p := ⟨w.heap.size + 1, 0, none⟩) (.inl (by simp)) _
    refine bodyPost_ret (v := .tuple #[.int .u8 0, refv f]) (by simp [results, Tryz.results89, go_sem, d1]) rfl ?_
    unfold RdOut
    refine ⟨((HA.out.2.2.2.2.mono (by simp)).go hk2 (by simp <;> omega)).go hk3 (by simp <;> omega), f, by have := HA.out.2.2.2.2.size; omega, rfl, hr2.kept hk3 (by simp; have := HL.out; omega) (by simp; have := HL.out; omega), hk3.heap hf2 (by simpa using hsf)⟩
  | ok x =>
    obtain ⟨y, k⟩ := x
    have HE : Aside (byteR (bs.drop pl) = .ok (y, k)) := hres
    clear hres
    go_enter Tryz.func89, Tryz.ntmps89
    go_wp2_with (go_at_call 85; refine (attempt_ok (q := pl + k) HA.out.2.1 _ 101 #[.pointer (some ⟨w.heap.size, 0, none⟩), .pointer (some ⟨w.heap.size + 1, 0, none⟩)] (HC.out _) [w.heap.size + 1] (by intro s hs; simp only [List.mem_singleton] at hs; subst hs; exact lt_of_heap HA.out.2.2.2.1) (fun w2 => w2.heap[w.heap.size + 1]? = some (.cells #[.int .u8 y] 5 (0, 0))) (fun w2 w3 hb hg => by rw [hb _ (by have := lt_of_heap HA.out.2.2.2.1; omega) (by have := HL.out; omega)]; exact hg) (fun w1 k1 => by
      have hh := HR.out w1 k1
      refine Calls.mono ((byteC hh.1 hh.2.1 _ _ _) hh.2.2.1 hh.2.2.2 (by have := HL.out; omega) (by have := HL.out; omega)) ?_
      intro e w2 h2
      rw [HE.out] at h2
      exact ⟨h2.2.1, h2.1, h2.2.2.1, h2.2.2.2⟩)).mono ?_; rintro e w2 ⟨rfl, hr2, hk2, hg2⟩; have d1 : w2.cell? ⟨w.heap.size + 1, 0, none⟩ = some (.int .u8 y) := (by rw [cellW_of hg2]; rfl); have d2 := frozenW_of hg2 0)
    have hk3 : Kept [w.heap.size + 1] w2 (w2.setCell ⟨w.heap.size + 1, 0, none⟩ (.int .u8 y)) := (Kept.refl _ _).set (p := ⟨w.heap.size + 1, 0, none⟩) (.inl (by simp)) _
    refine bodyPost_ret (v := .tuple #[.int .u8 y, .nilIface]) (by simp [results, Tryz.results89, go_sem, d1]) rfl ?_
    unfold RdOut
    exact ⟨((HA.out.2.2.2.2.mono (by simp)).go hk2 (by simp <;> omega)).go hk3 (by simp <;> omega), rfl, hr2.kept hk3 (by simp; have := HL.out; omega) (by simp; have := HL.out; omega)⟩

theorem boxes_End (rb : Nat)  (w : World) : ((w.alloc (.cells #[.pointer (some ⟨rb, 0, none⟩)] 127)).heap[w.heap.size]? = some (.cells #[.pointer (some ⟨rb, 0, none⟩)] 127 (0, 0))) ∧ Kept [] w (w.alloc (.cells #[.pointer (some ⟨rb, 0, none⟩)] 127)) := by
  refine ⟨?_, (Kept.refl _ w).alloc _⟩
  · exact heap_alloc_last _ _ _

set_option maxHeartbeats 1000000 in
theorem End_broken {rb g : Nat} {bs : List UInt8} {pl : Nat} {t : TypeId} {v : Value} {w : World} (h : RdAt rb g bs pl (.iface t v) w)  :
    Calls Tryz.prog 71 #[.pointer (some ⟨rb, 0, none⟩)] w fun e w' => e = .returned ((fun _ b => b) Value.nilIface (.iface t v)) ∧ Below w.heap.size w w' := by
  have hmf : ∀ (fn : Fn) (first cap : Array Value) (w : World), (Instr.makeFunc fn first cap).run Tryz.prog w = .ok (.func fn first cap) w := fun _ _ _ _ => rfl
  have HB := boxes_End rb  w
  have HA : Aside (RdAt rb g bs pl (.iface t v) (w.alloc (.cells #[.pointer (some ⟨rb, 0, none⟩)] 127)) ∧ Kept [] w (w.alloc (.cells #[.pointer (some ⟨rb, 0, none⟩)] 127))) := ⟨h.kept HB.2 (by simp) (by simp), HB.2⟩
  clear h HB
  go_enter Tryz.func71, Tryz.ntmps71
  go_wp2_with (go_at_call 85; refine (attempt_broken HA.out.1 _ _).mono ?_; rintro e w2 ⟨rfl, hb2⟩)
  have hbw : Below w.heap.size w w2 := ((HA.out.2.go (S' := []) (.of hb2) (by simp))).below (by simp) (Nat.le_refl _)
  go_ret
  exact ⟨rfl, hbw⟩

set_option maxHeartbeats 2000000 in
theorem End_any {ad : Nat → Addr} {rb g : Nat} {bs : List UInt8} {pl : Nat} {w : World} (L : Lw ad w) (h : RdAt rb g bs pl .nilIface w)   :
    Calls Tryz.prog 71 #[.pointer (some ⟨rb, 0, none⟩)] w (RdOut ad rb g bs pl ⟨#[69, 110, 100]⟩ w (fun _ b => b) Value.nilIface ((endR (bs.drop pl)).map fun x => (.nilIface, x.2))) := by
  have hmf : ∀ (fn : Fn) (first cap : Array Value) (w : World), (Instr.makeFunc fn first cap).run Tryz.prog w = .ok (.func fn first cap) w := fun _ _ _ _ => rfl
  have HB := boxes_End rb  w
  have lr : rb < w.heap.size := lt_of_heap h.lies
  have lg : g < w.heap.size := lt_of_heap h.raw
  have HL : Aside (rb < w.heap.size ∧ g < w.heap.size ∧ 8 ≤ rb) := ⟨lr, lg, h.lo⟩
  have hcf : ∀ caps w, (callFunc 86 caps).run Tryz.prog w = .ok (.enter 86 caps) w := fun caps w => by simp [go_sem]
  have HA : Aside (Lw ad (w.alloc (.cells #[.pointer (some ⟨rb, 0, none⟩)] 127)) ∧ RdAt rb g bs pl .nilIface (w.alloc (.cells #[.pointer (some ⟨rb, 0, none⟩)] 127)) ∧ ((w.alloc (.cells #[.pointer (some ⟨rb, 0, none⟩)] 127)).heap[w.heap.size]? = some (.cells #[.pointer (some ⟨rb, 0, none⟩)] 127 (0, 0))) ∧ Kept [] w (w.alloc (.cells #[.pointer (some ⟨rb, 0, none⟩)] 127))) := ⟨L.kept HB.2 (by simp), h.kept HB.2 (by simp) (by simp), HB⟩
  have hrd : ∀ w1, Kept [] (w.alloc (.cells #[.pointer (some ⟨rb, 0, none⟩)] 127)) w1 → Lw ad w1 ∧ RdAt rb g bs pl .nilIface w1 ∧ w1.heap[w.heap.size]? = some (.cells #[.pointer (some ⟨rb, 0, none⟩)] 127 (0, 0)) := fun w1 k => ⟨HA.out.1.kept k (by simp), HA.out.2.1.kept k (by simp) (by simp), k.heap HA.out.2.2.1 (by simp)⟩
  have HR : Aside (∀ w1, Kept [] (w.alloc (.cells #[.pointer (some ⟨rb, 0, none⟩)] 127)) w1 → Lw ad w1 ∧ RdAt rb g bs pl .nilIface w1 ∧ w1.heap[w.heap.size]? = some (.cells #[.pointer (some ⟨rb, 0, none⟩)] 127 (0, 0))) := hrd
  have HC : Aside (∀ caps w, (callFunc 86 caps).run Tryz.prog w = .ok (.enter 86 caps) w) := hcf
  clear L h HB hrd hcf lr lg
  cases hres : endR (bs.drop pl) with
  | error c =>
    have HE : Aside (endR (bs.drop pl) = .error c) := hres
    clear hres
    go_enter Tryz.func71, Tryz.ntmps71
    go_wp2_with (go_at_call 85; refine (attempt_err (c := c) (ad := ad) HA.out.2.1 _ 86 #[.pointer (some ⟨w.heap.size, 0, none⟩)] (HC.out _) [] (by simp) (fun _ => True) (fun _ _ _ _ => trivial) (fun w1 k1 => by
      have hh := HR.out w1 k1
      refine Calls.mono ((endC hh.1 hh.2.1 _) hh.2.2 ) ?_
      intro e w2 h2
      rw [HE.out] at h2
      exact ⟨h2.2.1, h2.1.mono (by simp), h2.2.2, trivial⟩)).mono ?_; rintro e w2 ⟨f, hf0, rfl, hr2, hf2, hk2, hg2⟩)
    go_ret
    unfold RdOut
    refine ⟨(HA.out.2.2.2.mono (by simp)).go hk2 (by simp), f, by have := HA.out.2.2.2.size; omega, rfl, hr2, hf2⟩
  | ok x =>
    obtain ⟨y, k⟩ := x
    have HE : Aside (endR (bs.drop pl) = .ok (y, k)) := hres
    clear hres
    go_enter Tryz.func71, Tryz.ntmps71
    go_wp2_with (go_at_call 85; refine (attempt_ok (q := pl + k) HA.out.2.1 _ 86 #[.pointer (some ⟨w.heap.size, 0, none⟩)] (HC.out _) [] (by simp) (fun _ => True) (fun _ _ _ _ => trivial) (fun w1 k1 => by
      have hh := HR.out w1 k1
      refine Calls.mono ((endC hh.1 hh.2.1 _) hh.2.2 ) ?_
      intro e w2 h2
      rw [HE.out] at h2
      exact ⟨h2.2.1, h2.1.mono (by simp), h2.2.2, trivial⟩)).mono ?_; rintro e w2 ⟨rfl, hr2, hk2, hg2⟩)
    go_ret
    unfold RdOut
    exact ⟨(HA.out.2.2.2.mono (by simp)).go hk2 (by simp), rfl, hr2⟩

end Go.Proofs.YteffpnjgchihpaaGreatDoor
