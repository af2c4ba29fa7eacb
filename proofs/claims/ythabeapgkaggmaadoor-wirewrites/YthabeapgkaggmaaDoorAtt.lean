
/-
  (*Reader).attempt: its deferred function.
-/
import Derived.Test.YthabeapgkaggmaaDoorRd2
import Derived.Deep.RegionWith
namespace Go.Proofs.YthabeapgkaggmaaDoor
open Go.RowKit
set_option maxRecDepth 100000

theorem noStop (w : World) : (Instr.typeAssert .nilIface 20 89 true).run Tryd.prog w = .ok (.tuple #[.agg #[.nilIface], .bool false]) w := by kernel_rfl
theorem isStop (v : Value) (w : World) : (Instr.typeAssert (.iface 89 v) 20 89 true).run Tryd.prog w = .ok (.tuple #[v, .bool true]) w := by kernel_rfl

theorem new_wire (ca : ByteArray) (at_ : Nat) (t : TypeId) (v : Value) (w : World) :
    Calls Tryd.prog 18 #[.string ⟨#[119, 105, 114, 101]⟩, .string ca, .int .i64 at_, .iface t v] w fun e w' => e = .returned (.iface 64 (.pointer (some ⟨w.heap.size, 0, none⟩))) ∧ w' = w.alloc (.cells #[.string ⟨#[119, 105, 114, 101]⟩, .string ca, .int .i64 at_, .iface t v] 66) := by
  have hm : max (at_ : Int) (-1) = (at_ : Int) := by omega
  go_enter Tryd.func18, Tryd.ntmps18
  go_wp2
  go_ret
  exact ⟨rfl, rfl⟩

theorem catch_idle (sp rp cp ep : Addr) (w : World) :
    CallsD Tryd.prog 39 #[.pointer (some sp), .pointer (some rp), .pointer (some cp), .pointer (some ep)] .returning w fun e u' w' => e = .returned (.tuple #[]) ∧ u' = .returning ∧ w' = w.alloc (.cells #[.nilIface] 89) := by
  have hn := noStop
  refine callsD_of_wpS Tryd.func39 rfl fun c₀ cs hu => ?_
  apply wpS_seq
  apply wpS_region
  simp [wpOpsS, go_sem, recoverD, hu, Tryd.ntmps39, Exit.thenS, hn]
  apply wpS_seq
  apply wpS_region
  simp [wpOpsS, go_sem, Exit.thenS]
  refine wpS_cond (t := false) (by simp [Act.eval]) ?_
  simp only [Bool.false_eq_true, if_false]
  refine wpS_of_wp (wp_skip ?_)
  cases c₀
  simp_all [bodyPostS, results, Tryd.results39]

theorem rep24 : Array.replicate 24 undef = #[undef, undef, undef, undef, undef, undef, undef, undef, undef, undef, undef, undef, undef, undef, undef, undef, undef, undef, undef, undef, undef, undef, undef, undef] := rfl

/-- What the deferred function leaves behind a reading that gave up. -/
def Caught (rb g : Nat) (bs : List UInt8) (st : Nat) (ca : ByteArray) (t : TypeId) (v : Value) (ev : Nat) (w w' : World) : Prop :=
  ∃ f, w.heap.size ≤ f ∧ RdAt rb g bs st (.iface 64 (.pointer (some ⟨f, 0, none⟩))) w' ∧ w'.heap[f]? = some (.cells #[.string ⟨#[119, 105, 114, 101]⟩, .string ca, .int .i64 st, .iface t v] 66 (0, 0)) ∧ w'.heap[ev]? = some (.cells #[.iface 64 (.pointer (some ⟨f, 0, none⟩))] 35 (0, 0)) ∧ Kept [rb, ev] w w'

theorem heap_alloc_last (w : World) (cs : Array Value) (t : TypeId) : (w.alloc (.cells cs t)).heap[w.heap.size]? = some (.cells cs t (0, 0)) := (MapKept.heap_alloc w _).1

/-- The world behind the store of the refusal. -/
def afterNew (rb st : Nat) (ca : ByteArray) (t : TypeId) (v : Value) (w2 : World) : World := ((w2.setCell ⟨rb, 2, none⟩ (.iface 64 (.pointer (some ⟨w2.heap.size, 0, none⟩)))).alloc (.cells #[.string ⟨#[119, 105, 114, 101]⟩, .string ca, .int .i64 st, .iface t v] 66)).drew

theorem afterNew_ok {rb g : Nat} {bs : List UInt8} {st : Nat} {ca : ByteArray} {t : TypeId} {v br : Value} {w2 : World} (hr : RdAt rb g bs st br w2) :
    RdAt rb g bs st (.iface 64 (.pointer (some ⟨w2.heap.size, 0, none⟩))) (afterNew rb st ca t v w2) ∧ (afterNew rb st ca t v w2).heap[w2.heap.size]? = some (.cells #[.string ⟨#[119, 105, 114, 101]⟩, .string ca, .int .i64 st, .iface t v] 66 (0, 0)) ∧ Kept [rb] w2 (afterNew rb st ca t v w2) := by
  have h1 := hr.broke (.iface 64 (.pointer (some ⟨w2.heap.size, 0, none⟩)))
  have hsz : (w2.setCell ⟨rb, 2, none⟩ (.iface 64 (.pointer (some ⟨w2.heap.size, 0, none⟩)))).heap.size = w2.heap.size := by simp [World.setCell]
  have k1 : Kept [rb] w2 (w2.setCell ⟨rb, 2, none⟩ (.iface 64 (.pointer (some ⟨w2.heap.size, 0, none⟩)))) := (Kept.refl _ w2).set (p := ⟨rb, 2, none⟩) (.inl (by simp)) _
  have k2 : Kept [] (w2.setCell ⟨rb, 2, none⟩ (.iface 64 (.pointer (some ⟨w2.heap.size, 0, none⟩)))) (afterNew rb st ca t v w2) := ((Kept.refl _ _).alloc _).drew
  refine ⟨h1.kept k2 (by simp) (by simp), ?_, k1.go k2 (by simp)⟩
  have := heap_alloc_last (w2.setCell ⟨rb, 2, none⟩ (.iface 64 (.pointer (some ⟨w2.heap.size, 0, none⟩)))) #[.string ⟨#[119, 105, 114, 101]⟩, .string ca, .int .i64 st, .iface t v] 66
  rw [hsz] at this
  exact this

set_option maxHeartbeats 4000000 in
theorem catch_panicking (sb rv cv ev rb : Nat) (st q : Nat) (ca : ByteArray) (g : Nat) (bs : List UInt8) (br : Value) (t : TypeId) (v x : Value) (w : World) (hr : RdAt rb g bs q br w) (hst : st ≤ bs.length) (hs : w.cell? ⟨sb, 0, none⟩ = some (.int .i64 st)) (hrv : w.cell? ⟨rv, 0, none⟩ = some (.pointer (some ⟨rb, 0, none⟩)))
    (hcv : w.cell? ⟨cv, 0, none⟩ = some (.string ca)) (hev : w.heap[ev]? = some (.cells #[x] 35 (0, 0))) (n1 : ¬ sb = rb) (n2 : ¬ rv = rb) (n3 : ¬ cv = rb) (n4 : ¬ ev = rb) (n5 : ¬ ev = g) :
    CallsD Tryd.prog 39 #[.pointer (some ⟨sb, 0, none⟩), .pointer (some ⟨rv, 0, none⟩), .pointer (some ⟨cv, 0, none⟩), .pointer (some ⟨ev, 0, none⟩)] (.panicking [{ v := .iface 89 (.agg #[.iface t v]), recovered := false }]) w fun e u' w' => e = .returned (.tuple #[]) ∧ u' = .panicking [{ v := .iface 89 (.agg #[.iface t v]), recovered := true }] ∧ Caught rb g bs st ca t v ev w w' := by
  have hn := isStop
  refine callsD_of_wpS Tryd.func39 rfl fun c₀ cs hu => ?_
  apply wpS_seq
  apply wpS_region
  simp [wpOpsS, go_sem, recoverD, hu, Tryd.ntmps39, Exit.thenS, hn, rep24]
  apply wpS_seq
  apply wpS_region
  simp [wpOpsS, go_sem, Exit.thenS]
  refine wpS_cond (t := true) (by simp [Act.eval]) ?_
  simp only [if_true]
  refine wpS_of_wp (wp_mono (Q := fun e a' w' => e = .normal ∧ a'.defers = [] ∧ Caught rb g bs st ca t v ev w w') ?_ ?_)
  · clear hu hn
    have kw : Kept [] w (w.alloc (.cells #[.iface t v] 89)) := (Kept.refl _ _).alloc _
    have HR : Aside (RdAt rb g bs q br (w.alloc (.cells #[.iface t v] 89)) ∧ st ≤ bs.length ∧ (w.alloc (.cells #[.iface t v] 89)).heap[ev]? = some (.cells #[x] 35 (0, 0)) ∧ Kept [] w (w.alloc (.cells #[.iface t v] 89))) := ⟨hr.kept kw (by simp) (by simp), hst, kw.heap hev (by simp), kw⟩
    have hsp : (w.alloc (.cells #[.iface t v] 89)).cell? ⟨w.heap.size, 0, none⟩ = some (.iface t v) := by rw [cellW_of (heap_alloc_last _ _ _)]; rfl
    have n6 : ¬ w.heap.size = rb := by have := lt_of_heap hr.lies; omega
    have kc : ∀ p y, w.cell? p = some y → (w.alloc (.cells #[.iface t v] 89)).cell? p = some y := fun p y h => ((Below.refl _ w).alloc (Nat.le_refl _) _).cell (World.block_lt_of_cell? _ _ h) ▸ h
    have hs1 := kc _ _ hs
    have hrv1 := kc _ _ hrv
    have hcv1 := kc _ _ hcv
    clear kc kw
    have n7 : ¬ rb = w.heap.size := fun e => n6 e.symm
    clear hs hrv hcv hr hst hev
    generalize hw1 : w.alloc (.cells #[.iface t v] 89) = w1 at *
    have hc1 := HR.out.1.c1
    have hc2 := HR.out.1.c2
    have hf1 := HR.out.1.frozen 1
    have hf2 := HR.out.1.frozen 2
    have fe := frozenW_of HR.out.2.2.1 0
    have ce : w1.cell? ⟨ev, 0, none⟩ = some x := by rw [cellW_of HR.out.2.2.1]; rfl
    have q1 : rb < w1.heap.size := lt_of_heap HR.out.1.lies
    have q2 : rv < w1.heap.size := World.block_lt_of_cell? _ _ hrv1
    have q3 : ev < w1.heap.size := lt_of_heap HR.out.2.2.1
    clear hw1
    generalize w.heap.size = sp at *
    go_wp2
    have r1 : (w1.setCell ⟨rb, 1, none⟩ (.int .i64 st)).cell? ⟨rv, 0, none⟩ = some (.pointer (some ⟨rb, 0, none⟩)) := by rw [World.cell?_of_block (w := w1) (Below.heap_setCell _ _ _ _ n2)]; exact hrv1
    have r2 : (w1.setCell ⟨rb, 1, none⟩ (.int .i64 st)).cell? ⟨cv, 0, none⟩ = some (.string ca) := by rw [World.cell?_of_block (w := w1) (Below.heap_setCell _ _ _ _ n3)]; exact hcv1
    have r3 : (w1.setCell ⟨rb, 1, none⟩ (.int .i64 st)).cell? ⟨sb, 0, none⟩ = some (.int .i64 st) := by rw [World.cell?_of_block (w := w1) (Below.heap_setCell _ _ _ _ n1)]; exact hs1
    have r4 : (w1.setCell ⟨rb, 1, none⟩ (.int .i64 st)).cell? ⟨sp, 0, none⟩ = some (.iface t v) := by rw [World.cell?_of_block (w := w1) (Below.heap_setCell _ _ _ _ n6)]; exact hsp
    have hrd := HR.out.1.place st HR.out.2.1
    have r5 := hrd.c2
    have r6 := hrd.frozen 2
    have r7 : (w1.setCell ⟨rb, 1, none⟩ (.int .i64 st)).heap[ev]? = some (.cells #[x] 35 (0, 0)) := by rw [Below.heap_setCell _ _ _ _ n4]; exact HR.out.2.2.1
    have r8 := frozenW_of r7 0
    have r9 : (w1.setCell ⟨rb, 1, none⟩ (.int .i64 st)).cell? ⟨ev, 0, none⟩ = some x := by rw [cellW_of r7]; rfl
    have s1 : rb < (w1.setCell ⟨rb, 1, none⟩ (.int .i64 st)).heap.size := lt_of_heap hrd.lies
    have s2 : rv < (w1.setCell ⟨rb, 1, none⟩ (.int .i64 st)).heap.size := World.block_lt_of_cell? _ _ r1
    have s3 : ev < (w1.setCell ⟨rb, 1, none⟩ (.int .i64 st)).heap.size := lt_of_heap r7
    have hsz : (w1.setCell ⟨rb, 1, none⟩ (.int .i64 st)).heap.size = w1.heap.size := by simp [World.setCell]
    have HK : Aside (RdAt rb g bs st br (w1.setCell ⟨rb, 1, none⟩ (.int .i64 st)) ∧ (w1.setCell ⟨rb, 1, none⟩ (.int .i64 st)).heap[ev]? = some (.cells #[x] 35 (0, 0)) ∧ Kept [rb] w (w1.setCell ⟨rb, 1, none⟩ (.int .i64 st))) := ⟨hrd, r7, (HR.out.2.2.2.mono (by simp)).set (p := ⟨rb, 1, none⟩) (.inl (by simp)) _⟩
    clear hrd r7 HR hs1 hrv1 hcv1 hsp hc1 hc2 hf1 hf2 fe ce q1 q2 q3 hsz
    generalize w1.setCell ⟨rb, 1, none⟩ (.int .i64 st) = w2 at *
    rename_i Q0 K0 hK0
    have hS : K0 { tmps := #[.pointer (some ⟨sb, 0, none⟩), .pointer (some ⟨rv, 0, none⟩), .pointer (some ⟨cv, 0, none⟩), .pointer (some ⟨ev, 0, none⟩), .pointer (some ⟨sp, 0, none⟩), .bool true, .tuple #[.agg #[.iface t v], .bool true], .iface 89 (.agg #[.iface t v]), .tuple #[.agg #[.iface t v], .bool true], .agg #[.iface t v], .bool true, .bool true, .pointer (some ⟨rb, 0, none⟩), .int .i64 st, .pointer (some ⟨rb, 0, none⟩), .pointer (some ⟨rb, 1, none⟩), .pointer (some ⟨rb, 0, none⟩), .string ca, .int .i64 st, .pointer (some ⟨sp, 0, none⟩), .iface t v, (.iface 64 (.pointer (some ⟨w2.heap.size, 0, none⟩))), .pointer (some ⟨rb, 0, none⟩), .pointer (some ⟨rb, 2, none⟩), undef, undef, undef, undef], defers := [] } (afterNew rb st ca t v w2) := by
      refine hK0 _ _ ?_
      clear hK0
      obtain ⟨a1, a2, a3⟩ := afterNew_ok (ca := ca) (t := t) (v := v) HK.out.1
      have hsn : w2.heap.size < (afterNew rb st ca t v w2).heap.size := lt_of_heap a2
      have HQ : Aside (RdAt rb g bs st (.iface 64 (.pointer (some ⟨w2.heap.size, 0, none⟩))) (afterNew rb st ca t v w2) ∧ (afterNew rb st ca t v w2).heap[w2.heap.size]? = some (.cells #[.string ⟨#[119, 105, 114, 101]⟩, .string ca, .int .i64 st, .iface t v] 66 (0, 0)) ∧ Kept [rb] w (afterNew rb st ca t v w2) ∧ (afterNew rb st ca t v w2).heap[ev]? = some (.cells #[x] 35 (0, 0))) := ⟨a1, a2, HK.out.2.2.trans a3, a3.heap HK.out.2.1 (by simpa using n4)⟩
      have b1 : (afterNew rb st ca t v w2).cell? ⟨rv, 0, none⟩ = some (.pointer (some ⟨rb, 0, none⟩)) := by rw [World.cell?_of_block (w := w2) (a3.block _ s2 (by simpa using n2))]; exact r1
      have b2 := a1.c2
      have b3 := frozenW_of HQ.out.2.2.2 0
      have b4 : (afterNew rb st ca t v w2).cell? ⟨ev, 0, none⟩ = some x := by rw [cellW_of HQ.out.2.2.2]; rfl
      have hws : w.heap.size ≤ w2.heap.size := HK.out.2.2.size
      have HF : Aside (¬ w2.heap.size = ev ∧ w.heap.size ≤ w2.heap.size) := ⟨by omega, hws⟩
      clear a1 a2 a3 HK r1 r2 r3 r4 r5 r6 r8 r9 s1 s2 s3 hsn hws
      generalize afterNew rb st ca t v w2 = w3 at *
      generalize w2.heap.size = f at *
      go_wp2
      refine ⟨f, HF.out.2, ?_, ?_, ?_, ?_⟩
      · exact HQ.out.1.kept (S := [ev]) ((Kept.refl _ _).set (p := ⟨ev, 0, none⟩) (.inl (by simp)) _) (by simpa using fun e => n4 e.symm) (by simpa using fun e => n5 e.symm)
      · rw [Below.heap_setCell _ _ _ _ HF.out.1]; exact HQ.out.2.1
      · rw [heap_setCell_at HQ.out.2.2.2]; rfl
      · exact (HQ.out.2.2.1.mono (by simp)).set (p := ⟨ev, 0, none⟩) (.inl (by simp)) _
    clear HK
    go_region_with (go_at_call 18; refine (new_wire ca st t v _).mono ?_; rintro e w3 ⟨rfl, rfl⟩)
    all_goals exact hS
  · rintro e a' w' ⟨rfl, hd, hc⟩
    cases c₀
    simp_all [bodyPostS, results, Tryd.results39]
end Go.Proofs.YthabeapgkaggmaaDoor
