
/-
  (*Reader).attempt: its deferred function. (*Reader).attempt.
-/
import Derived.Test.YteffpnjgchihpaaGreatDoorPB09
import Derived.Deep.RegionWith
namespace Go.Proofs.YteffpnjgchihpaaGreatDoor
open Go.RowKit
set_option maxRecDepth 100000

theorem noStop (w : World) : (Instr.typeAssert .nilIface 20 183 true).run Tryz.prog w = .ok (.tuple #[.agg #[.nilIface], .bool false]) w := by kernel_rfl
theorem isStop (v : Value) (w : World) : (Instr.typeAssert (.iface 183 v) 20 183 true).run Tryz.prog w = .ok (.tuple #[v, .bool true]) w := by kernel_rfl

theorem new_wire (ca : ByteArray) (at_ : Nat) (t : TypeId) (v : Value) (w : World) :
    Calls Tryz.prog 22 #[.string ⟨#[119, 105, 114, 101]⟩, .string ca, .int .i64 at_, .iface t v] w fun e w' => e = .returned (.iface 85 (.pointer (some ⟨w.heap.size, 0, none⟩))) ∧ w' = w.alloc (.cells #[.string ⟨#[119, 105, 114, 101]⟩, .string ca, .int .i64 at_, .iface t v] 87) := by
  have hm : max (at_ : Int) (-1) = (at_ : Int) := by omega
  go_enter Tryz.func22, Tryz.ntmps22
  go_wp2
  go_ret
  exact ⟨rfl, rfl⟩

theorem catch_idle (sp rp cp ep : Addr) (w : World) :
    CallsD Tryz.prog 100 #[.pointer (some sp), .pointer (some rp), .pointer (some cp), .pointer (some ep)] .returning w fun e u' w' => e = .returned (.tuple #[]) ∧ u' = .returning ∧ w' = w.alloc (.cells #[.nilIface] 183) := by
  have hn := noStop
  refine callsD_of_wpS Tryz.func100 rfl fun c₀ cs hu => ?_
  apply wpS_seq
  apply wpS_region
  simp [wpOpsS, go_sem, recoverD, hu, Tryz.ntmps100, Exit.thenS, hn]
  apply wpS_seq
  apply wpS_region
  simp [wpOpsS, go_sem, Exit.thenS]
  refine wpS_cond (t := false) (by simp [Act.eval]) ?_
  simp only [Bool.false_eq_true, if_false]
  refine wpS_of_wp (wp_skip ?_)
  cases c₀
  simp_all [bodyPostS, results, Tryz.results100]

theorem rep24 : Array.replicate 24 undef = #[undef, undef, undef, undef, undef, undef, undef, undef, undef, undef, undef, undef, undef, undef, undef, undef, undef, undef, undef, undef, undef, undef, undef, undef] := rfl

/-- What the deferred function leaves behind a reading that gave up. -/
def Caught (rb g : Nat) (bs : List UInt8) (st : Nat) (ca : ByteArray) (t : TypeId) (v : Value) (ev : Nat) (w w' : World) : Prop :=
  ∃ f, w.heap.size ≤ f ∧ RdAt rb g bs st (.iface 85 (.pointer (some ⟨f, 0, none⟩))) w' ∧ w'.heap[f]? = some (.cells #[.string ⟨#[119, 105, 114, 101]⟩, .string ca, .int .i64 st, .iface t v] 87 (0, 0)) ∧ w'.heap[ev]? = some (.cells #[.iface 85 (.pointer (some ⟨f, 0, none⟩))] 42 (0, 0)) ∧ Kept [rb, ev] w w'

theorem heap_alloc_last (w : World) (cs : Array Value) (t : TypeId) : (w.alloc (.cells cs t)).heap[w.heap.size]? = some (.cells cs t (0, 0)) := (MapKept.heap_alloc w _).1

/-- The world behind the store of the refusal. -/
def afterNew (rb st : Nat) (ca : ByteArray) (t : TypeId) (v : Value) (w2 : World) : World := ((w2.setCell ⟨rb, 2, none⟩ (.iface 85 (.pointer (some ⟨w2.heap.size, 0, none⟩)))).alloc (.cells #[.string ⟨#[119, 105, 114, 101]⟩, .string ca, .int .i64 st, .iface t v] 87)).drew

theorem afterNew_ok {rb g : Nat} {bs : List UInt8} {st : Nat} {ca : ByteArray} {t : TypeId} {v br : Value} {w2 : World} (hr : RdAt rb g bs st br w2) :
    RdAt rb g bs st (.iface 85 (.pointer (some ⟨w2.heap.size, 0, none⟩))) (afterNew rb st ca t v w2) ∧ (afterNew rb st ca t v w2).heap[w2.heap.size]? = some (.cells #[.string ⟨#[119, 105, 114, 101]⟩, .string ca, .int .i64 st, .iface t v] 87 (0, 0)) ∧ Kept [rb] w2 (afterNew rb st ca t v w2) := by
  have h1 := hr.broke (.iface 85 (.pointer (some ⟨w2.heap.size, 0, none⟩)))
  have hsz : (w2.setCell ⟨rb, 2, none⟩ (.iface 85 (.pointer (some ⟨w2.heap.size, 0, none⟩)))).heap.size = w2.heap.size := by simp [World.setCell]
  have k1 : Kept [rb] w2 (w2.setCell ⟨rb, 2, none⟩ (.iface 85 (.pointer (some ⟨w2.heap.size, 0, none⟩)))) := (Kept.refl _ w2).set (p := ⟨rb, 2, none⟩) (.inl (by simp)) _
  have k2 : Kept [] (w2.setCell ⟨rb, 2, none⟩ (.iface 85 (.pointer (some ⟨w2.heap.size, 0, none⟩)))) (afterNew rb st ca t v w2) := ((Kept.refl _ _).alloc _).drew
  refine ⟨h1.kept k2 (by simp) (by simp), ?_, k1.go k2 (by simp)⟩
  have := heap_alloc_last (w2.setCell ⟨rb, 2, none⟩ (.iface 85 (.pointer (some ⟨w2.heap.size, 0, none⟩)))) #[.string ⟨#[119, 105, 114, 101]⟩, .string ca, .int .i64 st, .iface t v] 87
  rw [hsz] at this
  exact this

set_option maxHeartbeats 4000000 in
theorem catch_panicking (sb rv cv ev rb : Nat) (st q : Nat) (ca : ByteArray) (g : Nat) (bs : List UInt8) (br : Value) (t : TypeId) (v x : Value) (w : World) (hr : RdAt rb g bs q br w) (hst : st ≤ bs.length) (hs : w.cell? ⟨sb, 0, none⟩ = some (.int .i64 st)) (hrv : w.cell? ⟨rv, 0, none⟩ = some (.pointer (some ⟨rb, 0, none⟩)))
    (hcv : w.cell? ⟨cv, 0, none⟩ = some (.string ca)) (hev : w.heap[ev]? = some (.cells #[x] 42 (0, 0))) (n1 : ¬ sb = rb) (n2 : ¬ rv = rb) (n3 : ¬ cv = rb) (n4 : ¬ ev = rb) (n5 : ¬ ev = g) :
    CallsD Tryz.prog 100 #[.pointer (some ⟨sb, 0, none⟩), .pointer (some ⟨rv, 0, none⟩), .pointer (some ⟨cv, 0, none⟩), .pointer (some ⟨ev, 0, none⟩)] (.panicking [{ v := .iface 183 (.agg #[.iface t v]), recovered := false }]) w fun e u' w' => e = .returned (.tuple #[]) ∧ u' = .panicking [{ v := .iface 183 (.agg #[.iface t v]), recovered := true }] ∧ Caught rb g bs st ca t v ev w w' := by
  have hn := isStop
  refine callsD_of_wpS Tryz.func100 rfl fun c₀ cs hu => ?_
  apply wpS_seq
  apply wpS_region
  simp [wpOpsS, go_sem, recoverD, hu, Tryz.ntmps100, Exit.thenS, hn, rep24]
  apply wpS_seq
  apply wpS_region
  simp [wpOpsS, go_sem, Exit.thenS]
  refine wpS_cond (t := true) (by simp [Act.eval]) ?_
  simp only [if_true]
  refine wpS_of_wp (wp_mono (Q := fun e a' w' => e = .normal ∧ a'.defers = [] ∧ Caught rb g bs st ca t v ev w w') ?_ ?_)
  · clear hu hn
    have kw : Kept [] w (w.alloc (.cells #[.iface t v] 183)) := (Kept.refl _ _).alloc _
    have HR : Aside (RdAt rb g bs q br (w.alloc (.cells #[.iface t v] 183)) ∧ st ≤ bs.length ∧ (w.alloc (.cells #[.iface t v] 183)).heap[ev]? = some (.cells #[x] 42 (0, 0)) ∧ Kept [] w (w.alloc (.cells #[.iface t v] 183))) := ⟨hr.kept kw (by simp) (by simp), hst, kw.heap hev (by simp), kw⟩
    have hsp : (w.alloc (.cells #[.iface t v] 183)).cell? ⟨w.heap.size, 0, none⟩ = some (.iface t v) := by rw [cellW_of (heap_alloc_last _ _ _)]; rfl
    have n6 : ¬ w.heap.size = rb := by have := lt_of_heap hr.lies; omega
    have kc : ∀ p y, w.cell? p = some y → (w.alloc (.cells #[.iface t v] 183)).cell? p = some y := fun p y h => ((Below.refl _ w).alloc (Nat.le_refl _) _).cell (World.block_lt_of_cell? _ _ h) ▸ h
    have hs1 := kc _ _ hs
    have hrv1 := kc _ _ hrv
    have hcv1 := kc _ _ hcv
    clear kc kw
    have n7 : ¬ rb = w.heap.size := fun e => n6 e.symm
    clear hs hrv hcv hr hst hev
    generalize hw1 : w.alloc (.cells #[.iface t v] 183) = w1 at *
    have hc1 := HR.out.1.c1
    have hc2 := HR.out.1.c2
    have hf1 := HR.out.1.frozen 1
    have hf2 := HR.out.1.frozen 2
    have fe := frozenW_of HR.out.2.2.1 0
    have ce : w1.cell? ⟨ev, 0, none⟩ = some x := by rw [cellW_of HR.out.2.2.1]; rfl
    have q1 : rb < w1.heap.size := lt_of_heap HR.out.1.lies
    have q2 : rv < w1.heap.size := World.block_lt_of_cell? _ _ hrv1
    have q3 : ev < w1.heap.size := lt_of_heap HR.out.2.2.1
    clear hw1
    generalize w.heap.size = sp at *
    go_wp2
    have r1 : (w1.setCell ⟨rb, 1, none⟩ (.int .i64 st)).cell? ⟨rv, 0, none⟩ = some (.pointer (some ⟨rb, 0, none⟩)) := by rw [World.cell?_of_block (w := w1) (Below.heap_setCell _ _ _ _ n2)]; exact hrv1
    have r2 : (w1.setCell ⟨rb, 1, none⟩ (.int .i64 st)).cell? ⟨cv, 0, none⟩ = some (.string ca) := by rw [World.cell?_of_block (w := w1) (Below.heap_setCell _ _ _ _ n3)]; exact hcv1
    have r3 : (w1.setCell ⟨rb, 1, none⟩ (.int .i64 st)).cell? ⟨sb, 0, none⟩ = some (.int .i64 st) := by rw [World.cell?_of_block (w := w1) (Below.heap_setCell _ _ _ _ n1)]; exact hs1
    have r4 : (w1.setCell ⟨rb, 1, none⟩ (.int .i64 st)).cell? ⟨sp, 0, none⟩ = some (.iface t v) := by rw [World.cell?_of_block (w := w1) (Below.heap_setCell _ _ _ _ n6)]; exact hsp
    have hrd := HR.out.1.place st HR.out.2.1
    have r5 := hrd.c2
    have r6 := hrd.frozen 2
    have r7 : (w1.setCell ⟨rb, 1, none⟩ (.int .i64 st)).heap[ev]? = some (.cells #[x] 42 (0, 0)) := by rw [Below.heap_setCell _ _ _ _ n4]; exact HR.out.2.2.1
    have r8 := frozenW_of r7 0
    have r9 : (w1.setCell ⟨rb, 1, none⟩ (.int .i64 st)).cell? ⟨ev, 0, none⟩ = some x := by rw [cellW_of r7]; rfl
    have s1 : rb < (w1.setCell ⟨rb, 1, none⟩ (.int .i64 st)).heap.size := lt_of_heap hrd.lies
    have s2 : rv < (w1.setCell ⟨rb, 1, none⟩ (.int .i64 st)).heap.size := World.block_lt_of_cell? _ _ r1
    have s3 : ev < (w1.setCell ⟨rb, 1, none⟩ (.int .i64 st)).heap.size := lt_of_heap r7
    have hsz : (w1.setCell ⟨rb, 1, none⟩ (.int .i64 st)).heap.size = w1.heap.size := by simp [World.setCell]
    have HK : Aside (RdAt rb g bs st br (w1.setCell ⟨rb, 1, none⟩ (.int .i64 st)) ∧ (w1.setCell ⟨rb, 1, none⟩ (.int .i64 st)).heap[ev]? = some (.cells #[x] 42 (0, 0)) ∧ Kept [rb] w (w1.setCell ⟨rb, 1, none⟩ (.int .i64 st))) := ⟨hrd, r7, (HR.out.2.2.2.mono (by simp)).set (p := ⟨rb, 1, none⟩) (.inl (by simp)) _⟩
    clear hrd r7 HR hs1 hrv1 hcv1 hsp hc1 hc2 hf1 hf2 fe ce q1 q2 q3 hsz
    generalize w1.setCell ⟨rb, 1, none⟩ (.int .i64 st) = w2 at *
    rename_i Q0 K0 hK0
    have hS : K0 { tmps := #[.pointer (some ⟨sb, 0, none⟩), .pointer (some ⟨rv, 0, none⟩), .pointer (some ⟨cv, 0, none⟩), .pointer (some ⟨ev, 0, none⟩), .pointer (some ⟨sp, 0, none⟩), .bool true, .tuple #[.agg #[.iface t v], .bool true], .iface 183 (.agg #[.iface t v]), .tuple #[.agg #[.iface t v], .bool true], .agg #[.iface t v], .bool true, .bool true, .pointer (some ⟨rb, 0, none⟩), .int .i64 st, .pointer (some ⟨rb, 0, none⟩), .pointer (some ⟨rb, 1, none⟩), .pointer (some ⟨rb, 0, none⟩), .string ca, .int .i64 st, .pointer (some ⟨sp, 0, none⟩), .iface t v, (.iface 85 (.pointer (some ⟨w2.heap.size, 0, none⟩))), .pointer (some ⟨rb, 0, none⟩), .pointer (some ⟨rb, 2, none⟩), undef, undef, undef, undef], defers := [] } (afterNew rb st ca t v w2) := by
      refine hK0 _ _ ?_
      clear hK0
      obtain ⟨a1, a2, a3⟩ := afterNew_ok (ca := ca) (t := t) (v := v) HK.out.1
      have hsn : w2.heap.size < (afterNew rb st ca t v w2).heap.size := lt_of_heap a2
      have HQ : Aside (RdAt rb g bs st (.iface 85 (.pointer (some ⟨w2.heap.size, 0, none⟩))) (afterNew rb st ca t v w2) ∧ (afterNew rb st ca t v w2).heap[w2.heap.size]? = some (.cells #[.string ⟨#[119, 105, 114, 101]⟩, .string ca, .int .i64 st, .iface t v] 87 (0, 0)) ∧ Kept [rb] w (afterNew rb st ca t v w2) ∧ (afterNew rb st ca t v w2).heap[ev]? = some (.cells #[x] 42 (0, 0))) := ⟨a1, a2, HK.out.2.2.trans a3, a3.heap HK.out.2.1 (by simpa using n4)⟩
      have b1 : (afterNew rb st ca t v w2).cell? ⟨rv, 0, none⟩ = some (.pointer (some ⟨rb, 0, none⟩)) := by rw [World.cell?_of_block (w := w2) (a3.block _ s2 (by simpa using n2))]; exact r1
      have b2 := a1.c2
      have b3 := frozenW_of HQ.out.2.2.2 0
      have b4 : (afterNew rb st ca t v w2).cell? ⟨ev, 0, none⟩ = some x := by rw [cellW_of HQ.out.2.2.2]; rfl
      have hws : w.heap.size ≤ w2.heap.size := HK.out.2.2.size
      have HF : Aside (¬ w2.heap.size = ev ∧ w.heap.size ≤ w2.heap.size) := ⟨by omega, hws⟩
      clear a1 a2 a3 HK r1 r2 r3 r4 r5 r6 r8 r9 s1 s2 s3 hsn hws
      generalize afterNew rb st ca t v w2 = w3 at *
      generalize w2.heap.size = f at *
      go_wp2
      refine ⟨f, HF.out.2, ?_, ?_, ?_, ?_⟩
      · exact HQ.out.1.kept (S := [ev]) ((Kept.refl _ _).set (p := ⟨ev, 0, none⟩) (.inl (by simp)) _) (by simpa using fun e => n4 e.symm) (by simpa using fun e => n5 e.symm)
      · rw [Below.heap_setCell _ _ _ _ HF.out.1]; exact HQ.out.2.1
      · rw [heap_setCell_at HQ.out.2.2.2]; rfl
      · exact (HQ.out.2.2.1.mono (by simp)).set (p := ⟨ev, 0, none⟩) (.inl (by simp)) _
    clear HK
    go_region_with (go_at_call 22; refine (new_wire ca st t v _).mono ?_; rintro e w3 ⟨rfl, rfl⟩)
    all_goals exact hS
  · rintro e a' w' ⟨rfl, hd, hc⟩
    cases c₀
    simp_all [bodyPostS, results, Tryz.results100]
end Go.Proofs.YteffpnjgchihpaaGreatDoor
namespace Go.Proofs.YteffpnjgchihpaaGreatDoor
open Go.RowKit
set_option maxRecDepth 100000

set_option maxHeartbeats 1000000 in
theorem attempt_broken {rb g : Nat} {bs : List UInt8} {pl : Nat} {t : TypeId} {v : Value} {w : World} (h : RdAt rb g bs pl (.iface t v) w) (ca : ByteArray) (fv : Value) :
    Calls Tryz.prog 85 #[.pointer (some ⟨rb, 0, none⟩), .string ca, fv] w fun e w' => e = .returned (.iface t v) ∧ Below w.heap.size w w' := by
  have hmf : ∀ (fn : Fn) (first cap : Array Value) (w : World), (Instr.makeFunc fn first cap).run Tryz.prog w = .ok (.func fn first cap) w := fun _ _ _ _ => rfl
  have c2 : ∀ o1 o2 o3, (((w.alloc o1).alloc o2).alloc o3).cell? ⟨rb, 2, none⟩ = some (.iface t v) := fun o1 o2 o3 => (h.kept (S := []) ((((Kept.refl _ w).alloc o1).alloc o2).alloc o3) (by simp) (by simp)).c2
  clear h
  go_enter_defers Tryz.func85, Tryz.ntmps85
  go_wp2
  have hb : Below w.heap.size w (((w.alloc (.cells #[.pointer (some ⟨rb, 0, none⟩)] 127)).alloc (.cells #[.string ca] 9)).alloc (.cells #[.iface t v] 42)) := ((((Below.refl _ w).alloc (Nat.le_refl _) _).alloc (by simp) _).alloc (by simp <;> omega) _)
  simp [bodyPostD, Leaves, results, Tryz.results85, go_sem, hb]

/-- The four variables of attempt: r, call, err, start. -/
structure Vars (rb : Nat) (ca : ByteArray) (pl : Nat) (b : Nat) (w : World) : Prop where
  r : w.heap[b]? = some (.cells #[.pointer (some ⟨rb, 0, none⟩)] 127 (0, 0))
  c : w.heap[b + 1]? = some (.cells #[.string ca] 9 (0, 0))
  e : w.heap[b + 1 + 1]? = some (.cells #[.nilIface] 42 (0, 0))
  s : w.heap[b + 1 + 1 + 1]? = some (.cells #[.int .i64 pl] 3 (0, 0))

theorem vars_new (rb : Nat) (ca : ByteArray) (pl : Nat) (w : World) : Vars rb ca pl w.heap.size ((((w.alloc (.cells #[.pointer (some ⟨rb, 0, none⟩)] 127)).alloc (.cells #[.string ca] 9)).alloc (.cells #[.nilIface] 42)).alloc (.cells #[.int .i64 pl] 3)) ∧ Kept [] w ((((w.alloc (.cells #[.pointer (some ⟨rb, 0, none⟩)] 127)).alloc (.cells #[.string ca] 9)).alloc (.cells #[.nilIface] 42)).alloc (.cells #[.int .i64 pl] 3)) := by
  have s1 : (w.alloc (.cells #[.pointer (some ⟨rb, 0, none⟩)] 127)).heap.size = w.heap.size + 1 := by simp
  have s2 : ((w.alloc (.cells #[.pointer (some ⟨rb, 0, none⟩)] 127)).alloc (.cells #[.string ca] 9)).heap.size = w.heap.size + 1 + 1 := by simp
  have s3 : (((w.alloc (.cells #[.pointer (some ⟨rb, 0, none⟩)] 127)).alloc (.cells #[.string ca] 9)).alloc (.cells #[.nilIface] 42)).heap.size = w.heap.size + 1 + 1 + 1 := by simp
  refine ⟨⟨?_, ?_, ?_, ?_⟩, ((((Kept.refl _ w).alloc _).alloc _).alloc _).alloc _⟩
  · rw [Below.heap_alloc _ _ _ (by rw [s3]; omega), Below.heap_alloc _ _ _ (by rw [s2]; omega), Below.heap_alloc _ _ _ (by rw [s1]; omega)]; exact heap_alloc_last _ _ _
  · rw [Below.heap_alloc _ _ _ (by rw [s3]; omega), Below.heap_alloc _ _ _ (by rw [s2]; omega), ← s1]; exact heap_alloc_last _ _ _
  · rw [Below.heap_alloc _ _ _ (by rw [s3]; omega), ← s2]; exact heap_alloc_last _ _ _
  · rw [← s3]; exact heap_alloc_last _ _ _

theorem Vars.kept {rb : Nat} {ca : ByteArray} {pl b : Nat} {S : List Nat} {w w' : World} (h : Vars rb ca pl b w) (k : Kept S w w') (hS : ∀ s ∈ S, s < b) : Vars rb ca pl b w' :=
  ⟨k.heap h.r (fun hm => by have := hS _ hm; omega), k.heap h.c (fun hm => by have := hS _ hm; omega), k.heap h.e (fun hm => by have := hS _ hm; omega), k.heap h.s (fun hm => by have := hS _ hm; omega)⟩

set_option maxHeartbeats 1000000 in
theorem attempt_ok {rb g : Nat} {bs : List UInt8} {pl q : Nat} {w : World} (h : RdAt rb g bs pl .nilIface w) (ca : ByteArray) (F : Nat) (caps : Array Value) (hcf : ∀ w, (callFunc F caps).run Tryz.prog w = .ok (.enter F caps) w) (S : List Nat) (hS : ∀ s ∈ S, s < w.heap.size) (G : World → Prop)
    (hG : ∀ w2 w3, (∀ k, k < w.heap.size → k ≠ rb → w3.heap[k]? = w2.heap[k]?) → G w2 → G w3)
    (hread : ∀ w1, Kept [] w w1 → Calls Tryz.prog F caps w1 fun e w2 => e = .returned (.tuple #[]) ∧ Kept (rb :: S) w1 w2 ∧ RdAt rb g bs q .nilIface w2 ∧ G w2) :
    Calls Tryz.prog 85 #[.pointer (some ⟨rb, 0, none⟩), .string ca, .func (.func F) #[] caps] w fun e w' => e = .returned .nilIface ∧ RdAt rb g bs q .nilIface w' ∧ Kept (rb :: S) w w' ∧ G w' := by
  have hmf : ∀ (fn : Fn) (first cap : Array Value) (w : World), (Instr.makeFunc fn first cap).run Tryz.prog w = .ok (.func fn first cap) w := fun _ _ _ _ => rfl
  have c1 : ∀ o1 o2 o3, (((w.alloc o1).alloc o2).alloc o3).cell? ⟨rb, 1, none⟩ = some (.int .i64 pl) := fun o1 o2 o3 => (h.kept (S := []) ((((Kept.refl _ w).alloc o1).alloc o2).alloc o3) (by simp) (by simp)).c1
  have c2 : ∀ o1 o2 o3, (((w.alloc o1).alloc o2).alloc o3).cell? ⟨rb, 2, none⟩ = some .nilIface := fun o1 o2 o3 => (h.kept (S := []) ((((Kept.refl _ w).alloc o1).alloc o2).alloc o3) (by simp) (by simp)).c2
  have lr : rb < w.heap.size := lt_of_heap h.lies
  have HH : Aside (∀ w1, Kept [] w w1 → Calls Tryz.prog F caps w1 fun e w2 => e = .returned (.tuple #[]) ∧ Kept (rb :: S) w1 w2 ∧ RdAt rb g bs q .nilIface w2 ∧ G w2) := hread
  have HS : Aside ((∀ s ∈ S, s < w.heap.size) ∧ ∀ w2 w3, (∀ k, k < w.heap.size → k ≠ rb → w3.heap[k]? = w2.heap[k]?) → G w2 → G w3) := ⟨hS, hG⟩
  obtain ⟨hv1, hk1⟩ := vars_new rb ca pl w
  have HV : Aside (Vars rb ca pl w.heap.size ((((w.alloc (.cells #[.pointer (some ⟨rb, 0, none⟩)] 127)).alloc (.cells #[.string ca] 9)).alloc (.cells #[.nilIface] 42)).alloc (.cells #[.int .i64 pl] 3)) ∧ Kept [] w ((((w.alloc (.cells #[.pointer (some ⟨rb, 0, none⟩)] 127)).alloc (.cells #[.string ca] 9)).alloc (.cells #[.nilIface] 42)).alloc (.cells #[.int .i64 pl] 3))) := ⟨hv1, hk1⟩
  clear h hread hS hG hv1 hk1
  go_enter_defers Tryz.func85, Tryz.ntmps85
  go_wp2_with fail
  refine (HH.out _ HV.out.2).mono ?_
  rintro e w2 ⟨rfl, hk2, hr2, hg2⟩
  have hlt : ∀ s ∈ rb :: S, s < w.heap.size := by
    intro s hs
    rcases List.mem_cons.1 hs with rfl | hs
    · exact lr
    · exact HS.out.1 s hs
  have hv2 := HV.out.1.kept hk2 hlt
  have HQ : Aside (RdAt rb g bs q .nilIface w2 ∧ Kept (rb :: S) w w2 ∧ G w2 ∧ Vars rb ca pl w.heap.size w2) := ⟨hr2, (HV.out.2.mono (by simp)).go hk2 (fun s hs => .inl hs), hg2, hv2⟩
  have e1 : w2.cell? ⟨w.heap.size + 1 + 1, 0, none⟩ = some .nilIface := by rw [cellW_of hv2.e]; rfl
  have e2 := frozenW_of hv2.e 0
  clear HV HH hk2 hr2 hg2 hv2 c1 c2
  generalize hb0 : w.heap.size = b at *
  go_wp2
  refine leaves_cons (f := 100) (args := #[.pointer (some ⟨b + 1 + 1 + 1, 0, none⟩), .pointer (some ⟨b, 0, none⟩), .pointer (some ⟨b + 1, 0, none⟩), .pointer (some ⟨b + 1 + 1, 0, none⟩)]) (by simp) (by simp [go_sem]) ?_
  refine (catch_idle _ _ _ _ _).mono ?_
  rintro e u' w3 ⟨rfl, rfl, rfl⟩
  have hk3 : Kept [b + 1 + 1] w2 ((w2.setCell ⟨b + 1 + 1, 0, none⟩ .nilIface).alloc (.cells #[.nilIface] 183)) := ((Kept.refl _ w2).set (p := ⟨b + 1 + 1, 0, none⟩) (.inl (by simp)) _).alloc _
  have e3 : ((w2.setCell ⟨b + 1 + 1, 0, none⟩ .nilIface).alloc (.cells #[.nilIface] 183)).cell? ⟨b + 1 + 1, 0, none⟩ = some .nilIface := by
    have hx := lt_of_heap HQ.out.2.2.2.e
    rw [World.cell?_of_block (w := w2.setCell ⟨b + 1 + 1, 0, none⟩ .nilIface) (Below.heap_alloc _ _ _ (by simpa [World.setCell] using hx)), cellW_of (heap_setCell_at HQ.out.2.2.2.e 0 _)]; rfl
  generalize (w2.setCell ⟨b + 1 + 1, 0, none⟩ .nilIface).alloc (.cells #[.nilIface] 183) = w3 at *
  have hgl : ¬ g = b + 1 + 1 := fun hh => by
    have h1 := HQ.out.1.raw
    rw [hh, HQ.out.2.2.2.e] at h1
    simp at h1
  have A1 := HQ.out.1.kept hk3 (by simp; omega) (by simpa using hgl)
  have A2 := HQ.out.2.1.go hk3 (by simp; omega)
  have A3 : G w3 := HS.out.2 w2 w3 (fun k hk hn => hk3.block k (by have := lt_of_heap HQ.out.2.2.2.e; omega) (by simp; omega)) HQ.out.2.2.1
  simp [Leaves, settle, results, Tryz.results85, go_sem, e3, A1, A2, A3]

set_option maxHeartbeats 1000000 in
theorem attempt_err {rb g : Nat} {bs : List UInt8} {pl : Nat} {w : World} {ad : Nat → Addr} {c : Nat} (h : RdAt rb g bs pl .nilIface w) (ca : ByteArray) (F : Nat) (caps : Array Value) (hcf : ∀ w, (callFunc F caps).run Tryz.prog w = .ok (.enter F caps) w) (S : List Nat) (hS : ∀ s ∈ S, s < w.heap.size) (G : World → Prop)
    (hG : ∀ w2 w3, (∀ k, k < w.heap.size → k ≠ rb → w3.heap[k]? = w2.heap[k]?) → G w2 → G w3)
    (hread : ∀ w1, Kept [] w w1 → Calls Tryz.prog F caps w1 fun e w2 => e = gaveUp ad c ∧ Kept (rb :: S) w1 w2 ∧ (∃ q, RdAt rb g bs q .nilIface w2) ∧ G w2) :
    Calls Tryz.prog 85 #[.pointer (some ⟨rb, 0, none⟩), .string ca, .func (.func F) #[] caps] w fun e w' => ∃ f, w.heap.size ≤ f ∧ e = .returned (.iface 85 (.pointer (some ⟨f, 0, none⟩))) ∧ RdAt rb g bs pl (.iface 85 (.pointer (some ⟨f, 0, none⟩))) w' ∧ w'.heap[f]? = some (.cells #[.string ⟨#[119, 105, 114, 101]⟩, .string ca, .int .i64 pl, rsn ad c] 87 (0, 0)) ∧ Kept (rb :: S) w w' ∧ G w' := by
  have hmf : ∀ (fn : Fn) (first cap : Array Value) (w : World), (Instr.makeFunc fn first cap).run Tryz.prog w = .ok (.func fn first cap) w := fun _ _ _ _ => rfl
  have c1 : ∀ o1 o2 o3, (((w.alloc o1).alloc o2).alloc o3).cell? ⟨rb, 1, none⟩ = some (.int .i64 pl) := fun o1 o2 o3 => (h.kept (S := []) ((((Kept.refl _ w).alloc o1).alloc o2).alloc o3) (by simp) (by simp)).c1
  have c2 : ∀ o1 o2 o3, (((w.alloc o1).alloc o2).alloc o3).cell? ⟨rb, 2, none⟩ = some .nilIface := fun o1 o2 o3 => (h.kept (S := []) ((((Kept.refl _ w).alloc o1).alloc o2).alloc o3) (by simp) (by simp)).c2
  have lr : rb < w.heap.size := lt_of_heap h.lies
  have HH : Aside (∀ w1, Kept [] w w1 → Calls Tryz.prog F caps w1 fun e w2 => e = gaveUp ad c ∧ Kept (rb :: S) w1 w2 ∧ (∃ q, RdAt rb g bs q .nilIface w2) ∧ G w2) := hread
  have HS : Aside ((∀ s ∈ S, s < w.heap.size) ∧ ∀ w2 w3, (∀ k, k < w.heap.size → k ≠ rb → w3.heap[k]? = w2.heap[k]?) → G w2 → G w3) := ⟨hS, hG⟩
  obtain ⟨hv1, hk1⟩ := vars_new rb ca pl w
  have HV : Aside (Vars rb ca pl w.heap.size ((((w.alloc (.cells #[.pointer (some ⟨rb, 0, none⟩)] 127)).alloc (.cells #[.string ca] 9)).alloc (.cells #[.nilIface] 42)).alloc (.cells #[.int .i64 pl] 3)) ∧ Kept [] w ((((w.alloc (.cells #[.pointer (some ⟨rb, 0, none⟩)] 127)).alloc (.cells #[.string ca] 9)).alloc (.cells #[.nilIface] 42)).alloc (.cells #[.int .i64 pl] 3))) := ⟨hv1, hk1⟩
  have HP : Aside (pl ≤ bs.length) := h.le
  clear h hread hS hG hv1 hk1
  go_enter_defers Tryz.func85, Tryz.ntmps85
  go_wp2_with fail
  refine (HH.out _ HV.out.2).mono ?_
  rintro e w2 ⟨rfl, hk2, ⟨q, hr2⟩, hg2⟩
  have hlt : ∀ s ∈ rb :: S, s < w.heap.size := by
    intro s hs
    rcases List.mem_cons.1 hs with rfl | hs
    · exact lr
    · exact HS.out.1 s hs
  have hv2 := HV.out.1.kept hk2 hlt
  have HQ : Aside (RdAt rb g bs q .nilIface w2 ∧ Kept (rb :: S) w w2 ∧ G w2 ∧ Vars rb ca pl w.heap.size w2) := ⟨hr2, (HV.out.2.mono (by simp)).go hk2 (fun s hs => .inl hs), hg2, hv2⟩
  have e1 : w2.cell? ⟨w.heap.size + 1 + 1, 0, none⟩ = some .nilIface := by rw [cellW_of hv2.e]; rfl
  have e2 := frozenW_of hv2.e 0
  have hpl : pl ≤ bs.length := HP.out
  clear HV HH hk2 hr2 hg2 hv2 c1 c2
  generalize hb0 : w.heap.size = b at *
  go_wp2
  have hgl : ¬ b + 1 + 1 = g := fun hh => by
    have h1 := HQ.out.1.raw
    rw [← hh, HQ.out.2.2.2.e] at h1
    simp at h1
  refine leaves_cons (f := 100) (args := #[.pointer (some ⟨b + 1 + 1 + 1, 0, none⟩), .pointer (some ⟨b, 0, none⟩), .pointer (some ⟨b + 1, 0, none⟩), .pointer (some ⟨b + 1 + 1, 0, none⟩)]) (by simp) (by simp [go_sem]) ?_
  refine (catch_panicking (b + 1 + 1 + 1) b (b + 1) (b + 1 + 1) rb pl q ca g bs .nilIface 195 (.pointer (some (ad c))) .nilIface w2 HQ.out.1 hpl (by rw [cellW_of HQ.out.2.2.2.s]; rfl) (by rw [cellW_of HQ.out.2.2.2.r]; rfl) (by rw [cellW_of HQ.out.2.2.2.c]; rfl) HQ.out.2.2.2.e (by omega) (by omega) (by omega) (by omega) hgl).mono ?_
  rintro e u' w3 ⟨rfl, rfl, f, hf1, hf2, hf3, hf4, hk3⟩
  have e3 : w3.cell? ⟨b + 1 + 1, 0, none⟩ = some (.iface 85 (.pointer (some ⟨f, 0, none⟩))) := by rw [cellW_of hf4]; rfl
  have hbw := HQ.out.2.1.size
  have A2 : Kept (rb :: S) w w3 := HQ.out.2.1.go hk3 (by simp; omega)
  have A3 : G w3 := HS.out.2 w2 w3 (fun k hk hn => hk3.block k (by have := lt_of_heap HQ.out.2.2.2.e; omega) (by simp; omega)) HQ.out.2.2.1
  have A4 : w.heap.size ≤ f := by omega
  simp only [Leaves, settle, List.dropWhile]
  refine ⟨.iface 85 (.pointer (some ⟨f, 0, none⟩)), by simp [results, Tryz.results85, go_sem, e3], f, A4, rfl, hf2, hf3, A2, A3⟩
end Go.Proofs.YteffpnjgchihpaaGreatDoor
