
/-
  (*Reader).attempt.
-/
import Derived.Test.YthabeapgkaggmaaDoorAtt
namespace Go.Proofs.YthabeapgkaggmaaDoor
open Go.RowKit
set_option maxRecDepth 100000

set_option maxHeartbeats 1000000 in
theorem attempt_broken {rb g : Nat} {bs : List UInt8} {pl : Nat} {t : TypeId} {v : Value} {w : World} (h : RdAt rb g bs pl (.iface t v) w) (ca : ByteArray) (fv : Value) :
    Calls Tryd.prog 33 #[.pointer (some ⟨rb, 0, none⟩), .string ca, fv] w fun e w' => e = .returned (.iface t v) ∧ Below w.heap.size w w' := by
  have hmf : ∀ (fn : Fn) (first cap : Array Value) (w : World), (Instr.makeFunc fn first cap).run Tryd.prog w = .ok (.func fn first cap) w := fun _ _ _ _ => rfl
  have c2 : ∀ o1 o2 o3, (((w.alloc o1).alloc o2).alloc o3).cell? ⟨rb, 2, none⟩ = some (.iface t v) := fun o1 o2 o3 => (h.kept (S := []) ((((Kept.refl _ w).alloc o1).alloc o2).alloc o3) (by simp) (by simp)).c2
  clear h
  go_enter_defers Tryd.func33, Tryd.ntmps33
  go_wp2
  have hb : Below w.heap.size w (((w.alloc (.cells #[.pointer (some ⟨rb, 0, none⟩)] 58)).alloc (.cells #[.string ca] 9)).alloc (.cells #[.iface t v] 35)) := ((((Below.refl _ w).alloc (Nat.le_refl _) _).alloc (by simp) _).alloc (by simp <;> omega) _)
  simp [bodyPostD, Leaves, results, Tryd.results33, go_sem, hb]

/-- The four variables of attempt: r, call, err, start. -/
structure Vars (rb : Nat) (ca : ByteArray) (pl : Nat) (b : Nat) (w : World) : Prop where
  r : w.heap[b]? = some (.cells #[.pointer (some ⟨rb, 0, none⟩)] 58 (0, 0))
  c : w.heap[b + 1]? = some (.cells #[.string ca] 9 (0, 0))
  e : w.heap[b + 1 + 1]? = some (.cells #[.nilIface] 35 (0, 0))
  s : w.heap[b + 1 + 1 + 1]? = some (.cells #[.int .i64 pl] 3 (0, 0))

theorem vars_new (rb : Nat) (ca : ByteArray) (pl : Nat) (w : World) : Vars rb ca pl w.heap.size ((((w.alloc (.cells #[.pointer (some ⟨rb, 0, none⟩)] 58)).alloc (.cells #[.string ca] 9)).alloc (.cells #[.nilIface] 35)).alloc (.cells #[.int .i64 pl] 3)) ∧ Kept [] w ((((w.alloc (.cells #[.pointer (some ⟨rb, 0, none⟩)] 58)).alloc (.cells #[.string ca] 9)).alloc (.cells #[.nilIface] 35)).alloc (.cells #[.int .i64 pl] 3)) := by
  have s1 : (w.alloc (.cells #[.pointer (some ⟨rb, 0, none⟩)] 58)).heap.size = w.heap.size + 1 := by simp
  have s2 : ((w.alloc (.cells #[.pointer (some ⟨rb, 0, none⟩)] 58)).alloc (.cells #[.string ca] 9)).heap.size = w.heap.size + 1 + 1 := by simp
  have s3 : (((w.alloc (.cells #[.pointer (some ⟨rb, 0, none⟩)] 58)).alloc (.cells #[.string ca] 9)).alloc (.cells #[.nilIface] 35)).heap.size = w.heap.size + 1 + 1 + 1 := by simp
  refine ⟨⟨?_, ?_, ?_, ?_⟩, ((((Kept.refl _ w).alloc _).alloc _).alloc _).alloc _⟩
  · rw [Below.heap_alloc _ _ _ (by rw [s3]; omega), Below.heap_alloc _ _ _ (by rw [s2]; omega), Below.heap_alloc _ _ _ (by rw [s1]; omega)]; exact heap_alloc_last _ _ _
  · rw [Below.heap_alloc _ _ _ (by rw [s3]; omega), Below.heap_alloc _ _ _ (by rw [s2]; omega), ← s1]; exact heap_alloc_last _ _ _
  · rw [Below.heap_alloc _ _ _ (by rw [s3]; omega), ← s2]; exact heap_alloc_last _ _ _
  · rw [← s3]; exact heap_alloc_last _ _ _

theorem Vars.kept {rb : Nat} {ca : ByteArray} {pl b : Nat} {S : List Nat} {w w' : World} (h : Vars rb ca pl b w) (k : Kept S w w') (hS : ∀ s ∈ S, s < b) : Vars rb ca pl b w' :=
  ⟨k.heap h.r (fun hm => by have := hS _ hm; omega), k.heap h.c (fun hm => by have := hS _ hm; omega), k.heap h.e (fun hm => by have := hS _ hm; omega), k.heap h.s (fun hm => by have := hS _ hm; omega)⟩

set_option maxHeartbeats 1000000 in
theorem attempt_ok {rb g : Nat} {bs : List UInt8} {pl q : Nat} {w : World} (h : RdAt rb g bs pl .nilIface w) (ca : ByteArray) (F : Nat) (caps : Array Value) (hcf : ∀ w, (callFunc F caps).run Tryd.prog w = .ok (.enter F caps) w) (S : List Nat) (hS : ∀ s ∈ S, s < w.heap.size) (G : World → Prop)
    (hG : ∀ w2 w3, (∀ k, k < w.heap.size → k ≠ rb → w3.heap[k]? = w2.heap[k]?) → G w2 → G w3)
    (hread : ∀ w1, Kept [] w w1 → Calls Tryd.prog F caps w1 fun e w2 => e = .returned (.tuple #[]) ∧ Kept (rb :: S) w1 w2 ∧ RdAt rb g bs q .nilIface w2 ∧ G w2) :
    Calls Tryd.prog 33 #[.pointer (some ⟨rb, 0, none⟩), .string ca, .func (.func F) #[] caps] w fun e w' => e = .returned .nilIface ∧ RdAt rb g bs q .nilIface w' ∧ Kept (rb :: S) w w' ∧ G w' := by
  have hmf : ∀ (fn : Fn) (first cap : Array Value) (w : World), (Instr.makeFunc fn first cap).run Tryd.prog w = .ok (.func fn first cap) w := fun _ _ _ _ => rfl
  have c1 : ∀ o1 o2 o3, (((w.alloc o1).alloc o2).alloc o3).cell? ⟨rb, 1, none⟩ = some (.int .i64 pl) := fun o1 o2 o3 => (h.kept (S := []) ((((Kept.refl _ w).alloc o1).alloc o2).alloc o3) (by simp) (by simp)).c1
  have c2 : ∀ o1 o2 o3, (((w.alloc o1).alloc o2).alloc o3).cell? ⟨rb, 2, none⟩ = some .nilIface := fun o1 o2 o3 => (h.kept (S := []) ((((Kept.refl _ w).alloc o1).alloc o2).alloc o3) (by simp) (by simp)).c2
  have lr : rb < w.heap.size := lt_of_heap h.lies
  have HH : Aside (∀ w1, Kept [] w w1 → Calls Tryd.prog F caps w1 fun e w2 => e = .returned (.tuple #[]) ∧ Kept (rb :: S) w1 w2 ∧ RdAt rb g bs q .nilIface w2 ∧ G w2) := hread
  have HS : Aside ((∀ s ∈ S, s < w.heap.size) ∧ ∀ w2 w3, (∀ k, k < w.heap.size → k ≠ rb → w3.heap[k]? = w2.heap[k]?) → G w2 → G w3) := ⟨hS, hG⟩
  obtain ⟨hv1, hk1⟩ := vars_new rb ca pl w
  have HV : Aside (Vars rb ca pl w.heap.size ((((w.alloc (.cells #[.pointer (some ⟨rb, 0, none⟩)] 58)).alloc (.cells #[.string ca] 9)).alloc (.cells #[.nilIface] 35)).alloc (.cells #[.int .i64 pl] 3)) ∧ Kept [] w ((((w.alloc (.cells #[.pointer (some ⟨rb, 0, none⟩)] 58)).alloc (.cells #[.string ca] 9)).alloc (.cells #[.nilIface] 35)).alloc (.cells #[.int .i64 pl] 3))) := ⟨hv1, hk1⟩
  clear h hread hS hG hv1 hk1
  go_enter_defers Tryd.func33, Tryd.ntmps33
  go_wp2_with fail
  refine (HH.out _ HV.out.2).mono ?_
  rintro e w2 ⟨rfl, hk2, hr2, hg2⟩
  have hlt : ∀ s ∈ rb :: S, s < w.heap.size := by
    intro s hs
    rcases List.mem_cons.1 hs with rfl | hs
    · exact lr
    · exact HS.out.1 s hs
  have hv2 := HV.out.1.kept hk2 hlt
  have HQ : Aside (RdAt rb g bs q .nilIface w2 ∧ Kept (rb :: S) w w2 ∧ G w2 ∧ Vars rb ca pl w.heap.size w2) := ⟨hr2, (HV.out.2.mono (by simp)).go hk2 (fun s hs => .inl hs), hg2, hv2⟩
  have e1 : w2.cell? ⟨w.heap.size + 1 + 1, 0, none⟩ = some .nilIface := by rw [cellW_of hv2.e]; rfl
  have e2 := frozenW_of hv2.e 0
  clear HV HH hk2 hr2 hg2 hv2 c1 c2
  generalize hb0 : w.heap.size = b at *
  go_wp2
  refine leaves_cons (f := 39) (args := #[.pointer (some ⟨b + 1 + 1 + 1, 0, none⟩), .pointer (some ⟨b, 0, none⟩), .pointer (some ⟨b + 1, 0, none⟩), .pointer (some ⟨b + 1 + 1, 0, none⟩)]) (by simp) (by simp [go_sem]) ?_
  refine (catch_idle _ _ _ _ _).mono ?_
  rintro e u' w3 ⟨rfl, rfl, rfl⟩
  have hk3 : Kept [b + 1 + 1] w2 ((w2.setCell ⟨b + 1 + 1, 0, none⟩ .nilIface).alloc (.cells #[.nilIface] 89)) := ((Kept.refl _ w2).set (p := ⟨b + 1 + 1, 0, none⟩) (.inl (by simp)) _).alloc _
  have e3 : ((w2.setCell ⟨b + 1 + 1, 0, none⟩ .nilIface).alloc (.cells #[.nilIface] 89)).cell? ⟨b + 1 + 1, 0, none⟩ = some .nilIface := by
    have hx := lt_of_heap HQ.out.2.2.2.e
    rw [World.cell?_of_block (w := w2.setCell ⟨b + 1 + 1, 0, none⟩ .nilIface) (Below.heap_alloc _ _ _ (by simpa [World.setCell] using hx)), cellW_of (heap_setCell_at HQ.out.2.2.2.e 0 _)]; rfl
  generalize (w2.setCell ⟨b + 1 + 1, 0, none⟩ .nilIface).alloc (.cells #[.nilIface] 89) = w3 at *
  have hgl : ¬ g = b + 1 + 1 := fun hh => by
    have h1 := HQ.out.1.raw
    rw [hh, HQ.out.2.2.2.e] at h1
    simp at h1
  have A1 := HQ.out.1.kept hk3 (by simp; omega) (by simpa using hgl)
  have A2 := HQ.out.2.1.go hk3 (by simp; omega)
  have A3 : G w3 := HS.out.2 w2 w3 (fun k hk hn => hk3.block k (by have := lt_of_heap HQ.out.2.2.2.e; omega) (by simp; omega)) HQ.out.2.2.1
  simp [Leaves, settle, results, Tryd.results33, go_sem, e3, A1, A2, A3]

set_option maxHeartbeats 1000000 in
theorem attempt_err {rb g : Nat} {bs : List UInt8} {pl : Nat} {w : World} {ad : Nat → Addr} {c : Nat} (h : RdAt rb g bs pl .nilIface w) (ca : ByteArray) (F : Nat) (caps : Array Value) (hcf : ∀ w, (callFunc F caps).run Tryd.prog w = .ok (.enter F caps) w) (S : List Nat) (hS : ∀ s ∈ S, s < w.heap.size) (G : World → Prop)
    (hG : ∀ w2 w3, (∀ k, k < w.heap.size → k ≠ rb → w3.heap[k]? = w2.heap[k]?) → G w2 → G w3)
    (hread : ∀ w1, Kept [] w w1 → Calls Tryd.prog F caps w1 fun e w2 => e = gaveUp ad c ∧ Kept (rb :: S) w1 w2 ∧ (∃ q, RdAt rb g bs q .nilIface w2) ∧ G w2) :
    Calls Tryd.prog 33 #[.pointer (some ⟨rb, 0, none⟩), .string ca, .func (.func F) #[] caps] w fun e w' => ∃ f, w.heap.size ≤ f ∧ e = .returned (.iface 64 (.pointer (some ⟨f, 0, none⟩))) ∧ RdAt rb g bs pl (.iface 64 (.pointer (some ⟨f, 0, none⟩))) w' ∧ w'.heap[f]? = some (.cells #[.string ⟨#[119, 105, 114, 101]⟩, .string ca, .int .i64 pl, rsn ad c] 66 (0, 0)) ∧ Kept (rb :: S) w w' ∧ G w' := by
  have hmf : ∀ (fn : Fn) (first cap : Array Value) (w : World), (Instr.makeFunc fn first cap).run Tryd.prog w = .ok (.func fn first cap) w := fun _ _ _ _ => rfl
  have c1 : ∀ o1 o2 o3, (((w.alloc o1).alloc o2).alloc o3).cell? ⟨rb, 1, none⟩ = some (.int .i64 pl) := fun o1 o2 o3 => (h.kept (S := []) ((((Kept.refl _ w).alloc o1).alloc o2).alloc o3) (by simp) (by simp)).c1
  have c2 : ∀ o1 o2 o3, (((w.alloc o1).alloc o2).alloc o3).cell? ⟨rb, 2, none⟩ = some .nilIface := fun o1 o2 o3 => (h.kept (S := []) ((((Kept.refl _ w).alloc o1).alloc o2).alloc o3) (by simp) (by simp)).c2
  have lr : rb < w.heap.size := lt_of_heap h.lies
  have HH : Aside (∀ w1, Kept [] w w1 → Calls Tryd.prog F caps w1 fun e w2 => e = gaveUp ad c ∧ Kept (rb :: S) w1 w2 ∧ (∃ q, RdAt rb g bs q .nilIface w2) ∧ G w2) := hread
  have HS : Aside ((∀ s ∈ S, s < w.heap.size) ∧ ∀ w2 w3, (∀ k, k < w.heap.size → k ≠ rb → w3.heap[k]? = w2.heap[k]?) → G w2 → G w3) := ⟨hS, hG⟩
  obtain ⟨hv1, hk1⟩ := vars_new rb ca pl w
  have HV : Aside (Vars rb ca pl w.heap.size ((((w.alloc (.cells #[.pointer (some ⟨rb, 0, none⟩)] 58)).alloc (.cells #[.string ca] 9)).alloc (.cells #[.nilIface] 35)).alloc (.cells #[.int .i64 pl] 3)) ∧ Kept [] w ((((w.alloc (.cells #[.pointer (some ⟨rb, 0, none⟩)] 58)).alloc (.cells #[.string ca] 9)).alloc (.cells #[.nilIface] 35)).alloc (.cells #[.int .i64 pl] 3))) := ⟨hv1, hk1⟩
  have HP : Aside (pl ≤ bs.length) := h.le
  clear h hread hS hG hv1 hk1
  go_enter_defers Tryd.func33, Tryd.ntmps33
  go_wp2_with fail
  refine (HH.out _ HV.out.2).mono ?_
  rintro e w2 ⟨rfl, hk2, ⟨q, hr2⟩, hg2⟩
  have hlt : ∀ s ∈ rb :: S, s < w.heap.size := by
    intro s hs
    rcases List.mem_cons.1 hs with rfl | hs
    · exact lr
    · exact HS.out.1 s hs
  have hv2 := HV.out.1.kept hk2 hlt
  have HQ : Aside (RdAt rb g bs q .nilIface w2 ∧ Kept (rb :: S) w w2 ∧ G w2 ∧ Vars rb ca pl w.heap.size w2) := ⟨hr2, (HV.out.2.mono (by simp)).go hk2 (fun s hs => .inl hs), hg2, hv2⟩
  have e1 : w2.cell? ⟨w.heap.size + 1 + 1, 0, none⟩ = some .nilIface := by rw [cellW_of hv2.e]; rfl
  have e2 := frozenW_of hv2.e 0
  have hpl : pl ≤ bs.length := HP.out
  clear HV HH hk2 hr2 hg2 hv2 c1 c2
  generalize hb0 : w.heap.size = b at *
  go_wp2
  have hgl : ¬ b + 1 + 1 = g := fun hh => by
    have h1 := HQ.out.1.raw
    rw [← hh, HQ.out.2.2.2.e] at h1
    simp at h1
  refine leaves_cons (f := 39) (args := #[.pointer (some ⟨b + 1 + 1 + 1, 0, none⟩), .pointer (some ⟨b, 0, none⟩), .pointer (some ⟨b + 1, 0, none⟩), .pointer (some ⟨b + 1 + 1, 0, none⟩)]) (by simp) (by simp [go_sem]) ?_
  refine (catch_panicking (b + 1 + 1 + 1) b (b + 1) (b + 1 + 1) rb pl q ca g bs .nilIface 128 (.pointer (some (ad c))) .nilIface w2 HQ.out.1 hpl (by rw [cellW_of HQ.out.2.2.2.s]; rfl) (by rw [cellW_of HQ.out.2.2.2.r]; rfl) (by rw [cellW_of HQ.out.2.2.2.c]; rfl) HQ.out.2.2.2.e (by omega) (by omega) (by omega) (by omega) hgl).mono ?_
  rintro e u' w3 ⟨rfl, rfl, f, hf1, hf2, hf3, hf4, hk3⟩
  have e3 : w3.cell? ⟨b + 1 + 1, 0, none⟩ = some (.iface 64 (.pointer (some ⟨f, 0, none⟩))) := by rw [cellW_of hf4]; rfl
  have hbw := HQ.out.2.1.size
  have A2 : Kept (rb :: S) w w3 := HQ.out.2.1.go hk3 (by simp; omega)
  have A3 : G w3 := HS.out.2 w2 w3 (fun k hk hn => hk3.block k (by have := lt_of_heap HQ.out.2.2.2.e; omega) (by simp; omega)) HQ.out.2.2.1
  have A4 : w.heap.size ≤ f := by omega
  simp only [Leaves, settle, List.dropWhile]
  refine ⟨.iface 64 (.pointer (some ⟨f, 0, none⟩)), by simp [results, Tryd.results33, go_sem, e3], f, A4, rfl, hf2, hf3, A2, A3⟩
end Go.Proofs.YthabeapgkaggmaaDoor
