/-
  The words of reasons, and of the one Fault by which each law wakes; barrowlaw01.wakes.
-/
import Derived.Test.YthbnhecellbncaaDoorBld
import Derived.Test.YthbnhecellbncaaDoorCode
namespace Go.Proofs.YthbnhecellbncaaDoor
open Go.RowKit Go.Extern.Stop Go.Stop Go.Extern
set_option maxRecDepth 100000

theorem error_s (a : Addr) (s : ByteArray) (w : World) (h : w.cell? a = some (.string s)) :
    Calls Tryd.prog 117 #[.pointer (some a)] w fun e w' => e = .returned (.string s) ∧ w' = w := by
  go_enter Tryd.func117, Tryd.ntmps117
  go_wp2
  go_ret
  exact ⟨rfl, rfl⟩

theorem text_nil (w : World) :
    Calls Tryd.prog 29 #[.nilIface] w fun e w' => e = .returned (.string ⟨#[]⟩) ∧ w' = w := by
  go_enter Tryd.func29, Tryd.ntmps29
  go_wp2
  go_ret
  exact ⟨rfl, rfl⟩

theorem text_s (a : Addr) (s : ByteArray) (w : World) (h : w.cell? a = some (.string s)) :
    Calls Tryd.prog 29 #[.iface 131 (.pointer (some a))] w fun e w' => e = .returned (.string s) ∧ w' = w := by
  have mE := methodErrorS
  go_enter Tryd.func29, Tryd.ntmps29
  go_wp2_with (go_at_call 117; refine (error_s a s _ h).mono ?_; rintro e w1 ⟨rfl, rfl⟩)
  go_ret
  exact ⟨rfl, rfl⟩

theorem Bld_keep {B b : Nat} {bs : List Value} {w w' : World} (h : Bld B b bs w) (hb : Below w.heap.size w w') : Bld B b bs w' := by
  have keep : ∀ p, Lib.BuilderAt 149 5 B b p bs w → Lib.BuilderAt 149 5 B b p bs w' := fun p h => by
    obtain ⟨hB, v, hbk, hown, hne⟩ := h
    exact ⟨hB, v, by rw [hb.block b (Array.getElem?_eq_some_iff.1 hbk).1]; exact hbk, hown.kept (row := none) ⟨hb.os, hb.tape, hb.output, hb.size, fun k hk _ => hb.block k hk⟩ (by cases hv : v.ownBlock <;> simp), hne⟩
  rcases h with h | h
  · exact .inl (keep _ h)
  · exact .inr (keep _ h)

theorem Bld_lt {B b : Nat} {bs : List Value} {w : World} (h : Bld B b bs w) : B ≤ b ∧ b < w.heap.size := by
  rcases h with h | h <;> exact ⟨h.1, h.lt⟩

set_option maxHeartbeats 1000000 in
theorem tell_rsn {ad : Nat → Addr} {w : World} {B b : Nat} {bs : List Value} (L : LaidB ad B w) (k : Nat) (hk : k < 14) (hB : Bld B b bs w) (hlen : bs.length + 20 ≤ 140737488355328) :
    Calls Tryd.prog 81 #[.pointer (some ⟨b, 0, none⟩), .iface 131 (.pointer (some (ad k)))] w fun e w' => e = .returned (.tuple #[]) ∧ Bld B b (bs ++ Lib.strCells (txt k)) w' ∧ Below B w w' := by
  have mE := methodErrorS
  have hlt := Bld_lt hB
  have htx : (txt k).size ≤ 20 := by
    match k, hk with
    | 0, _ | 1, _ | 2, _ | 3, _ | 4, _ | 5, _ | 6, _ | 7, _ | 8, _ | 9, _ | 10, _ | 11, _ | 12, _ | 13, _ => decide
  have HL : Aside (bs.length + 20 ≤ 140737488355328 ∧ (txt k).size ≤ 20) := ⟨hlen, htx⟩
  clear hlen htx
  go_enter Tryd.func81, Tryd.ntmps81
  go_wp2_with (go_at_call 38; refine (asFault_s _ _).mono ?_; rintro e w1 ⟨rfl, hb1⟩)
  refine wp_loop_rounds 1 ?_
  rw [rounds_succ]
  go_wp2_with (first | (go_at_call 39; refine (asMany_s _ _ (L.laid.below hb1).et).mono ?_; rintro e w2 ⟨rfl, hb2⟩) | (go_at_call 117; refine (error_s (ad k) (txt k) _ (((L.laid).below hb1).below hb2 |>.str k hk)).mono ?_; rintro e w3 ⟨rfl, rfl⟩) | (go_at_call 83; refine (writeString_any B b bs (txt k) _ (Bld_keep (Bld_keep hB hb1) hb2) ?h1 ?h2).mono ?_))
  case h1 => have := HL.out; omega
  case h2 => have := hb1.size; have := hb2.size; omega
  rintro e w3 ⟨rfl, hB3, hb3⟩
  go_wp2
  go_end0
  exact ⟨rfl, hB3, ((hb1.mono (by omega)).trans (hb2.mono (by have := hb1.size; omega))).trans hb3⟩

set_option maxHeartbeats 400000 in
theorem itoa5 (w : World) :
    Calls Tryd.prog 85 #[.int .i64 5] w fun e w' => e = .returned (.string ⟨#[53]⟩) ∧ w' = w := by
  go_enter Tryd.func85, Tryd.ntmps85
  go_wp2
  go_ret
  exact ⟨rfl, rfl⟩

theorem bsz {B : Nat} {w w' : World} (hb : Below B w w') (h : B ≤ w.heap.size) : B ≤ w'.heap.size := Nat.le_trans h hb.size

set_option maxHeartbeats 2000000 in
theorem tellPlace5 {B b f : Nat} {bs : List Value} {la ca : ByteArray} {y : Value} {w : World} (hf : w.heap[f]? = some (.cells #[.string la, .string ca, .int .i64 5, y] 60 (0, 0))) (hfB : f < B) (hB : Bld B b bs w)
    (hlen : bs.length + la.size + ca.size + 20 ≤ 140737488355328) :
    Calls Tryd.prog 80 #[.pointer (some ⟨f, 0, none⟩), .pointer (some ⟨b, 0, none⟩)] w fun e w' => e = .returned (.tuple #[]) ∧
      Bld B b ((((((bs ++ Lib.strCells la) ++ [.int .u8 46]) ++ Lib.strCells ca) ++ Lib.strCells ⟨#[32, 97, 116, 32]⟩) ++ Lib.strCells ⟨#[53]⟩) ++ Lib.strCells ⟨#[58, 32]⟩) w' ∧ Below B w w' := by
  have hlt := Bld_lt hB
  have hBw : B ≤ w.heap.size := by omega
  have c0 : w.cell? ⟨f, 0, none⟩ = some (.string la) := by rw [cell_of_heap hf]; rfl
  have HL : Aside (bs.length + la.size + ca.size + 20 ≤ 140737488355328) := hlen
  clear hlen
  go_enter Tryd.func80, Tryd.ntmps80
  go_wp2_with (go_at_call 83; refine (writeString_any B b bs la _ hB ?h1 hBw).mono ?_)
  case h1 => have := HL.out; omega
  rintro e w1 ⟨rfl, hB1, hb1⟩
  have hBw1 := bsz hb1 hBw
  have hf1 : w1.heap[f]? = some (.cells #[.string la, .string ca, .int .i64 5, y] 60 (0, 0)) := by rw [hb1.block f hfB]; exact hf
  go_wp2_with (go_at_call 84; refine (writeByte_any B b _ 46 _ hB1 ?h1 hBw1).mono ?_)
  case h1 => have := HL.out; simp [Lib.strCells_length]; omega
  rintro e w2 ⟨rfl, hB2, hb2⟩
  have hBw2 := bsz hb2 hBw1
  have hf2 : w2.heap[f]? = some (.cells #[.string la, .string ca, .int .i64 5, y] 60 (0, 0)) := by rw [hb2.block f hfB]; exact hf1
  have c1 : w2.cell? ⟨f, 1, none⟩ = some (.string ca) := by rw [cell_of_heap hf2]; rfl
  go_wp2_with (go_at_call 83; refine (writeString_any B b _ ca _ hB2 ?h1 hBw2).mono ?_)
  case h1 => have := HL.out; simp [Lib.strCells_length]; omega
  rintro e w3 ⟨rfl, hB3, hb3⟩
  have hBw3 := bsz hb3 hBw2
  have hf3 : w3.heap[f]? = some (.cells #[.string la, .string ca, .int .i64 5, y] 60 (0, 0)) := by rw [hb3.block f hfB]; exact hf2
  have c2 : w3.cell? ⟨f, 2, none⟩ = some (.int .i64 5) := by rw [cell_of_heap hf3]; rfl
  go_wp2_with (go_at_call 83; refine (writeString_any B b _ ⟨#[32, 97, 116, 32]⟩ _ hB3 ?h1 hBw3).mono ?_)
  case h1 =>
    have := HL.out
    have hs : (ByteArray.mk #[32, 97, 116, 32]).size = 4 := rfl
    simp [Lib.strCells_length, hs]; omega
  rintro e w4 ⟨rfl, hB4, hb4⟩
  have hBw4 := bsz hb4 hBw3
  have hf4 : w4.heap[f]? = some (.cells #[.string la, .string ca, .int .i64 5, y] 60 (0, 0)) := by rw [hb4.block f hfB]; exact hf3
  have c3 : w4.cell? ⟨f, 2, none⟩ = some (.int .i64 5) := by rw [cell_of_heap hf4]; rfl
  go_wp2_with (first | (go_at_call 85; refine (itoa5 _).mono ?_; rintro e w5 ⟨rfl, rfl⟩) | (go_at_call 83; refine (writeString_any B b _ ⟨#[53]⟩ _ hB4 ?h1 hBw4).mono ?_))
  case h1 =>
    have := HL.out
    have hs : (ByteArray.mk #[32, 97, 116, 32]).size = 4 := rfl
    have hs1 : (ByteArray.mk #[53]).size = 1 := rfl
    simp [Lib.strCells_length, hs, hs1]; omega
  rintro e w5 ⟨rfl, hB5, hb5⟩
  have hBw5 := bsz hb5 hBw4
  go_wp2_with (go_at_call 83; refine (writeString_any B b _ ⟨#[58, 32]⟩ _ hB5 ?h1 hBw5).mono ?_)
  case h1 =>
    have := HL.out
    have hs : (ByteArray.mk #[32, 97, 116, 32]).size = 4 := rfl
    have hs1 : (ByteArray.mk #[53]).size = 1 := rfl
    have hs2 : (ByteArray.mk #[58, 32]).size = 2 := rfl
    simp [Lib.strCells_length, hs, hs1, hs2]; omega
  rintro e w6 ⟨rfl, hB6, hb6⟩
  go_wp2
  go_end0
  exact ⟨rfl, hB6, ((((hb1.trans hb2).trans hb3).trans hb4).trans hb5).trans hb6⟩

/-- What wakes() holds the text of its Fault against. -/
def wakeWords : List UInt8 := [119, 105, 114, 101, 46, 78, 117, 109, 98, 101, 114, 32, 97, 116, 32, 53, 58, 32, 99, 117, 116, 32, 115, 104, 111, 114, 116]
def wireB : ByteArray := ⟨#[119, 105, 114, 101]⟩
def numberB : ByteArray := ⟨#[78, 117, 109, 98, 101, 114]⟩

theorem wake_cells : ((((((([] ++ Lib.strCells wireB) ++ [Value.int .u8 46]) ++ Lib.strCells numberB) ++ Lib.strCells ⟨#[32, 97, 116, 32]⟩) ++ Lib.strCells ⟨#[53]⟩) ++ Lib.strCells ⟨#[58, 32]⟩) ++ Lib.strCells (txt 6)) = Lib.byteCells wakeWords := by rfl

theorem new_bld (w : World) : Bld w.heap.size w.heap.size [] (w.alloc (.cells #[.pointer none, .slice none 0 0] 149)) :=
  .inl ⟨Nat.le_refl _, .slice none 0 0, heap_alloc_last w _, World.ownsRow_nil _ _ _ _, by simp [Value.ownBlock]⟩

set_option maxHeartbeats 2000000 in
theorem error_wake {ad : Nat → Addr} {f : Nat} {w : World} (L : Laid ad w) (hf : w.heap[f]? = some (.cells #[.string wireB, .string numberB, .int .i64 5, .iface 131 (.pointer (some (ad 6)))] 60 (0, 0))) :
    Calls Tryd.prog 79 #[.pointer (some ⟨f, 0, none⟩)] w fun e w' => e = .returned (.string ⟨wakeWords.toArray⟩) ∧ Below w.heap.size w w' := by
  have hfl : f < w.heap.size := (Array.getElem?_eq_some_iff.1 hf).1
  have hf0 : (w.alloc (.cells #[.pointer none, .slice none 0 0] 149)).heap[f]? = some (.cells #[.string wireB, .string numberB, .int .i64 5, .iface 131 (.pointer (some (ad 6)))] 60 (0, 0)) := by
    rw [Below.heap_alloc _ _ _ hfl]; exact hf
  have hb0 := below_one w (.cells #[.pointer none, .slice none 0 0] 149)
  go_enter Tryd.func79, Tryd.ntmps79
  go_wp2_with (go_at_call 80; refine (tellPlace5 hf0 hfl (new_bld w) (by decide)).mono ?_)
  rintro e w1 ⟨rfl, hB1, hb1⟩
  have hf1 : w1.heap[f]? = some (.cells #[.string wireB, .string numberB, .int .i64 5, .iface 131 (.pointer (some (ad 6)))] 60 (0, 0)) := by rw [hb1.block f hfl]; exact hf0
  have c3 : w1.cell? ⟨f, 3, none⟩ = some (.iface 131 (.pointer (some (ad 6)))) := by rw [cell_of_heap hf1]; rfl
  have L1 : LaidB ad w.heap.size w1 := (laidB_of L).below (hb0.trans hb1)
  clear hf hf0
  go_wp2_with (go_at_call 81; refine (tell_rsn L1 6 (by decide) hB1 (by decide)).mono ?_)
  rintro e w2 ⟨rfl, hB2, hb2⟩
  rw [wake_cells] at hB2
  go_wp2_with (go_at_call 82; refine (Tryd.Builder_String_any w.heap.size w.heap.size wakeWords _ hB2 ?h1).mono ?_)
  case h1 => have := hb0.size; have := hb1.size; have := hb2.size; omega
  rintro e w3 ⟨rfl, hb3⟩
  go_wp2
  go_ret
  exact ⟨rfl, ((hb0.trans hb1).trans hb2).trans hb3⟩

theorem text_wake {ad : Nat → Addr} {f : Nat} {w : World} (L : Laid ad w) (hf : w.heap[f]? = some (.cells #[.string wireB, .string numberB, .int .i64 5, .iface 131 (.pointer (some (ad 6)))] 60 (0, 0))) :
    Calls Tryd.prog 29 #[.iface 55 (.pointer (some ⟨f, 0, none⟩))] w fun e w' => e = .returned (.string ⟨wakeWords.toArray⟩) ∧ Below w.heap.size w w' := by
  have mE := methodErrorF
  go_enter Tryd.func29, Tryd.ntmps29
  go_wp2_with (go_at_call 79; refine (error_wake L hf).mono ?_; rintro e w1 ⟨rfl, hb1⟩)
  go_ret
  exact ⟨rfl, hb1⟩

/-- fault.New of an error. -/
theorem new_some (la ca : ByteArray) (at_ : Int) (t : TypeId) (v : Value) (w : World) :
    Calls Tryd.prog 15 #[.string la, .string ca, .int .i64 at_, .iface t v] w fun e w' => e = .returned (.iface 55 (.pointer (some ⟨w.heap.size, 0, none⟩))) ∧ w' = w.alloc (.cells #[.string la, .string ca, .int .i64 (max at_ (-1)), .iface t v] 60) := by
  go_enter Tryd.func15, Tryd.ntmps15
  go_wp2
  go_ret
  exact ⟨rfl, rfl⟩
end Go.Proofs.YthbnhecellbncaaDoor
