
/-
  What a Writer's calls leave as it was: every block that holds neither bytes nor a Writer.
-/
import Derived.Test.YtfiajbgeijgheaaDoorWr2
namespace Go.Proofs.YtfiajbgeijgheaaDoor
open Go.RowKit
set_option maxRecDepth 100000

/-- Every block of w that holds neither bytes nor a Writer lies in w' as it lay. -/
def FrT (w w' : World) : Prop := ∀ (k : Nat) (cs : Array Value) (t : TypeId) (m : Nat × Nat), w.heap[k]? = some (Obj.cells cs t m) → t ≠ 5 → t ≠ 27 → w'.heap[k]? = some (Obj.cells cs t m)

theorem FrT.refl (w : World) : FrT w w := fun _ _ _ _ h _ _ => h
theorem FrT.trans {w w1 w2 : World} (h : FrT w w1) (g : FrT w1 w2) : FrT w w2 := fun k cs t m hk h1 h2 => g k cs t m (h k cs t m hk h1 h2) h1 h2
theorem FrT.below {w w' : World} (h : Below w.heap.size w w') : FrT w w' := fun k cs t m hk _ _ => by rw [h.block k (lt_of_heap hk)]; exact hk
theorem FrT.alloc {w w1 : World} (h : FrT w w1) (o : Obj) : FrT w (w1.alloc o) := fun k cs t m hk h1 h2 => by
  have := h k cs t m hk h1 h2
  rw [Below.heap_alloc _ _ _ (lt_of_heap this)]; exact this
theorem FrT.grown {w w1 w2 : World} {B n : Nat} {v : Value} {xs : List Value} (h : FrT w w1) (hg : w1.grownBy w2 v.ownBlock) (ho : w1.ownsRow B 5 1 v n xs) : FrT w w2 := fun k cs t m hk h1 h2 => by
  have hk1 := h k cs t m hk h1 h2
  rw [hg.block k (lt_of_heap hk1) (fun e => ?_)]
  · exact hk1
  · rcases ho.2 with ⟨rfl, _⟩ | ⟨g, cap, cur, rfl, _, hg', _⟩
    · simp [Value.ownBlock] at e
    · simp only [Value.ownBlock, Option.some.injEq] at e
      subst e
      rw [hg'] at hk1
      simp only [Option.some.injEq, Obj.cells.injEq] at hk1
      exact h1 hk1.2.1.symm
theorem FrT.set {w w1 : World} {b : Nat} {z : Array Value} (h : FrT w w1) (hb : w1.heap[b]? = some (.cells z 27 (0, 0))) (x : Value) : FrT w (w1.setCell ⟨b, 0, none⟩ x) := fun k cs t m hk h1 h2 => by
  have hk1 := h k cs t m hk h1 h2
  have hne : k ≠ b := fun e => by
    subst e
    rw [hb] at hk1
    simp only [Option.some.injEq, Obj.cells.injEq] at hk1
    exact h2 hk1.2.1.symm
  rw [Below.heap_setCell _ _ _ _ hne]; exact hk1

set_option maxHeartbeats 1000000 in
theorem byte_fr {B b : Nat} {bs : List UInt8} {v : Value} {w : World} (h : WrAt B b bs v w) (c : UInt8) (hlen : bs.length + 1 ≤ 140737488355328) (hBw : B ≤ w.heap.size) :
    Calls Tryd.prog 14 #[.pointer (some ⟨b, 0, none⟩), .int .u8 c.toNat] w fun e w' => e = .returned (.tuple #[]) ∧ (∃ v', WrAt B b (bs ++ [c]) v' w') ∧ Below B w w' ∧ FrT w w' := by
  obtain ⟨i0, hi, hz0, hz1, hz2⟩ := info_parts info_u8
  have c0 : w.cell? ⟨b, 0, none⟩ = some v := by rw [cellW_of h.lies]; rfl
  have HH : Aside (WrAt B b bs v w ∧ bs.length + 1 ≤ 140737488355328 ∧ B ≤ w.heap.size) := ⟨h, hlen, hBw⟩
  have hown := h.own
  clear h hlen hBw
  go_enter Tryd.func14, Tryd.ntmps14
  go_wp2_with (at_builtin; refine wpList_append_own _ rfl _ _ 25 rfl B 5 i0 (.int .u8 0) 1 1 Tryd.underlying25 hi hz0 hz1 hz2 rfl (by decide) _ _ _ rfl (hown.alloc _) ⟨w.heap.size, 0, none⟩ 1 1 [.int .u8 c.toNat] rfl rfl ?c1 ?c2 ?c3 ?c4 ?c5 ?_)
  case c1 => exact cell_one_new _ _ _
  case c2 => intro u hu; simp at hu; subst hu; rfl
  case c3 => have := HH.out.2.1; unfold maxLen; omega
  case c4 => have := HH.out.2.1; omega
  case c5 => have := HH.out.2.2; simp; omega
  intro v0 w2 hown0 hgrow hnn
  clear hnn
  have hW : WrAt B b bs v (w.alloc (.cells #[.int .u8 c.toNat] 5)) := HH.out.1.keep (S := []) ((Kept.refl _ w).alloc _) (by simp)
  obtain ⟨hput, hb2⟩ := hW.put (bs' := bs ++ [c]) (v' := v0) hgrow (by simpa [Lib.byteCells] using hown0)
  have d1 : w2.cell? ⟨b, 0, none⟩ = some v := by rw [cellW_of hb2]; rfl
  have f1 : w2.frozen? ⟨b, 0, none⟩ = false := frozenW_of hb2 0
  have HF : Aside (WrAt B b (bs ++ [c]) v0 (w2.setCell ⟨b, 0, none⟩ v0) ∧ Below B w (w2.setCell ⟨b, 0, none⟩ v0) ∧ FrT w (w2.setCell ⟨b, 0, none⟩ v0)) := ⟨hput, ((((Below.refl B w).alloc HH.out.2.2 _).grown hgrow (by have := HH.out.2.2; simp; omega) (fun k hk => (HH.out.1.own.lt k hk).1)).setCell (p := ⟨b, 0, none⟩) HH.out.1.lo _), ((((FrT.refl w).alloc _).grown hgrow hW.own).set hb2 _)⟩
  obtain ⟨va, vn, vc, hv'⟩ : ∃ a k c, v0 = .slice a k c := by
    rcases hown0.2 with ⟨hv, _⟩ | ⟨g, cap, cur, hv, _⟩
    · exact ⟨_, _, _, hv⟩
    · exact ⟨_, _, _, hv⟩
  rw [hv'] at HF ⊢
  clear hv' hput hb2 hW hown0 hgrow hown
  go_wp2
  go_end0
  exact ⟨rfl, ⟨_, HF.out.1⟩, HF.out.2⟩

theorem byte_intF {B b : Nat} {bs : List UInt8} {v : Value} {w : World} (h : WrAt B b bs v w) (x : Int) (c : UInt8) (hx : x = (c.toNat : Int)) (hlen : bs.length + 1 ≤ 140737488355328) (hBw : B ≤ w.heap.size) :
    Calls Tryd.prog 14 #[.pointer (some ⟨b, 0, none⟩), .int .u8 x] w fun e w' => e = .returned (.tuple #[]) ∧ (∃ v', WrAt B b (bs ++ [c]) v' w') ∧ Below B w w' ∧ FrT w w' := by
  subst hx; exact byte_fr h c hlen hBw

set_option maxHeartbeats 1000000 in
theorem wdigits_fr {B b : Nat} {bs : List UInt8} {v : Value} {w : World} (h : WrAt B b bs v w) (n : Nat) (hn : n < 9223372036854775808) (hlen : bs.length + 9 ≤ 140737488355328) (hBw : B ≤ w.heap.size) :
    Calls Tryd.prog 32 #[.pointer (some ⟨b, 0, none⟩), .int .i64 n] w fun e w' => e = .returned (.tuple #[]) ∧ (∃ v', WrAt B b (bs ++ formN n) v' w') ∧ Below B w w' ∧ FrT w w' := by
  have HL : Aside (bs.length + 9 ≤ 140737488355328 ∧ B ≤ w.heap.size ∧ n < 9223372036854775808) := ⟨hlen, hBw, hn⟩
  have HH : Aside (WrAt B b bs v w) := h
  clear h hlen hBw hn
  go_enter Tryd.func32, Tryd.ntmps32
  go_wp2_with fail
  go_loopg [1] n (fun k nv wr => ∃ (m : Nat) (pre : List UInt8) (v' : Value), k = m ∧ nv = .int .i64 (m : Int) ∧ WrAt B b (bs ++ pre) v' wr ∧ Aside (pre ++ formN m = formN n ∧ m < 9223372036854775808) ∧ Below B w wr ∧ FrT w wr)
  case atStart => exact ⟨n, [], v, rfl, rfl, by simpa using HH.out, ⟨by simp, HL.out.2.2⟩, Below.refl _ _, FrT.refl _⟩
  case round =>
    obtain ⟨m, pre, v', hgk, rfl, hW, hA, hb, hfr⟩ := hrel
    have HW : Aside (WrAt B b (bs ++ pre) v' wr) := hW
    have HB : Aside (Below B w wr ∧ FrT w wr) := ⟨hb, hfr⟩
    clear hW hb hfr
    have hpl : pre.length + 1 ≤ 9 := by
      have h1 := congrArg List.length hA.out.1
      have h2 := form_len9 n HL.out.2.2
      have h3 : 1 ≤ (formN m).length := by rw [formN]; split <;> simp
      rw [List.length_append] at h1
      omega
    by_cases hm : m < 128
    · have hm' : ¬ (128 : Int) ≤ (m : Int) := by omega
      have hw8 : IntKind.u8.wrap (m : Int) = (m : Int) := by rw [IntKind.wrap_u8']; omega
      go_wp2_with (go_at_call 14; refine (byte_intF HW.out _ (UInt8.ofNat m) (ofN_small m hm) (by have := HL.out.1; rw [List.length_append]; omega) (by have := HB.out.1.size; have := HL.out.2.1; omega)).mono ?_; rintro e w2 ⟨rfl, ⟨v2, hW2⟩, hb2, hf2⟩)
      go_end0
      refine ⟨rfl, ⟨v2, ?_⟩, HB.out.1.trans hb2, HB.out.2.trans hf2⟩
      rw [← hA.out.1, form_small hm, ← List.append_assoc]
      exact hW2
    · have hm' : (128 : Int) ≤ (m : Int) := by omega
      have hw := wrap_div m hA.out.2
      go_wp2_with (go_at_call 14; refine (byte_intF HW.out _ (UInt8.ofNat (m % 128 + 128)) (ofN_big m) (by have := HL.out.1; rw [List.length_append]; omega) (by have := HB.out.1.size; have := HL.out.2.1; omega)).mono ?_; rintro e w2 ⟨rfl, ⟨v2, hW2⟩, hb2, hf2⟩)
      go_roundg (m / 128)
      case measure => rw [hgk]; exact Nat.div_lt_self (by omega) (by decide)
      case rel =>
        refine ⟨m / 128, pre ++ [UInt8.ofNat (m % 128 + 128)], v2, rfl, congrArg (Value.int .i64 ·) hw, by rw [← List.append_assoc]; exact hW2, ⟨?_, by have := hA.out.2; omega⟩, HB.out.1.trans hb2, HB.out.2.trans hf2⟩
        rw [← hA.out.1, form_big hm, List.append_assoc]; rfl

theorem wnumber_fr {B b : Nat} {bs : List UInt8} {v : Value} {w : World} (h : WrAt B b bs v w) (n : Nat) (hn : n < 9223372036854775808) (hlen : bs.length + 9 ≤ 140737488355328) (hBw : B ≤ w.heap.size) :
    Calls Tryd.prog 11 #[.pointer (some ⟨b, 0, none⟩), .int .i64 n] w fun e w' => e = .returned .nilIface ∧ (∃ v', WrAt B b (bs ++ formN n) v' w') ∧ Below B w w' ∧ FrT w w' := by
  have HH : Aside (WrAt B b bs v w ∧ n < 9223372036854775808 ∧ bs.length + 9 ≤ 140737488355328 ∧ B ≤ w.heap.size) := ⟨h, hn, hlen, hBw⟩
  have hnn : ¬ (n : Int) < 0 := by omega
  clear h hn hlen hBw
  go_enter Tryd.func11, Tryd.ntmps11
  go_wp2_with (go_at_call 32; refine (wdigits_fr HH.out.1 n HH.out.2.1 HH.out.2.2.1 HH.out.2.2.2).mono ?_; rintro e w2 ⟨rfl, hW2, hb2⟩)
  go_ret
  exact ⟨rfl, hW2, hb2⟩

set_option maxHeartbeats 1000000 in
theorem wtext_fr {B b : Nat} {bs : List UInt8} {v : Value} {w : World} (h : WrAt B b bs v w) (s : ByteArray) (hlen : bs.length + 9 + s.size ≤ 140737488355328) (hBw : B ≤ w.heap.size) :
    Calls Tryd.prog 13 #[.pointer (some ⟨b, 0, none⟩), .string s] w fun e w' => e = .returned .nilIface ∧ (∃ v', WrAt B b (bs ++ formN s.size ++ s.data.toList) v' w') ∧ Below B w w' ∧ FrT w w' := by
  obtain ⟨i0, hi, hz0, hz1, hz2⟩ := info_parts info_u8
  have HH : Aside (WrAt B b bs v w ∧ bs.length + 9 + s.size ≤ 140737488355328 ∧ B ≤ w.heap.size) := ⟨h, hlen, hBw⟩
  clear h hlen hBw
  go_enter Tryd.func13, Tryd.ntmps13
  go_wp2_with (first | (go_at_call 32; refine (wdigits_fr HH.out.1 s.size (by have := HH.out.2.1; omega) (by have := HH.out.2.1; omega) HH.out.2.2).mono ?_; rintro e w2 ⟨rfl, ⟨v2, hW2⟩, hb2, hf2⟩; have c0 : w2.cell? ⟨b, 0, none⟩ = some v2 := (by rw [cellW_of hW2.lies]; rfl); have hown := hW2.own) | (at_builtin; refine Lib.wpList_append_own_string _ rfl _ _ 25 9 rfl B 5 i0 Tryd.underlying25 Tryd.underlying9 hi hz0 hz1 hz2 _ _ _ rfl hown s rfl ?c3 ?c4 ?c5 ?_))
  case c3 => have := HH.out.2.1; have := form_len9 s.size (by omega); unfold maxLen; rw [List.length_append]; omega
  case c4 => have := HH.out.2.1; have := form_len9 s.size (by omega); rw [List.length_append]; omega
  case c5 => have := hb2.size; have := HH.out.2.2; omega
  intro v0 w3 hown0 hgrow hnn
  clear hnn
  obtain ⟨hput, hb3⟩ := hW2.put (bs' := bs ++ formN s.size ++ s.data.toList) (v' := v0) hgrow (by
    have e1 : (bs ++ formN s.size ++ s.data.toList).length = (bs ++ formN s.size).length + s.size := by rw [List.length_append]; rfl
    rw [e1]
    have e2 : Lib.byteCells (bs ++ formN s.size ++ s.data.toList) = Lib.byteCells (bs ++ formN s.size) ++ Lib.strCells s := by simp [Lib.byteCells, Lib.strCells]
    rw [e2]
    rw [List.length_append]
    exact hown0)
  have d1 : w3.cell? ⟨b, 0, none⟩ = some v2 := by rw [cellW_of hb3]; rfl
  have f1 : w3.frozen? ⟨b, 0, none⟩ = false := frozenW_of hb3 0
  have HF : Aside (WrAt B b (bs ++ formN s.size ++ s.data.toList) v0 (w3.setCell ⟨b, 0, none⟩ v0) ∧ Below B w (w3.setCell ⟨b, 0, none⟩ v0) ∧ FrT w (w3.setCell ⟨b, 0, none⟩ v0)) := ⟨hput, (hb2.grown hgrow (by have := hb2.size; have := HH.out.2.2; omega) (fun k hk => (hW2.own.lt k hk).1)).setCell (p := ⟨b, 0, none⟩) HH.out.1.lo _, (hf2.grown hgrow hW2.own).set hb3 _⟩
  obtain ⟨va, vn, vc, hv'⟩ : ∃ a k c, v0 = .slice a k c := by
    rcases hown0.2 with ⟨hv, _⟩ | ⟨g, cap, cur, hv, _⟩
    · exact ⟨_, _, _, hv⟩
    · exact ⟨_, _, _, hv⟩
  rw [hv'] at HF ⊢
  clear hv' hput hb3 hown0 hgrow hown c0 hW2
  go_wp2
  go_ret
  exact ⟨rfl, ⟨_, HF.out.1⟩, HF.out.2⟩
end Go.Proofs.YtfiajbgeijgheaaDoor
