
/-
  strings.Join of a few short strings.
-/
import Derived.Test.YtphdkniplhkkfaaDoorScBl
import Derived.Test.YtphdkniplhkkfaaDoorSq1
import Derived.Lib.SmallJoins
namespace Go.Proofs.YtphdkniplhkkfaaDoor
open Go.RowKit Go.Extern.Stop Go.Stop Go.Extern
set_option maxRecDepth 100000

/-- Strings, one behind the other. -/
def joinB (sep : ByteArray) : List ByteArray → List UInt8
  | [] => []
  | x :: r => x.data.toList ++ r.flatMap fun y => sep.data.toList ++ y.data.toList
def RwS (v : Value) (xs : List ByteArray) (w : World) : Prop := Rw 9 1 v xs.length (xs.map Value.string) w
theorem cells_app (l : List UInt8) (s : ByteArray) : Lib.byteCells l ++ Lib.strCells s = Lib.byteCells (l ++ s.data.toList) := by
  simp [Lib.byteCells, Lib.strCells]
theorem joinB_snoc (sep x : ByteArray) (r : List ByteArray) (y : ByteArray) : joinB sep (x :: r ++ [y]) = joinB sep (x :: r) ++ sep.data.toList ++ y.data.toList := by
  simp [joinB]
theorem joinB_take {sep : ByteArray} {xs : List ByteArray} {k : Nat} {y : ByteArray} (h : xs[k + 1]? = some y) : joinB sep (xs.take (k + 2)) = joinB sep (xs.take (k + 1)) ++ sep.data.toList ++ y.data.toList := by
  cases xs with
  | nil => simp at h
  | cons x r =>
    have e : (x :: r).take (k + 2) = x :: r.take k ++ [y] := by
      rw [List.take_succ_cons, List.take_add_one, show r[k]? = some y by simpa using h]
      rfl
    rw [e, joinB_snoc, List.take_succ_cons]
theorem RwS.at {v : Value} {xs : List ByteArray} {w : World} (h : RwS v xs w) (h0 : xs ≠ []) : ∃ g c, v = .slice (some ⟨g, 0, none⟩) xs.length c ∧ xs.length ≤ c ∧ g < w.heap.size ∧ ∀ (k : Nat) (x : ByteArray), xs[k]? = some x → w.cell? ⟨g, k, none⟩ = some (.string x) := by
  have h9 := h
  have hlt := Rw.lt h
  obtain ⟨a, c, hv, hle, _⟩ := Rw.form h
  rcases h.2 with ⟨rfl, hn⟩ | ⟨g, cap, cur, rfl, hg, _⟩
  · exact absurd (List.eq_nil_of_length_eq_zero hn) h0
  · cases hv
    refine ⟨g, c, rfl, hle, hlt g rfl, fun k x hx => ?_⟩
    have := Rw.cells (o := 0) h9 k (.string x) (by rw [List.getElem?_map, hx]; rfl)
    rwa [Nat.zero_add] at this
set_option maxHeartbeats 4000000 in
theorem join_ok {w : World} {v : Value} {xs : List ByteArray} {sep : ByteArray} (h : RwS v xs w) (h2 : 2 ≤ xs.length) (hl : xs.length ≤ 100) (hz : ∀ x ∈ xs, x.size ≤ 1000) (hs : 0 < sep.size ∧ sep.size ≤ 1000) :
    Calls Tryd.prog 28 #[v, .string sep] w fun e w' => e = .returned (.string ⟨(joinB sep xs).toArray⟩) ∧ Below w.heap.size w w' := by
  obtain ⟨g, c, rfl, hc, hg, hcell⟩ := h.at (by rintro rfl; simp at h2)
  obtain ⟨m, hm⟩ : ∃ m, m = xs.length := ⟨_, rfl⟩
  have HH := hid_of' (And.intro hcell (And.intro hm hz))
  rw [← hm] at h2 hl hc ⊢
  obtain ⟨s0, s1⟩ := hs
  have hsz : (0 : Int) < (sep.size : Int) := by omega
  clear h hm hcell hz
  go_enter Tryd.func28, Tryd.ntmps28
  have hq : ¬ (9223372036854775807 : Int) / ((m : Int) - 1) ≤ (sep.size : Int) := by
    have h3 : (1001 : Int) ≤ 9223372036854775807 / ((m : Int) - 1) := Int.le_ediv_of_mul_le (by omega) (by omega)
    omega
  have hq2 : (9223372036854775807 : Int).tdiv ((m : Int) - 1) = 9223372036854775807 / ((m : Int) - 1) := Int.tdiv_eq_ediv_of_nonneg (by omega)
  have hm1 : ¬ (m : Int) - 1 = 0 := by omega
  have hq3 : wrap64 ((9223372036854775807 : Int) / ((m : Int) - 1)) = 9223372036854775807 / ((m : Int) - 1) := by
    have h4 : (9223372036854775807 : Int) / ((m : Int) - 1) ≤ 9223372036854775807 := Int.ediv_le_self _ (by omega)
    exact wrapIs (by omega) h4
  obtain ⟨P, hP0, hP⟩ : ∃ P : Nat, P ≤ 99000 ∧ (sep.size : Int) * ((m : Int) - 1) = (P : Int) := by
    refine ⟨sep.size * (m - 1), Nat.mul_le_mul s1 (show m - 1 ≤ 99 by omega), ?_⟩
    rw [Int.natCast_mul, Int.natCast_sub (by omega)]
    rfl
  go_upto_region 10 with fail
  clear hq hq2 hq3
  go_upto_region 12 with fail
  clear hP
  go_loopw [5, 41] (fun nv kv wr => ∃ (k : Nat) (nn : Int), kv = .int .i64 (k : Int) ∧ nv = .int .i64 nn ∧ k ≤ m ∧ 0 ≤ nn ∧ nn ≤ 99000 + 1000 * (k : Int) ∧ wr = w) (fun _ kv _ => m - (intOf kv).toNat)
  case atStart => exact ⟨0, (P : Int), rfl, rfl, Nat.zero_le _, by omega, by omega, rfl⟩
  case round =>
    obtain ⟨k, nn, rfl, rfl, hk, hn0, hn1, rfl⟩ := hrel
    by_cases hkm : k < m
    · have hki : (k : Int) < (m : Int) := by omega
      obtain ⟨x, hx⟩ : ∃ x, xs[k]? = some x := ⟨_, List.getElem?_eq_getElem (by rw [← HH.out.2.1]; exact hkm)⟩
      have cx := HH.out.1 k x hx
      have hxz := HH.out.2.2 x (List.mem_of_getElem? hx)
      have hov : ¬ (9223372036854775807 : Int) - nn < (x.size : Int) := by omega
      clear hx
      go_wp2
      exact ⟨⟨k + 1, _, by go_num, rfl, by omega, by omega, by omega, trivial⟩, by simp [intOf]; omega⟩
    · have hki : ¬ (k : Int) < (m : Int) := by omega
      obtain ⟨x0, hx0⟩ : ∃ x, xs[0]? = some x := ⟨_, List.getElem?_eq_getElem (by rw [← HH.out.2.1]; omega)⟩
      have c0 := HH.out.1 0 x0 hx0
      have hxz0 := HH.out.2.2 x0 (List.mem_of_getElem? hx0)
      have rB := RowAt.new wr #[.pointer none, .slice none 0 0] 55
      have bB := below_one wr (.cells #[.pointer none, .slice none 0 0] 55)
      obtain ⟨N9, rfl⟩ : ∃ N9 : Nat, nn = (N9 : Int) := ⟨nn.toNat, by omega⟩
      obtain ⟨b, hb⟩ : ∃ b, b = wr.heap.size := ⟨_, rfl⟩
      go_upto_region 19 with fail
      rw [← hb] at rB ⊢
      generalize wr.alloc (.cells #[.pointer none, .slice none 0 0] 55) = w1 at rB bB ⊢
      have HG := hid_of' (Tryd.Builder_Grow_fresh wr.heap.size b N9 w1 (by omega) rB bB.size (by omega))
      have HB := hid_of' (And.intro bB hb)
      clear rB bB hb
      go_upto_region 20 with (go_at_call 34; refine HG.out.mono ?_; rintro e w2 ⟨rfl, hB2, b2⟩)
      have hb2 : Below wr.heap.size wr w2 := HB.out.1.trans b2
      have HW := hid_of' (writeString_any wr.heap.size b [] x0 w2 (.inr hB2) (by simp only [List.length_nil]; omega) hb2.size)
      have c02 : w2.cell? ⟨g, 0, none⟩ = some (.string x0) := by rw [hb2.cell hg]; exact c0
      have HB2 := hid_of' hb2
      clear hB2 b2 hb2 c0
      go_upto_region 21 with (go_at_call 35; refine HW.out.mono ?_; rintro e w3 ⟨rfl, hB3, b3⟩)
      have HB3 := hid_of' (And.intro hB3 (HB2.out.trans b3))
      clear hB3 b3 HW HG c02
      have hx1 : joinB sep (xs.take 1) = x0.data.toList := by
        rw [List.take_add_one, hx0]
        simp [joinB]
      rw [List.nil_append] at HB3
      have HJ := hid_of' hx1
      clear hx1 hx0
      obtain ⟨wA, rfl⟩ : ∃ x, x = wr := ⟨_, rfl⟩
      have hl0 : (joinB sep (xs.take 1)).length ≤ 2000 := by
        rw [HJ.out, Array.length_toList]
        exact Nat.le_trans hxz0 (by omega)
      have hJ0 : Bld wA.heap.size b (Lib.byteCells (joinB sep (xs.take 1))) w3 := by
        have := HB3.out.1
        rw [show Lib.strCells x0 = Lib.byteCells (joinB sep (xs.take 1)) by rw [HJ.out]; exact cells_app [] x0] at this
        exact this
      have HJ0 := hid_of' (And.intro hl0 hJ0)
      have hc1 : ¬ c = 1 := by omega
      clear hl0 hJ0 hxz0
      go_upto_region 22 with fail
      go_loopw [65] (fun kv wr => ∃ j : Nat, kv = .int .i64 (j : Int) ∧ j + 1 ≤ m ∧ Hid (Bld wA.heap.size b (Lib.byteCells (joinB sep (xs.take (j + 1)))) wr) ∧ Hid ((joinB sep (xs.take (j + 1))).length ≤ 2000 * (j + 1)) ∧ Hid (Below wA.heap.size wA wr)) (fun kv _ => m - (intOf kv).toNat)
      case atStart => exact ⟨0, rfl, by omega, HJ0.out.2, HJ0.out.1, HB3.out.2⟩
      case round =>
        obtain ⟨j, rfl, hj, hJ, hjl, hBj⟩ := hrel
        by_cases hjm : j + 1 < m
        · have hji : (j : Int) < (m : Int) - 1 := by omega
          obtain ⟨x, hx⟩ : ∃ x, xs[j + 1]? = some x := ⟨_, List.getElem?_eq_getElem (by rw [← HH.out.2.1]; exact hjm)⟩
          have cx := HH.out.1 (j + 1) x hx
          have hxz := HH.out.2.2 x (List.mem_of_getElem? hx)
          have cx2 : wr.cell? ⟨g, 1 + j, none⟩ = some (.string x) := by rw [hBj.out.cell hg, Nat.add_comm 1 j]; exact cx
          have HX := hid_of' (joinB_take (sep := sep) hx)
          have HW1 := hid_of' (writeString_any wA.heap.size b (Lib.byteCells (joinB sep (xs.take (j + 1)))) sep wr hJ.out (by rw [Lib.byteCells_length]; have := hjl.out; omega) hBj.out.size)
          clear hx cx
          go_upto_region 25 with (go_at_call 35; with_reducible refine HW1.out.mono ?_; rintro e w5 ⟨rfl, hB5, b5⟩)
          have h55 : Bld wA.heap.size b (Lib.byteCells (joinB sep (xs.take (j + 1)) ++ sep.data.toList)) w5 := by rw [← cells_app]; exact hB5
          have hb5 : Below wA.heap.size wA w5 := hBj.out.trans b5
          have h9 : sep.data.toList.length = sep.size := by rw [Array.length_toList]; rfl
          have HW2 := hid_of' (writeString_any wA.heap.size b _ x w5 h55 (by rw [Lib.byteCells_length, List.length_append, h9]; have := hjl.out; omega) hb5.size)
          have HB5 := hid_of' hb5
          clear hB5 h55 hb5 b5 HW1
          go_upto_region 26 with (go_at_call 35; with_reducible refine HW2.out.mono ?_; rintro e w6 ⟨rfl, hB6, b6⟩)
          have HB6 := hid_of' (And.intro hB6 (HB5.out.trans b6))
          clear hB6 b6 HW2
          go_wp2
          refine ⟨⟨j + 1, by go_num, by omega, ?_, ?_, HB6.out.2⟩, by simp [intOf]; omega⟩
          · show Bld wA.heap.size b (Lib.byteCells (joinB sep (xs.take (j + 2)))) w6
            rw [HX.out, ← cells_app]
            exact HB6.out.1
          · show (joinB sep (xs.take (j + 2))).length ≤ 2000 * (j + 2)
            have h8 : x.data.toList.length = x.size := by rw [Array.length_toList]; rfl
            rw [HX.out, List.length_append, List.length_append, h8, h9]
            have := hjl.out
            omega
        · have hji : ¬ (j : Int) < (m : Int) - 1 := by omega
          have ej : j + 1 = m := by omega
          have et : xs.take (j + 1) = xs := List.take_of_length_le (by rw [← HH.out.2.1]; omega)
          have HS := hid_of' (Tryd.Builder_String_any wA.heap.size b (joinB sep xs) wr (by have := hJ.out; rw [et] at this; exact this) hBj.out.size)
          clear ej et
          go_wp2_with (go_at_call 36; refine HS.out.mono ?_; rintro e w9 ⟨rfl, hb9⟩)
          go_ret
          exact ⟨rfl, hBj.out.trans hb9⟩
end Go.Proofs.YtphdkniplhkkfaaDoor
