
/-
  barrowlaw15.many; barrowlaw15.DiffRoom holds of any two numbers.
-/
import Derived.Test.YtckbihcijpploabDoorDm9
import Derived.Test.YtckbihcijpploabDoorDfNo
namespace Go.Proofs.YtckbihcijpploabDoor
open Go.RowKit Go.Extern.Stop Go.Stop Go.Extern
set_option maxRecDepth 100000

def wiN (n : Int) (m : Nat) : Nat := if n.tmod (m : Int) < 0 then (n.tmod (m : Int) + m).toNat else (n.tmod (m : Int)).toNat
theorem wiN_lt {n : Int} {m : Nat} (hm : 0 < m) : wiN n m < m := by
  have t1 : n.tmod (m : Int) < (m : Int) := Int.tmod_lt_of_pos n (by omega)
  unfold wiN
  split <;> omega
theorem wiN_is (n : Int) (m : Nat) (w : World) (hm : 0 < m) (hm2 : m ≤ 1073741824) (_h : -9223372036854775808 ≤ n ∧ n ≤ 9223372036854775807) :
    Calls Tryd.prog 4 #[.int .i64 n, .int .i64 (m : Int)] w fun r w' => r = .returned (.int .i64 (wiN n m : Int)) ∧ w' = w := by
  obtain ⟨_h1, _h2⟩ := _h
  have m0 : ((m : Int) == 0) = false := by rw [beq_eq_false_iff_ne]; omega
  have t1 : n.tmod (m : Int) < (m : Int) := Int.tmod_lt_of_pos n (by omega)
  have t2 : -(m : Int) < n.tmod (m : Int) := by
    have := Int.tmod_lt_of_pos (-n) (show (0 : Int) < (m : Int) by omega)
    rw [Int.neg_tmod] at this
    omega
  unfold wiN
  obtain ⟨t, et⟩ : ∃ t, n.tmod (m : Int) = t := ⟨_, rfl⟩
  rw [et] at t1 t2 ⊢
  by_cases ht : t < 0
  · rw [if_pos ht, Int.toNat_of_nonneg (by omega)]
    go_enter Tryd.func4, Tryd.ntmps4
    go_wp2
    go_ret
    exact ⟨rfl, rfl⟩
  · rw [if_neg ht, Int.toNat_of_nonneg (by omega)]
    go_enter Tryd.func4, Tryd.ntmps4
    go_wp2
    go_ret
    exact ⟨rfl, rfl⟩
/-- So many of one byte. -/
def rpt (n : Nat) (c : UInt8) : ByteArray := ⟨(List.replicate n c).toArray⟩
theorem rpt_list (n : Nat) (c : UInt8) : (rpt n c).data.toList = List.replicate n c := by simp [rpt]
theorem rpt_size (n : Nat) (c : UInt8) : (rpt n c).size = n := by
  show (List.replicate n c).toArray.size = n
  simp
theorem rpt_asc {n : Nat} {c : UInt8} (hc : c.toNat < 128) : (rn (rpt n c).data.toList).length = n ∧ Lib.validD (rpt n c).data.toList = true := by
  rw [rpt_list]
  obtain ⟨h1, h2⟩ := asc_all (List.replicate n c) (fun b hb => by rw [List.eq_of_mem_replicate hb]; exact hc)
  rw [h1]
  exact ⟨by simp, h2⟩
theorem make_bytes (w : World) (N : Nat) (hN : N ≤ 8388610) : (Instr.makeSlice 46 (.int .i64 (N : Int)) (.int .i64 (N : Int))).run Tryd.prog w = .ok (.slice (some ⟨w.heap.size, 0, none⟩) N N) (w.alloc (.cells (madeCells #[.int .u8 0] N) 5)) := by
  obtain ⟨i, hi, hz, hs, hb⟩ := info_parts (P := Tryd.prog) (t := 5) (z := .int .u8 0) (s := 1) (b := 1) (by kernel_rfl)
  have := run_make (P := Tryd.prog) w 46 5 i _ (by kernel_rfl) hi hz .i64 .i64 (N : Int) (N : Int) (by omega) (by omega) (by rw [hb]; omega) (by omega)
  rw [hs, Nat.mul_one, Int.toNat_natCast] at this
  exact this
set_option maxHeartbeats 2000000 in
theorem many_is (w : World) (n : Nat) (c : UInt8) (hn : n ≤ 1000000) :
    Calls Tryd.prog 6 #[.int .i64 (n : Int), .int .u8 (c.toNat : Int)] w fun e w' => e = .returned (.string (rpt n c)) ∧ Below w.heap.size w w' := by
  have hmk := fun w => make_bytes w n (by omega)
  have hT0 := RowAt.new w (madeCells #[.int .u8 0] n) 5
  have hs0 : (madeCells #[Value.int .u8 0] n).size = n := size_madeCells _ _
  have hb0 := below_one w (.cells (madeCells #[.int .u8 0] n) 5)
  generalize hcz : (c.toNat : Int) = cz
  go_enter Tryd.func6, Tryd.ntmps6
  go_upto_region 2 with fail
  generalize madeCells #[Value.int .u8 0] n = cur0 at hT0 hs0 hb0 hmk ⊢
  obtain ⟨T, hTT⟩ : ∃ T, T = w.heap.size := ⟨_, rfl⟩
  rw [← hTT] at hT0 ⊢
  generalize w.alloc (.cells cur0 5) = W0 at hT0 hb0 ⊢
  have H0 := hid_of' (And.intro hT0 (And.intro hs0 (And.intro hb0 (And.intro hTT hcz))))
  clear hT0 hs0 hb0 hTT hmk hcz
  go_wp2
  go_loopw [6] (fun kv wr => ∃ (k : Nat) (cs : Array Value), kv = .int .i64 (k : Int) ∧ k ≤ n ∧ RowAt T cs 5 wr ∧ cs.size = n ∧ (∀ j, j < k → cs[j]? = some (.int .u8 cz)) ∧ Ch (fun _ => False) w wr) (fun kv _ => n - (intOf kv).toNat)
  case atStart => exact ⟨0, cur0, rfl, Nat.zero_le _, H0.out.1, H0.out.2.1, fun j hj => absurd hj (by omega), Ch.of H0.out.2.2.1⟩
  case round =>
    obtain ⟨k, cs, rfl, hk, hT, hsz, hall, hC⟩ := hrel
    by_cases hkn : k < n
    · have hki : (k : Int) < (n : Int) := by omega
      obtain ⟨v0, c0⟩ : ∃ v0, wr.cell? ⟨T, k, none⟩ = some v0 := ⟨_, hT.is (Array.getElem?_eq_getElem (by omega))⟩
      have f0 : wr.frozen? ⟨T, k, none⟩ = false := hT.free k
      have H := hid_of' (And.intro hT (And.intro hsz (And.intro hall hC)))
      clear hT hsz hall hC
      go_wp2
      go_roundw
      case rel =>
        refine ⟨k + 1, _, by go_num, by omega, H.out.1.setc k _, ?_, ?_, H.out.2.2.2.set (p := ⟨T, k, none⟩) (.inr (by have := H0.out.2.2.2.1; show w.heap.size ≤ T; omega)) _⟩
        · rw [Array.size_setIfInBounds]
          exact H.out.2.1
        · intro j hj
          by_cases hjk : j = k
          · subst hjk
            rw [Array.getElem?_setIfInBounds_self_of_lt (by rw [H.out.2.1]; omega)]
          · rw [Array.getElem?_setIfInBounds_ne (fun e => hjk e.symm)]
            exact H.out.2.2.1 j (by omega)
      case measure => simp [intOf]; omega
    · have hki : ¬ (k : Int) < (n : Int) := by omega
      obtain rfl : k = n := by omega
      have hcv : (convert 46 9 (.slice (some ⟨T, 0, none⟩) k k)).run Tryd.prog wr = .ok (.string (rpt k c)) wr := by
        have := run_convert_bytes_back (P := Tryd.prog) wr 46 9 5 ⟨T, 0, none⟩ k (List.replicate k c) Tryd.underlying46 Tryd.underlying5 Tryd.underlying9 (fun j hj => by
          rw [Addr.add_lit, Nat.zero_add, List.getElem_replicate, H0.out.2.2.2.2]
          rw [List.length_replicate] at hj
          exact hT.is (hall j hj))
        rw [List.length_replicate] at this
        exact this
      have H := hid_of' (hC.none (fun _ _ q => q))
      clear hT hsz hall hC
      go_wp2
      go_ret
      exact ⟨rfl, H.out⟩
end Go.Proofs.YtckbihcijpploabDoor
