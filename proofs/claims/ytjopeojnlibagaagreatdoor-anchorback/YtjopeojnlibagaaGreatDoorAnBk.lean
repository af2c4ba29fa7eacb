
/-
  barrowlaw13.AnchorBack.
-/
import Derived.Test.YtjopeojnlibagaaGreatDoorAnA
namespace Go.Proofs.YtjopeojnlibagaaGreatDoor
open Go.RowKit Go.Extern.Stop Go.Stop Go.Extern
set_option maxRecDepth 100000

set_option maxHeartbeats 4000000 in
theorem anchorBack_all {ad : Nat → Addr} {w : World} {u : Value} {l : List El} (L : Laid ad w) (hu : SlE w u l) (hlm : l.length ≤ 9223372036854775807) (hin : ∀ e ∈ l, e.id.In) :
    Calls Tryz.prog 5 #[u] w fun r w' => r = .returned (.bool true) ∧ Below w.heap.size w w' := by
  obtain ⟨a', c', rfl⟩ := hu.form
  have HB := hid_of' (begun13 hu hlm hin)
  have HL := hid_of' L
  clear hu L hin hlm
  unfold pv at HB
  go_enter Tryz.func5, Tryz.ntmps5
  go_upto_region 2 with (go_at_call 8; refine HB.out.mono ?_; rintro r w1 ⟨B, mb, v, xs, hBs, rfl, hbg, hxs, hb1⟩; clear HB)
  clear hxs hBs
  obtain ⟨base, hO, _⟩ := hbg.own
  have hM := hid_of' hbg.mrk
  have hlen := hbg.len
  have HS : Hid (∀ x, Below w1.heap.size w1 x → _) := fun x hx => refSum_any (hO.sl.later hx) (by omega)
  obtain ⟨a1, c1, rfl⟩ := hO.form
  have hlb := liveL_b xs
  obtain ⟨N, hN⟩ : ∃ N : Nat, liveL xs = (N : Int) := ⟨(liveL xs).toNat, by omega⟩
  have hfl := field_live (liveL xs) (lineL xs)
  have HA : Hid (∀ (x : World) (p : Int) (f : Bool) (a b c : Int), Below w1.heap.size w1 x → 0 ≤ p → p ≤ (N : Int) → AnOf xs p f a b c → _) := fun x p f a b c hx h0 h1 hA => anchorAt_ok (hM.out.later hx).mv p (by omega) h0 (by omega) hA
  have HW : Hid (∀ (x : World) (p : Int) (f : Bool) (a b c : Int), Below w1.heap.size w1 x → AnOf xs p f a b c → _) := fun x p f a b c hx hA => where_any ((HL.out.below hb1).below hx) (hM.out.later hx) (anOf_in hA hM.out.ins) (anOf_wh hA)
  have HX : Hid (∀ p : Int, 0 ≤ p → p ≤ (N : Int) → ∃ f a b c, AnOf xs p f a b c) := fun p h0 h1 => anOf_ex h0 (by omega)
  have HK : Hid (∀ x, Below w1.heap.size w1 x → _) := fun x hx => wakes13 ((HL.out.below hb1).below hx)
  have hNl : N ≤ 80 := by omega
  rw [hN] at HS hfl
  generalize lineL xs = q at HS hfl
  clear hlb hN hO hbg hM HL
  unfold pv at HA HW
  unfold wv at HS
  generalize xs.length = M at *
  go_wp2
  go_loopw [5] (fun iv wr => ∃ k : Nat, iv = .int .i64 (k : Int) ∧ k ≤ N + 1 ∧ Below w1.heap.size w1 wr) (fun iv _ => N + 1 - (intOf iv).toNat)
  case atStart => exact ⟨0, rfl, Nat.zero_le _, Below.refl _ _⟩
  case round =>
    obtain ⟨k, rfl, hk, hB⟩ := hrel
    by_cases hlt : k ≤ N
    · have hki : (k : Int) ≤ (N : Int) := by omega
      obtain ⟨f, a, b, c, hA⟩ := HX.out (k : Int) (by omega) hki
      replace hA := hid_of' hA
      go_upto_region 7 with (go_at_call 24; refine (HS.out _ hB).mono ?_; rintro r w2 ⟨rfl, hb2⟩)
      have hB2 := bgo hB hb2
      go_upto_region 8 with (first | (go_at_call 9; refine (HA.out _ _ _ _ _ _ hB2 (by omega) hki hA.out).mono ?_; rintro r w3 ⟨rfl, hb3⟩) | (refine wpL_storeA rfl _ _ rfl rfl rfl (row_new w3 _ _) ?_))
      have r3 := (row_new w3 #[.bool false, .int .i64 0, .int .i64 0, .int .i64 0] 31).put (anc f a b c)
      have hB5 : Below w3.heap.size w3 ((w3.alloc (.cells #[.bool false, .int .i64 0, .int .i64 0, .int .i64 0] 31)).setRow w3.heap.size (anc f a b c)) := below_row (below_one w3 _) (Nat.le_refl _) _
      generalize (w3.alloc (.cells #[.bool false, .int .i64 0, .int .i64 0, .int .i64 0] 31)).setRow w3.heap.size (anc f a b c) = W5 at r3 hB5 ⊢
      have hB6 := bgo hB2 (bgo hb3 hB5)
      go_wp2_with (first | (refine wpL_loadA rfl _ rfl rfl r3.in ?_) | (go_at_call 12; refine (HW.out _ _ _ _ _ _ hB6 hA.out).mono ?_; rintro r w7 ⟨rfl, hb7⟩))
      go_roundw
      case rel => exact ⟨k + 1, by go_num, by omega, bgo hB6 hb7⟩
      case measure => simp [intOf]; omega
    · have hki : ¬ (k : Int) ≤ (N : Int) := by omega
      go_wp2_with (first | (go_at_call 24; refine (HS.out _ hB).mono ?_; rintro r w2 ⟨rfl, hb2⟩) | (go_at_call 18; refine (HK.out _ (bgo hB hb2)).mono ?_; rintro r w3 ⟨rfl, hb3⟩))
      go_ret
      exact ⟨rfl, bgo hb1 (bgo (bgo hB hb2) hb3)⟩
end Go.Proofs.YtjopeojnlibagaaGreatDoor
