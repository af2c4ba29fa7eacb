
/-
  barrowlaw14.UndoNames.
-/
import Derived.Test.YtgkbgojgpomcdaaDoorUn11
namespace Go.Proofs.YtgkbgojgpomcdaaDoor
open Go.RowKit Go.Extern.Stop Go.Stop Go.Extern
set_option maxRecDepth 100000

/-- The edits 1 to k, the newest 64 of them. -/
def dN (k : Nat) : List (List Xg) := ((List.range k).map fun i : Nat => [(⟨1, 0, 0, (i : Int) + 1⟩ : Xg)]).drop (k - 64)
theorem dN_zero : dN 0 = [] := rfl
theorem dN_len (k : Nat) (h : k ≤ 65) : (dN k).length = min k 64 := by
  unfold dN
  rw [List.length_drop, List.length_map, List.length_range]
  omega
theorem dN_next (k : Nat) (h : k ≤ 64) : nwL (dN k) [⟨1, 0, 0, (k : Int) + 1⟩] = dN (k + 1) := by
  unfold nwL
  rw [dN_len k (by omega)]
  have e : dN k = (List.range k).map fun i : Nat => [(⟨1, 0, 0, (i : Int) + 1⟩ : Xg)] := by
    unfold dN
    rw [show k - 64 = 0 by omega, List.drop_zero]
  rw [e]
  unfold dN
  rw [List.range_succ, List.map_append, List.map_cons, List.map_nil]
  congr 1
  omega
theorem dN_at (m : Nat) (h : m < 64) : (dN 65)[m]? = some [⟨1, 0, 0, (m : Int) + 2⟩] := by
  unfold dN
  rw [List.getElem?_drop, List.getElem?_map, List.getElem?_range (by omega)]
  rw [Option.map_some, show ((65 - 64 + m : Nat) : Int) + 1 = (m : Int) + 2 by omega]
set_option maxHeartbeats 4000000 in
theorem undoNames_all {ad : Nat → Addr} {w : World} (L : Ln ad w) :
    Calls Tryd.prog 8 #[] w fun e w' => e = .returned (.bool true) ∧ Below w.heap.size w w' := by
  have HN := hid_of' (new_ok w)
  have HW := hid_of' wakes14_ok
  have HL := hid_of' L
  clear L
  go_enter Tryd.func8, Tryd.ntmps8
  go_upto_region 5 with (go_at_call 9; refine HN.out.mono ?_; rintro e w1 ⟨rfl, hg1, hb1⟩; clear HN)
  have H1 := hid_of' (And.intro hg1 hb1)
  clear hg1 hb1
  generalize hsb : w.heap.size = sb
  go_loopw [2] (fun iv wr => ∃ (k : Nat) (vd : Value) (F : Nat → Prop), iv = .int .i64 ((k : Int) + 1) ∧ k ≤ 65 ∧ SkAt 68 sb vd (.slice none 0 0) F (dN k) [] wr ∧ (∀ k, F k → sb ≤ k) ∧ Below sb w wr) (fun iv _ => 66 - (intOf iv).toNat)
  case atStart => exact ⟨0, .slice none 0 0, fun k => k = sb, rfl, by omega, hsb ▸ H1.out.1, (fun k hk => by have e : k = sb := hk; omega), hsb ▸ H1.out.2⟩
  case round =>
    obtain ⟨k, vd, F, rfl, hk, hS, hF, hB⟩ := hrel
    by_cases hk5 : k < 65
    · have hki : (k : Int) + 1 ≤ 65 := by omega
      have b3 := below_one wr (.cells #[.int .i64 1, .int .i64 0, .int .i64 0, .int .i64 ((k : Int) + 1)] 66)
      have sl : SlD (wr.alloc (.cells #[.int .i64 1, .int .i64 0, .int .i64 0, .int .i64 ((k : Int) + 1)] 66)) (.slice (some ⟨wr.heap.size, 0, none⟩) 1 1) [⟨1, 0, 0, (k : Int) + 1⟩] := .inr ⟨wr.heap.size, 0, 1, rfl, fun i x hx => by
        match i, hx with
        | 0, hx => cases hx; exact (row_new wr (xgv ⟨1, 0, 0, (k : Int) + 1⟩) 66).in
        | i + 1, hx => simp at hx⟩
      have HD := hid_of' (done_ok (hS.later b3) sl (by simp) (by simp))
      have HR := hid_of' (And.intro hF (And.intro hB b3))
      clear hS hF hB b3 sl
      go_wp2_with (go_at_call 28; (with_reducible refine HD.out.mono ?_); rintro e w3 ⟨⟨z, rfl⟩, vd', F', hk3, hc3, hf3⟩; clear HD; have HZ := hid_of' (And.intro hk3 (And.intro hc3 hf3)); clear hk3 hc3 hf3)
      go_roundw
      case rel =>
        obtain ⟨hF, hB, b3⟩ := HR.out
        obtain ⟨hk3, hc3, hf3⟩ := HZ.out
        have hs := hB.size
        rw [dN_next k (by omega)] at hk3
        have hbb : Below sb w (wr.alloc (.cells #[.int .i64 1, .int .i64 0, .int .i64 0, .int .i64 ((k : Int) + 1)] 66)) := hB.trans (b3.mono (by omega))
        refine ⟨k + 1, vd', F', by go_num, by omega, hk3, fun j hj => ?_, hbb.trans (hc3.below (fun s hs' q => by have := hF s q; omega) (by rw [World.size_alloc]; omega))⟩
        rcases hf3 j hj with q | q
        · exact hF j q
        · rw [World.size_alloc] at q; omega
      case measure => simp [intOf]; omega
    · obtain rfl : k = 65 := by omega
      have hd64 : (dN 65).length = 64 := dN_len 65 (by omega)
      have hDp := depth_is hS
      rw [hd64] at hDp
      have HDp := hid_of' hDp
      have HR := hid_of' (And.intro hS (And.intro hF hB))
      have HSB := hid_of' hsb
      clear hS hF hB hDp hd64 hsb
      go_upto_region 11 with (go_at_call 11; refine HDp.out.mono ?_; rintro e w4 ⟨rfl, hb4⟩; clear HDp; have H4 := hid_of' hb4; clear hb4)
      have hs0 : sb ≤ wr.heap.size := HR.out.2.2.size |> fun q => by have := HR.out.1.lies.lt; omega
      go_loopw [5, 6] (fun lv jv wq => ∃ (j : Nat) (y : Int) (vd vu : Value) (F : Nat → Prop) (u : List (List Xg)), jv = .int .i64 (j : Int) ∧ lv = .int .i64 y ∧ j ≤ 64 ∧ (j = 64 → y = 2) ∧ SkAt 68 sb vd vu F ((dN 65).take (64 - j)) u wq ∧ (∀ k, F k → sb ≤ k) ∧ Below sb w wq) (fun _ jv _ => 64 - (intOf jv).toNat)
      case atStart => exact ⟨0, 0, _, _, _, _, rfl, rfl, by omega, (fun e => by omega), by rw [List.take_of_length_le (by rw [dN_len 65 (by omega)]; decide)]; exact HR.out.1.later H4.out, HR.out.2.1, HR.out.2.2.trans (H4.out.mono hs0)⟩
      case round =>
        obtain ⟨j, y, vd, vu, F, u, rfl, rfl, hj, hy, hS, hF, hB⟩ := hrel
        by_cases hj4 : j < 64
        · have hji : (j : Int) < 64 := by omega
          obtain ⟨n, hn⟩ : ∃ n, n + 1 = 64 - j := ⟨63 - j, by omega⟩
          have hlen : ((dN 65).take (64 - j)).length = n + 1 := by rw [List.length_take, dN_len 65 (by omega)]; omega
          have hat : ((dN 65).take (64 - j))[n]? = some [⟨1, 0, 0, (n : Int) + 2⟩] := by rw [List.getElem?_take_of_lt (by omega), dN_at n (by omega)]
          have HU := hid_of' (undo_yes hS hlen hat)
          have hbk : bkL [⟨1, 0, 0, (n : Int) + 2⟩] = [⟨2, 0, 0, (n : Int) + 2⟩] := rfl
          rw [hbk] at HU
          have HR2 := hid_of' (And.intro hS (And.intro hF (And.intro hB (And.intro hn hy))))
          clear hS hF hB hlen hat hbk hy hn
          go_upto_region 14 with (go_at_call 25; (with_reducible refine HU.out.mono ?_); rintro e w5 ⟨v5, vd5, vu5, F5, rfl, hv5, _, hk5, hc5, hf5⟩; clear HU; obtain ⟨a5, c5, hv9, _⟩ := Rw.form hv5.1; have e9 : ([⟨2, 0, 0, (n : Int) + 2⟩] : List Xg).length = 1 := rfl; rw [e9] at hv9; clear e9; subst hv9)
          obtain ⟨g5, o5, rfl, hc⟩ := SlD.cells1 hv5.1.sl
          have q3 : w5.cell? ⟨g5, o5 + 3, none⟩ = some (.int .i64 ((n : Int) + 2)) := hc.2 3 _ rfl
          have HZ := hid_of' (And.intro hk5 (And.intro hc5 hf5))
          clear hk5 hc5 hf5 hv5 hc
          go_wp2
          go_roundw
          case rel =>
            obtain ⟨hS, hF, hB, hn, hy⟩ := HR2.out
            obtain ⟨hk5, hc5, hf5⟩ := HZ.out
            rw [List.take_take, show min n (64 - j) = 64 - (j + 1) by omega] at hk5
            have hs := hB.size
            have hlt := hS.lies.lt
            refine ⟨j + 1, (n : Int) + 2, vd5, vu5, F5, _, by go_num, rfl, by omega, fun e => by omega, hk5, fun k hk => ?_, hB.trans (hc5.below (fun s hs' q => by have := hF s q; omega) (by omega))⟩
            rcases hf5 k hk with q | q
            · exact hF k q
            · omega
          case measure => simp [intOf]; omega
        · obtain rfl : j = 64 := by omega
          have hy2 := hy rfl
          subst hy2
          rw [show 64 - 64 = 0 from rfl, List.take_zero] at hS
          have hlt := hS.lies.lt
          have hBw : Below w.heap.size w wr := HSB.out.symm ▸ hB
          have HU := hid_of' (undo_no (HL.out.below hBw) hS rfl)
          have HB := hid_of' hBw
          clear hS hF hB hBw hy
          go_wp2_with (first | (go_at_call 25; (with_reducible refine HU.out.mono ?_); rintro e w6 ⟨v6, rfl, ⟨b6, rfl, hb, hk, hf⟩, hb6⟩; clear HU; have H6 := hid_of' (bgo HB.out hb6); clear hb hk hf hb6) | (go_at_call 13; refine (HW.out _).mono ?_; rintro e w7 ⟨rfl, hb7⟩))
          go_ret
          exact ⟨rfl, bgo H6.out hb7⟩
end Go.Proofs.YtgkbgojgpomcdaaDoor
