
/-
  barrowlaw12.FlattenExact answers true.
-/
import Derived.Test.YtfgcljpiidhfpaaDoorRq3
import Derived.Test.YtfgcljpiidhfpaaDoorFlOp
namespace Go.Proofs.YtfgcljpiidhfpaaDoor
open Go.RowKit
set_option maxRecDepth 100000

theorem wi5 (d : Int) : wiN d 5 = 0 ∨ wiN d 5 = 1 ∨ wiN d 5 = 2 ∨ wiN d 5 = 3 ∨ wiN d 5 = 4 := by
  have h5 : wiN d 5 < 5 := by
    have t1 : d.tmod ((5 : Nat) : Int) < ((5 : Nat) : Int) := Int.tmod_lt_of_pos d (by decide)
    unfold wiN
    split <;> omega
  omega
theorem does_any {P B R N s : Nat} {l : List Rnd} {w : World} (H0 : PrAt P B R N s l w) (hl : NumL l) (hsN : s < N) (h8 : N ≤ 8) {d : Int} (hd : fitsI d) {ck : List Int} (hck : ck.length = 8) {m : List Rnd} (om : OkL m) (hlm : NumL m) {ad : Nat → Addr} {w0 : World} (L : Laid ad w0) (hL : Below w0.heap.size w0 w) (hBL : w0.heap.size ≤ B) :
    Calls Tryd.prog 13 #[.pointer (some ⟨P, 0, none⟩), .agg (cv (opc d ck m))] w (DoQ P B R N s w) := by
  rcases wi5 d with e | e | e | e | e
  · obtain ⟨r, hrs, _⟩ := H0.2.1.2.at (show s < 8 by omega)
    cases hb : busyR r
    · exact does_0a H0 hl hsN h8 hd hck om e hrs hb
    · exact does_0b H0 hl hsN h8 hd hck om L hL hBL e hrs hb
  · exact does_1 H0 hl hsN h8 hd hck om hlm e
  · exact does_2 H0 hl hsN h8 hd hck om e
  · exact does_3 H0 hl hsN h8 hd hck om e
  · exact does_4 H0 hl hsN h8 hd hck om e
theorem opc_of {x : List Int} (hx : x.length = 153) (hf : ∀ z ∈ x, fitsI z) : ∃ d ck m, x = opc d ck m ∧ fitsI d ∧ ck.length = 8 ∧ OkL m ∧ NumL m := by
  match x, hx with
  | d :: t, hx =>
    have ht : t.length = 152 := by simpa using hx
    have h144 : (t.drop 8).length = 144 := by simp [ht]
    refine ⟨d, t.take 8, lOf (t.drop 8), ?_, hf d (by simp), by simp [ht], lOf_ok h144, fun r hr => (lOf_fit h144 (fun z hz => hf z (List.mem_cons_of_mem _ (List.mem_of_mem_drop hz))) r hr).1⟩
    unfold opc
    rw [rs_lOf h144, List.take_append_drop]
theorem op_size {d : Int} {ck : List Int} {m : List Rnd} (h : ck.length = 8) (om : OkL m) : (Tryd.prog.info? 48).map (·.size) = some (cv (opc d ck m)).size := by
  rw [cv_size, opc_len h om]
  kernel_rfl
theorem noSize (c : Int) (a a' : Option Addr) (n k n' k' : Nat) : (Tryd.prog.info? 32).map (·.size) = some (nov c a n k a' n' k').size := no_size
theorem CsIn.belowN {b off n : Nat} {cs : Array Value} {w w' : World} (h : CsIn b off cs w) (hb : Below n w w') (hn : b < n) : CsIn b off cs w' :=
  ⟨Nat.lt_of_lt_of_le h.1 hb.size, fun j v hv => by rw [hb.cell (p := ⟨b, off + j, none⟩) hn]; exact h.2 j v hv⟩
set_option maxHeartbeats 4000000 in
theorem exact_bad {ad : Nat → Addr} {w : World} (L : Laid ad w) {n s : Int} (hb : badN n s) (a9 : Option Addr) (m9 c9 : Nat) :
    Calls Tryd.prog 3 #[.int .i64 n, .int .i64 s, .slice a9 m9 c9] w fun e w' => e = .returned (.bool true) ∧ Below w.heap.size w w' := by
  have HN := hid_of' (new_no L hb)
  have HL := hid_of' (And.intro L hb)
  clear L hb
  go_enter Tryd.func3, Tryd.ntmps3
  go_upto_region 2 with (go_at_call 9; refine HN.out.mono ?_; rintro e w1 ⟨rfl, hf1, hb1⟩; clear HN)
  have HR := hid_of' (refNew_no HL.out.2 w1)
  go_upto_region 3 with (first | (go_at_call 10; refine HR.out.mono ?_; rintro e w2 ⟨g, g', rfl, hc1, hc2, hb2⟩; clear HR) | (refine wpL_storeNo rfl _ _ rfl rfl rfl (RowAt.news w2 _ _) ?_; go_simp))
  have hb5 := below_row (below_one w2 (.cells #[.int .i64 0, .slice none 0 0, .slice none 0 0] 32)) (Nat.le_refl w2.heap.size) (nov 1 (some ⟨g', 0, none⟩) 1 1 (some ⟨g, 0, none⟩) 1 1)
  have r5 := (RowAt.news w2 #[.int .i64 0, .slice none 0 0, .slice none 0 0] 32).rowI (nov 1 (some ⟨g', 0, none⟩) 1 1 (some ⟨g, 0, none⟩) 1 1)
  generalize (w2.alloc (.cells #[.int .i64 0, .slice none 0 0, .slice none 0 0] 32)).setRow w2.heap.size (nov 1 (some ⟨g', 0, none⟩) 1 1 (some ⟨g, 0, none⟩) 1 1) = w3 at hb5 r5 ⊢
  have hb3 := bgo hb1 (bgo hb2 hb5)
  have HS := hid_of' (refused_some (k := 0) (HL.out.1.below hb3) (RowAt.later hf1 (bgo hb2 hb5)) (by decide) (hc1.later hb5) (hc2.later hb5))
  have HB3 := hid_of' hb3
  clear hb3 hb1 hb2 hb5 hc1 hc2 hf1
  go_wp2_with (first | (refine wpL_ld rfl _ _ rfl rfl r5.in Tryd.underlying32 rfl (noSize _ _ _ _ _ _ _) ?_) | (go_at_call 11; refine HS.out.mono ?_; rintro e w4 ⟨rfl, hb4⟩; clear HS) | (go_at_call 12; refine (wakes12 _).mono ?_; rintro e w6 ⟨rfl, hb6⟩))
  go_ret
  exact ⟨rfl, bgo HB3.out (bgo hb4 hb6)⟩
set_option maxHeartbeats 4000000 in
theorem flattenExact_all {ad : Nat → Addr} {w : World} (L : Laid ad w) (n s : Int) {v : Value} {l : List (List Int)} (hl : SlN 153 w v l) (hf : ∀ x ∈ l, x.length = 153 ∧ ∀ z ∈ x, fitsI z) (hlen : l.length ≤ 9223372036854775807) :
    Calls Tryd.prog 3 #[.int .i64 n, .int .i64 s, v] w fun e w' => e = .returned (.bool true) ∧ Below w.heap.size w w' := by
  obtain ⟨a9, c9, rfl⟩ : ∃ a c, v = .slice a l.length c := by
    rcases hl with ⟨rfl, a, c, rfl⟩ | ⟨g, o, c, rfl, _⟩
    · exact ⟨a, c, rfl⟩
    · exact ⟨_, c, rfl⟩
  by_cases hb : badN n s
  · exact exact_bad L hb _ _ _
  have hg : 1 ≤ n ∧ n ≤ 8 ∧ 0 ≤ s ∧ s < n := by unfold badN at hb; omega
  obtain ⟨h1, h8, hs0, hsn⟩ := hg
  obtain ⟨N, rfl⟩ : ∃ N : Nat, n = (N : Int) := ⟨n.toNat, by omega⟩
  obtain ⟨S, rfl⟩ : ∃ S : Nat, s = (S : Int) := ⟨s.toNat, by omega⟩
  have hSN : S < N := by omega
  have hN8 : N ≤ 8 := by omega
  have HN := hid_of' (new_ok h1 h8 hs0 hsn w)
  have HR0 := hid_of' (fun X => refNew_ok h1 h8 hs0 hsn X)
  have H := hid_of' (And.intro L (And.intro hl hf))
  clear L hl hf hb h1 h8 hs0 hsn
  go_enter Tryd.func3, Tryd.ntmps3
  go_upto_region 2 with (go_at_call 9; refine HN.out.mono ?_; rintro e w1 ⟨B, rfl, hB0, hD, hb1⟩; clear HN)
  have HR := hid_of' (HR0.out w1)
  go_upto_region 3 with (first | (go_at_call 10; refine HR.out.mono ?_; rintro e w2 ⟨R, rfl, hR0, hK, hb2⟩; clear HR) | (refine wpL_storeNo rfl _ _ rfl rfl rfl (RowAt.news w2 _ _) ?_; go_simp))
  have hb5 := below_row (below_one w2 (.cells #[.int .i64 0, .slice none 0 0, .slice none 0 0] 32)) (Nat.le_refl w2.heap.size) (nov 0 none 0 0 none 0 0)
  have r5 := (RowAt.news w2 #[.int .i64 0, .slice none 0 0, .slice none 0 0] 32).rowI (nov 0 none 0 0 none 0 0)
  generalize (w2.alloc (.cells #[.int .i64 0, .slice none 0 0, .slice none 0 0] 32)).setRow w2.heap.size (nov 0 none 0 0 none 0 0) = w3 at hb5 r5 ⊢
  go_upto_region 7 with (first | (refine wpL_ld rfl _ _ rfl rfl r5.in Tryd.underlying32 rfl (noSize _ _ _ _ _ _ _) ?_) | (go_at_call 11; refine (refused_none _ _ _ _ _ _ _).mono ?_; rintro e w4 ⟨rfl, hb4⟩))
  have hbx := bgo hb5 hb4
  have hD4 := (hD.later hb2).later hbx
  have hK4 := hK.later hbx
  have hs1 := hb1.size
  have hRB : w.heap.size ≤ R := by omega
  have hb04 := bgo hb1 (bgo hb2 hbx)
  clear hb1 hb2 hb5 hb4 hbx hD hK r5 hR0 hs1
  have hbb := below_one w4 (.cells #[.pointer (some ⟨B, 0, none⟩), .pointer (some ⟨R, 0, none⟩)] 39)
  have rP := RowAt.news w4 #[.pointer (some ⟨B, 0, none⟩), .pointer (some ⟨R, 0, none⟩)] 39
  have hpr : PrAt w4.heap.size B R N S rds0 (w4.alloc (.cells #[.pointer (some ⟨B, 0, none⟩), .pointer (some ⟨R, 0, none⟩)] 39)) := ⟨rP, hD4.later hbb, hK4.later hbb⟩
  have HP := hid_of' (And.intro hpr (bgo hb04 hbb))
  clear hpr hbb rP hD4 hK4 hb04
  go_upto_region 8 with fail
  generalize w4.alloc (.cells #[.pointer (some ⟨B, 0, none⟩), .pointer (some ⟨R, 0, none⟩)] 39) = W at HP ⊢
  obtain ⟨P, hP⟩ : ∃ P, w4.heap.size = P := ⟨_, rfl⟩
  rw [hP] at HP ⊢
  clear hP
  go_wp2
  go_loopw [12] (fun i wr => ∃ (k : Nat) (lo : List Rnd), i = .int .i64 (k : Int) ∧ k ≤ l.length ∧ k ≤ 100 ∧ PrAt P B R N S lo wr ∧ NumL lo ∧ Below w.heap.size w wr) (fun i _ => l.length - (intOf i).toNat)
  case atStart => exact ⟨0, rds0, rfl, by omega, by omega, HP.out.1, numL_zero, HP.out.2⟩
  case round =>
    rename World => wr
    obtain ⟨k, lo, rfl, hk, hk2, hpr, hnl, hB⟩ := hrel
    by_cases hlt : k < l.length
    · have hki : (k : Int) < (l.length : Int) := by omega
      by_cases h100 : k < 100
      · have hk100 : (k : Int) < 100 := by omega
        obtain ⟨y, hy⟩ : ∃ y, l[k]? = some y := ⟨_, List.getElem?_eq_getElem hlt⟩
        obtain ⟨hyl, hyf⟩ := H.out.2.2 y (List.mem_of_getElem? hy)
        obtain ⟨d, ck, m, rfl, hd, hck, om, hlm⟩ := opc_of hyl hyf
        obtain ⟨g, o, c2, hv, hcs⟩ : ∃ g o c, Value.slice a9 l.length c9 = .slice (some ⟨g, o, none⟩) l.length c ∧ ∀ (k : Nat) (x : List Int), l[k]? = some x → CsIn g (o + k * 153) (cv x) w := by
          rcases H.out.2.1 with ⟨q, _⟩ | q
          · rw [q] at hlt; exact absurd hlt (by simp)
          · exact q
        simp only [Value.slice.injEq, true_and] at hv
        obtain ⟨rfl, rfl⟩ := hv
        have hin0 := hcs k _ hy
        have hin := hin0.belowN hB hin0.1
        have HD := hid_of' (does_any hpr hnl hSN hN8 hd hck om hlm H.out.1 hB hB0)
        have HB := hid_of' hB
        clear hpr hB hcs hy hnl
        go_upto_region 10 with (first | (refine wpL_ld rfl _ _ rfl rfl hin Tryd.underlying48 rfl (op_size hck om) ?_) | (go_at_call 13; refine HD.out.mono ?_; rintro e w3 ⟨lo3, rfl, p3, hn3, hc3⟩; clear HD; have HS := hid_of' (same_is p3 (by omega))) | (go_at_call 14; refine HS.out.mono ?_; rintro e w4 ⟨rfl, hb4⟩; clear HS))
        have hb3 := HB.out.trans (hc3.below (n := w.heap.size) (fun z hz e => by omega) HB.out.size)
        have HZ := hid_of' (And.intro (p3.later hb4) (And.intro hn3 (bgo hb3 hb4)))
        clear p3 hb3 hb4 hc3 hn3 hin hin0
        go_wp2
        go_roundw
        case rel => exact ⟨k + 1, lo3, by go_num, by omega, by omega, HZ.out.1, HZ.out.2.1, HZ.out.2.2⟩
        case measure => simp [intOf]; omega
      · have hk100 : ¬ (k : Int) < 100 := by omega
        go_wp2_with (go_at_call 12; refine (wakes12 wr).mono ?_; rintro e w4 ⟨rfl, hb4⟩)
        go_ret
        exact ⟨rfl, bgo hB hb4⟩
    · have hki : ¬ (k : Int) < (l.length : Int) := by omega
      go_wp2_with (go_at_call 12; refine (wakes12 wr).mono ?_; rintro e w4 ⟨rfl, hb4⟩)
      go_ret
      exact ⟨rfl, bgo hB hb4⟩
/-! Calls of a Desk that came in. -/
section
open Go.ChangeShapes Go.WideShapes Go.ChangeAt Go.Deep
theorem cellsOpF : Tryd.prog.cellsOf 48 = 153 := by kernel_rfl
section
variable {H : Type} {enc : TypeId × Value → H} {W : World} {base : Nat}
theorem pw_opF {cs : List Value} {fuel bs : Nat} {sp : Nat → Bool} {hd : Bool} {x : DataW H × List MemPlace} (hl : cs.length = 153) (h : DataW.trod enc Tryd.prog W bs sp hd fuel 48 cs = some x) : Pw cs := by
  obtain ⟨z0, z1, z2, k', _, _, f0, f1, f2⟩ := trod_struct3 Tryd.underlying48 h
  simp only [cellsInt, cellsCk, cellsRnds] at f0 f1 f2
  have := Pw.at (o := 0) (pw_int f0) (Pw.at (pw_ck f1) (Pw.last (by rw [hl]) (pw_rnds f2)))
  simpa using this
theorem open_opsF {v : Value} {d : DataW H} {p : List MemPlace} (hval : Value.okWide Tryd.prog W .any base 22 v) (h : DataW.Trod enc Tryd.prog W 0 (fun _ => true) true 22 v d p) :
    ∃ L : List (List Int), SlN 153 W v L ∧ (∀ x ∈ L, x.length = 153 ∧ ∀ z ∈ x, fitsI z) ∧ L.length ≤ 9223372036854775807 :=
  open_slN Tryd.underlying22 cellsOpF (by decide) (fun hl h => pw_opF hl h) hval h
end
end
end Go.Proofs.YtfgcljpiidhfpaaDoor
