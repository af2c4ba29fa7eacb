/-
  barrowlaw06.no and line. Lists of runes, of yes and no and of numbers that came in; barrowlaw06.LinesExact. Package lines: lineOf (by sort.Search), Where and Place; barrowref05.Where. Words: what a rune's bytes decode to; the word at a gap. Words: package lines' Around, barrowref05.Around. barrowlaw06.LinesWords.
-/
import Derived.Test.YtdmiibihibikdaaGreatDoorLn5
import Derived.Deep.Slices
import Derived.RowKit
import Derived.ProofKit
import Derived.Lib.MapLaws
import Derived.Lib.TrimUEq
import Derived.Lib.OthersKept
namespace Go.Proofs.YtdmiibihibikdaaGreatDoor
open Go.RowKit Go.Extern.Stop Go.Stop Go.Extern
set_option maxRecDepth 100000

theorem results_No {fn : Func} {p : Tmp} {tmps : Array Value} {w : World} {g : Nat} {code : Int} {a a' : Option Addr} {n c n' c' : Nat} (h : fn.results = #[.cell p 45]) (hp : tmps.getD p undef = .pointer (some ⟨g, 0, none⟩)) (hg : RowAt g (nov code a n c a' n' c') 45 w) :
    (results fn tmps).run Tryz.prog w = .ok (.agg (nov code a n c a' n' c')) w := by
  have hp' : tmps[p]?.getD undef = .pointer (some ⟨g, 0, none⟩) := by simpa using hp
  simp [results, h, hp', asAddr, run_loadVar_row w g _ _ _ _ _ hg Tryz.underlying45 rfl no_size]
set_option maxHeartbeats 400000 in
theorem no6_false (s : ByteArray) (i : Int) (w : World) : Calls Tryz.prog 16 #[.string s, .int .i64 i, .bool false] w fun r w' => r = .returned (.agg (nov 0 none 0 0 none 0 0)) ∧ Below w.heap.size w w' := by
  go_enter Tryz.func16, Tryz.ntmps16
  go_wp2_with (refine wpL_storeNo rfl _ _ rfl rfl rfl (row_new w _ _) ?_)
  exact bodyPost_ret (v := .agg (nov 0 none 0 0 none 0 0)) (results_No (fn := Tryz.f16) (p := 6) rfl rfl ((row_new w _ _).put _)) rfl ⟨rfl, below_row (below_one w _) (Nat.le_refl _) _⟩
set_option maxHeartbeats 400000 in
theorem no6_true (ca : ByteArray) (i : Int) (w : World) : Calls Tryz.prog 16 #[.string ca, .int .i64 i, .bool true] w fun r w' => ∃ g g', r = .returned (.agg (nov 2 (some ⟨g', 0, none⟩) 1 1 (some ⟨g, 0, none⟩) 1 1)) ∧ CsIn g' 0 #[.string bLines, .string ca, .int .i64 (place i)] w' ∧ CsIn g 0 #[.int .i64 2] w' ∧ Below w.heap.size w w' := by
  have HS := hid_of' (say_any bLines ca i 2 (w.alloc (.cells #[.int .i64 0, .slice none 0 0, .slice none 0 0] 45)) (by decide))
  have hb0 := below_one w (.cells #[.int .i64 0, .slice none 0 0, .slice none 0 0] 45)
  go_enter Tryz.func16, Tryz.ntmps16
  go_wp2_with (first | (go_at_call 30; refine HS.out.mono ?_; rintro r w1 ⟨g, g', rfl, hg', hg, k1, k2, hb1⟩) | (refine wpL_storeNo rfl _ _ rfl rfl rfl ((row_new w _ _).later hb1) ?_))
  have n1 : ¬ g' = w.heap.size := by simp at hg'; omega
  have n2 : ¬ g = w.heap.size := by simp at hg; omega
  exact bodyPost_ret (v := .agg (nov 2 (some ⟨g', 0, none⟩) 1 1 (some ⟨g, 0, none⟩) 1 1)) (results_No (fn := Tryz.f16) (p := 6) rfl rfl (((row_new w _ _).later hb1).put _)) rfl ⟨g, g', rfl, k1.other _ _ n1, k2.other _ _ n2, below_row (bgo hb0 hb1) (Nat.le_refl _) _⟩
/-- Refused of a refusal that is due. -/
theorem refL_some {ad : Nat → Addr} {b g g' : Nat} {ca : ByteArray} {at_ : Int} {x : World} (L : Laid ad x) (h1 : FaultAt ad b bLines ca at_ 1 x) (h2 : CsIn g' 0 #[.string bLines, .string ca, .int .i64 at_] x) (h3 : CsIn g 0 #[.int .i64 2] x) :
    Calls Tryz.prog 15 #[fvL b, .agg (nov 2 (some ⟨g', 0, none⟩) 1 1 (some ⟨g, 0, none⟩) 1 1)] x fun e w' => e = .returned (.bool true) ∧ Below x.heap.size x w' := refused_some (k := 1) L h1 (by decide) h2 h3

set_option maxHeartbeats 4000000 in
theorem line6_out {ad : Nat → Addr} {mb : Nat} {l : List El} {va : Value} (k : Int) {w : World} (hM : MvAt mb l w) (L : Laid ad w) (hA : SlRR w va (spl (vis l))) (ho : k < 0 ∨ (nlC (vis l) : Int) < k) :
    Calls Tryz.prog 11 #[pv mb, va, .int .i64 k] w fun r w' => r = .returned (.bool true) ∧ Below w.heap.size w w' := by
  obtain ⟨ga, ca, rfl, _, _⟩ := hA
  have hlen := spl_len (vis l)
  have HS : Hid (∀ x, Below w.heap.size w x → _) := fun x hx => start_out k (hM.later hx) (L.below hx) ho
  have HL : Hid (∀ x, Below w.heap.size w x → _) := fun x hx => length_out k (hM.later hx) (L.below hx) ho
  have HT : Hid (∀ x, Below w.heap.size w x → _) := fun x hx => text_out k (hM.later hx) (L.below hx) ho
  have HN := hid_of' no6_true
  have HR : Hid (∀ (b g g' : Nat) (c : ByteArray) (x : World), Below w.heap.size w x → _) := fun b g g' c x hx => @refL_some ad b g g' c (place k) x (L.below hx)
  unfold pv fvL at *
  have hR0 := Below.refl w.heap.size w
  have hd : (decide (k < 0) || decide (((spl (vis l)).length : Int) ≤ k)) = true := by
    rcases ho with h | h
    · simp [h]
    · simp; omega
  clear hM L
  by_cases h0 : k < 0
  · clear hd ho hlen
    go_enter Tryz.func11, Tryz.ntmps11
    go_upto_region 6 with (go_at_call 28; refine (HS.out _ hR0).mono ?_; rintro r w1 ⟨g1, rfl, f1, hb1⟩)
    go_upto_region 7 with (go_at_call 29; refine (HL.out _ hb1).mono ?_; rintro r w2 ⟨g2, rfl, f2, hb2⟩)
    have hB2 := bgo hb1 hb2
    go_upto_region 8 with (go_at_call 21; refine (HT.out _ hB2).mono ?_; rintro r w3 ⟨g3, rfl, f3, hb3⟩)
    have hB3 := bgo hB2 hb3
    replace f1 : FaultAt ad g1 bLines bStart (place k) 1 w3 := RowAt.later (RowAt.later f1 hb2) hb3
    replace f2 : FaultAt ad g2 bLines bLength (place k) 1 w3 := RowAt.later f2 hb3
    have N1 := hid_of' (HN.out bStart k)
    have N2 := hid_of' (HN.out bLength k)
    have N3 := hid_of' (HN.out bText k)
    clear HS HL HT HN hb1 hb2 hb3 hB2
    go_wp2_with (first | (go_at_call 16; first | (refine (N1.out _).mono ?_; clear N1; rintro r w4 ⟨x1, y1, rfl, k1, m1, hb4⟩; have hB4 := bgo hB3 hb4; replace f1 : FaultAt ad g1 bLines bStart (place k) 1 w4 := RowAt.later f1 hb4; replace f2 : FaultAt ad g2 bLines bLength (place k) 1 w4 := RowAt.later f2 hb4; replace f3 : FaultAt ad g3 bLines bText (place k) 1 w4 := RowAt.later f3 hb4) | (refine (N2.out _).mono ?_; clear N2; rintro r w6 ⟨x2, y2, rfl, k2, m2, hb6⟩; have hB6 := bgo hB5 hb6; replace f2 : FaultAt ad g2 bLines bLength (place k) 1 w6 := RowAt.later f2 hb6; replace f3 : FaultAt ad g3 bLines bText (place k) 1 w6 := RowAt.later f3 hb6) | (refine (N3.out _).mono ?_; clear N3; rintro r w8 ⟨x3, y3, rfl, k3, m3, hb8⟩; have hB8 := bgo hB7 hb8; replace f3 : FaultAt ad g3 bLines bText (place k) 1 w8 := RowAt.later f3 hb8)) | (go_at_call 15; first | ((with_reducible refine (HR.out g1 x1 y1 bStart _ hB4 f1 k1 m1).mono ?_); rintro r w5 ⟨rfl, hb5⟩; clear f1 k1 m1; have hB5 := bgo hB4 hb5; replace f2 : FaultAt ad g2 bLines bLength (place k) 1 w5 := RowAt.later f2 hb5; replace f3 : FaultAt ad g3 bLines bText (place k) 1 w5 := RowAt.later f3 hb5) | ((with_reducible refine (HR.out g2 x2 y2 bLength _ hB6 f2 k2 m2).mono ?_); rintro r w7 ⟨rfl, hb7⟩; clear f2 k2 m2; have hB7 := bgo hB6 hb7; replace f3 : FaultAt ad g3 bLines bText (place k) 1 w7 := RowAt.later f3 hb7) | ((with_reducible refine (HR.out g3 x3 y3 bText _ hB8 f3 k3 m3).mono ?_); rintro r w9 ⟨rfl, hb9⟩)))
    go_ret
    exact ⟨rfl, bgo hB8 hb9⟩
  · have h1 : ((spl (vis l)).length : Int) ≤ k := by omega
    clear hd ho hlen
    go_enter Tryz.func11, Tryz.ntmps11
    go_upto_region 6 with (go_at_call 28; refine (HS.out _ hR0).mono ?_; rintro r w1 ⟨g1, rfl, f1, hb1⟩)
    go_upto_region 7 with (go_at_call 29; refine (HL.out _ hb1).mono ?_; rintro r w2 ⟨g2, rfl, f2, hb2⟩)
    have hB2 := bgo hb1 hb2
    go_upto_region 8 with (go_at_call 21; refine (HT.out _ hB2).mono ?_; rintro r w3 ⟨g3, rfl, f3, hb3⟩)
    have hB3 := bgo hB2 hb3
    replace f1 : FaultAt ad g1 bLines bStart (place k) 1 w3 := RowAt.later (RowAt.later f1 hb2) hb3
    replace f2 : FaultAt ad g2 bLines bLength (place k) 1 w3 := RowAt.later f2 hb3
    have N1 := hid_of' (HN.out bStart k)
    have N2 := hid_of' (HN.out bLength k)
    have N3 := hid_of' (HN.out bText k)
    clear HS HL HT HN hb1 hb2 hb3 hB2
    go_wp2_with (first | (go_at_call 16; first | (refine (N1.out _).mono ?_; clear N1; rintro r w4 ⟨x1, y1, rfl, k1, m1, hb4⟩; have hB4 := bgo hB3 hb4; replace f1 : FaultAt ad g1 bLines bStart (place k) 1 w4 := RowAt.later f1 hb4; replace f2 : FaultAt ad g2 bLines bLength (place k) 1 w4 := RowAt.later f2 hb4; replace f3 : FaultAt ad g3 bLines bText (place k) 1 w4 := RowAt.later f3 hb4) | (refine (N2.out _).mono ?_; clear N2; rintro r w6 ⟨x2, y2, rfl, k2, m2, hb6⟩; have hB6 := bgo hB5 hb6; replace f2 : FaultAt ad g2 bLines bLength (place k) 1 w6 := RowAt.later f2 hb6; replace f3 : FaultAt ad g3 bLines bText (place k) 1 w6 := RowAt.later f3 hb6) | (refine (N3.out _).mono ?_; clear N3; rintro r w8 ⟨x3, y3, rfl, k3, m3, hb8⟩; have hB8 := bgo hB7 hb8; replace f3 : FaultAt ad g3 bLines bText (place k) 1 w8 := RowAt.later f3 hb8)) | (go_at_call 15; first | ((with_reducible refine (HR.out g1 x1 y1 bStart _ hB4 f1 k1 m1).mono ?_); rintro r w5 ⟨rfl, hb5⟩; clear f1 k1 m1; have hB5 := bgo hB4 hb5; replace f2 : FaultAt ad g2 bLines bLength (place k) 1 w5 := RowAt.later f2 hb5; replace f3 : FaultAt ad g3 bLines bText (place k) 1 w5 := RowAt.later f3 hb5) | ((with_reducible refine (HR.out g2 x2 y2 bLength _ hB6 f2 k2 m2).mono ?_); rintro r w7 ⟨rfl, hb7⟩; clear f2 k2 m2; have hB7 := bgo hB6 hb7; replace f3 : FaultAt ad g3 bLines bText (place k) 1 w7 := RowAt.later f3 hb7) | ((with_reducible refine (HR.out g3 x3 y3 bText _ hB8 f3 k3 m3).mono ?_); rintro r w9 ⟨rfl, hb9⟩)))
    go_ret
    exact ⟨rfl, bgo hB8 hb9⟩

theorem strEq (a : ByteArray) (w : World) : (binOp .eql 9 (.string a) (.string a)).run Tryz.prog w = .ok (.bool true) w := by simp [binOp, Op.stringOp]
set_option maxHeartbeats 4000000 in
theorem line6_ok {ad : Nat → Addr} {mb : Nat} {l : List El} {va : Value} (k : Nat) {w : World} (hM : MvAt mb l w) (L : Laid ad w) (hA : SlRR w va (spl (vis l))) (hk : k ≤ nlC (vis l)) (hn : l.length ≤ 1000) (hc : Ch32 l) (hr : ∀ (i : Nat) (c : Int), (vis l)[i]? = some c → rightC c = true) :
    Calls Tryz.prog 11 #[pv mb, va, .int .i64 (k : Int)] w fun r w' => r = .returned (.bool true) ∧ Below w.heap.size w w' := by
  have hlen := spl_len (vis l)
  have hvl := vis_le l
  have hnl := nlC_b (vis l)
  have htx := tx_at (vis l) k hk
  have htl := tx_len (vis l) k hk
  have hst := sum_st (vis l) k hk
  have hal := sum_st (vis l) (nlC (vis l)) (Nat.le_refl _)
  have hse := st_en (vis l) (nlC (vis l)) (Nat.le_refl _)
  have hsk := st_en (vis l) k hk
  have hle : sumS (spl (vis l)) (spl (vis l)).length ≤ 100000 := by
    rw [hlen, sumS_next _ _ _ (tx_at (vis l) (nlC (vis l)) (Nat.le_refl _)), hal, tx_len _ _ (Nat.le_refl _)]
    omega
  have HA1 : Hid (∀ x, Below w.heap.size w x → _) := fun x hx => refStart_any (hA.later hx) k (by omega) (by omega) (by omega)
  rw [hst] at HA1
  obtain ⟨ga, ca, rfl, hga, hcs⟩ := hA
  obtain ⟨xa, xk, hcell, hsl⟩ := hcs k _ htx
  have hrt : ∀ (i : Nat) (c : Int), (txC (vis l) k)[i]? = some c → rightC c = true := fun i c hi => by
    unfold txC at hi
    rw [List.getElem?_take] at hi
    split at hi
    · rw [List.getElem?_drop] at hi; exact hr _ c hi
    · cases hi
  have HU : Hid (∀ x, Below w.heap.size w x → _) := fun x hx => refUTF8_any (hsl.later hx) (by omega) hrt
  rw [htl] at HU hcell
  have HS : Hid (∀ x, Below w.heap.size w x → _) := fun x hx => start_ok k (hM.later hx) (by omega) hk
  have HL : Hid (∀ x, Below w.heap.size w x → _) := fun x hx => length_ok k (hM.later hx) (by omega) hk
  have HT : Hid (∀ x, Below w.heap.size w x → _) := fun x hx => text_ok k (hM.later hx) (L.below hx) (by omega) hk hc
  have HN := hid_of' no6_false
  have HR := hid_of' refused_none
  have e1 : ¬ (k : Int) < 0 := by omega
  have e2 : ¬ ((spl (vis l)).length : Int) ≤ (k : Int) := by omega
  have e3 : (k : Int) < ((spl (vis l)).length : Int) := by omega
  have e4 : 0 ≤ (k : Int) := by omega
  have hcl : ∀ s : Wld w, (wOf s).cell? ⟨ga, k, none⟩ = some (.slice xa (enC (vis l) k - stC (vis l) k) xk) := fun s => by rw [(wOf_below s).cell (p := ⟨ga, k, none⟩) hga]; exact hcell
  unfold pv at *
  have hB := Below.refl w.heap.size w
  clear hM L hcell hsl hcs htx htl hst hal hse hsk hle hlen hvl hnl hr hrt hc hk hn
  generalize enC (vis l) k - stC (vis l) k = N at *
  generalize stC (vis l) k = S at *
  generalize encL (txC (vis l) k) = E at *
  go_enter Tryz.func11, Tryz.ntmps11
  go_upto_region 4 with fail
  refine wp_region_cls (by kernel_rfl) (by kernel_rfl) ?_
  repeat (first | go_big_quiet_skip | (go_big_quiet_want; first | (go_big_quiet_op; first | go_big_quiet_on | go_big_quiet_call ((first | (go_at_call 14; exact cls_of_same (HA1.out _ (wOf_below _))) | (go_at_call 27; exact cls_of (HU.out _ (wOf_below _))))))))
  refine wpQuiet_nil ?_
  rintro w1 ⟨s1, e1⟩
  have hb1 := wOf_below s1
  rw [← e1] at hb1
  clear e1 s1
  replace hB := bgo hB hb1
  clear hb1
  go_upto_region 6 with (go_at_call 28; refine (HS.out _ hB).mono ?_; rintro r w1 ⟨rfl, hb1⟩)
  have hB1 := bgo hB hb1
  go_upto_region 7 with (go_at_call 29; refine (HL.out _ hB1).mono ?_; rintro r w2 ⟨rfl, hb2⟩)
  have hB2 := bgo hB1 hb2
  go_upto_region 8 with (go_at_call 21; refine (HT.out _ hB2).mono ?_; rintro r w3 ⟨rfl, hb3⟩)
  have hB3 := bgo hB2 hb3
  have hs := fun w => strEq ⟨E.toArray⟩ w
  have N1 := hid_of' (HN.out bStart k)
  have N2 := hid_of' (HN.out bLength k)
  have N3 := hid_of' (HN.out bText k)
  have R0 : Hid (∀ x, Calls Tryz.prog 15 #[.nilIface, .agg (nov 0 none 0 0 none 0 0)] x fun e w' => e = .returned (.bool true) ∧ Below x.heap.size x w') := fun x => HR.out none none 0 0 0 0 x
  clear HS HL HT HN HR hb1 hb2 hb3 hB2
  go_wp2_with (first | (refine wpL_of_run (hs _) ?_) | (go_at_call 16; first | (refine (N1.out _).mono ?_; clear N1; rintro r w4 ⟨rfl, hb4⟩; have hB4 := bgo hB3 hb4) | (refine (N2.out _).mono ?_; clear N2; rintro r w6 ⟨rfl, hb6⟩; have hB6 := bgo hB5 hb6) | (refine (N3.out _).mono ?_; clear N3; rintro r w8 ⟨rfl, hb8⟩; have hB8 := bgo hB7 hb8)) | (go_at_call 15; refine (R0.out _).mono ?_; first | (have hB5' := hB8; rintro r w9 ⟨rfl, hb9⟩) | (have hB5' := hB6; rintro r w7 ⟨rfl, hb7⟩; have hB7 := bgo hB6 hb7) | (have hB5' := hB4; rintro r w5 ⟨rfl, hb5⟩; have hB5 := bgo hB4 hb5)))
  go_ret
  exact ⟨rfl, bgo hB8 hb9⟩
end Go.Proofs.YtdmiibihibikdaaGreatDoor
namespace Go.Proofs.YtdmiibihibikdaaGreatDoor
open Go.RowKit Go.Extern.Stop Go.Stop Go.Extern Go.ChangeShapes Go.WideShapes Go.ChangeAt Go.Deep
set_option maxRecDepth 100000

/-- A list of numbers. -/
def SlI (w : World) (v : Value) (cs : List Int) : Prop := (cs = [] ∧ ∃ a c, v = .slice a 0 c) ∨ ∃ g o_ c, v = .slice (some ⟨g, o_, none⟩) cs.length c ∧ g < w.heap.size ∧ ∀ (i : Nat) (x : Int), cs[i]? = some x → w.cell? ⟨g, o_ + i, none⟩ = some (.int .i64 x)
theorem SlI.form {w : World} {v : Value} {cs : List Int} (h : SlI w v cs) : ∃ a c, v = .slice a cs.length c := by
  rcases h with ⟨h, a, c, e⟩ | ⟨g, o_, c, e, _⟩
  · subst h; exact ⟨a, c, e⟩
  · exact ⟨_, _, e⟩
theorem SlI.at {w w' : World} {v : Value} {cs : List Int} (h : SlI w v cs) (hb : Below w.heap.size w w') {i : Nat} {x : Int} (hx : cs[i]? = some x) : ∃ g o_ c, v = .slice (some ⟨g, o_, none⟩) cs.length c ∧ w'.cell? ⟨g, o_ + i, none⟩ = some (.int .i64 x) := by
  rcases h with ⟨h, _⟩ | ⟨g, o_, c, e, hg, hc⟩
  · subst h; simp at hx
  · exact ⟨g, o_, c, e, by rw [hb.cell (p := ⟨g, o_ + i, none⟩) hg]; exact hc i x hx⟩
section
variable {H : Type} {enc : TypeId × Value → H} {W : World} {base : Nat}
/-- A list that came in whose elements are one cell each. -/
theorem open_one {α : Type} [Inhabited α] {t e : TypeId} {mk : α → Value} (ht : Tryz.prog.underlying t = some (.slice e)) (hc1 : Tryz.prog.cellsOf e = 1) (hop : ∀ (n : Nat) (v : Value) (x : DataW H × List MemPlace), DataW.trod enc Tryz.prog W 0 (fun _ => true) true n e [v] = some x → ∃ y, v = mk y)
    {v : Value} {d : DataW H} {p : List MemPlace} (hval : Value.okWide Tryz.prog W .any base t v) (h : DataW.Trod enc Tryz.prog W 0 (fun _ => true) true t v d p) :
    ∃ l : List α, (l = [] ∧ ∃ a c, v = .slice a 0 c) ∨ ∃ g o_ c, v = .slice (some ⟨g, o_, none⟩) l.length c ∧ g < W.heap.size ∧ ∀ (i : Nat) (x : α), l[i]? = some x → W.cell? ⟨g, o_ + i, none⟩ = some (mk x) := by
  obtain ⟨a1, len, cap, rfl⟩ := okWide_slice ht hval
  obtain ⟨fuel, hf⟩ := h
  rcases open_slice1 ht hc1 hf with ⟨hcs, hx⟩ | ⟨a, len', cap', m, n, V, D, Pl, hcs, _, hl, hm, hmm, hx, hcell⟩
  · simp [Value.cells] at hcs
    obtain ⟨rfl, rfl, rfl⟩ := hcs
    exact ⟨[], .inl ⟨rfl, _, _, rfl⟩⟩
  · simp [Value.cells] at hcs
    obtain ⟨rfl, rfl, rfl⟩ := hcs
    simp only [if_true] at hmm
    subst hmm
    have each : ∀ i, i < len → ∃ x : α, W.cell? (a.add i) = some (mk x) := fun i hi => by
      obtain ⟨h1, h2⟩ := hcell i (by omega)
      obtain ⟨y, hy⟩ := hop n _ _ h2
      exact ⟨y, by rw [h1, hy]⟩
    obtain ⟨f, hf⟩ := choose_lt (α := α) each
    refine ⟨(List.range len).map f, ?_⟩
    by_cases h0 : len = 0
    · subst h0
      exact .inl ⟨by simp, _, _, rfl⟩
    · obtain ⟨ab, ao, spot⟩ := a
      have c0 := hf 0 (by omega)
      have hspot : spot = none := by simpa [Addr.add] using World.cell?_spot c0
      subst hspot
      have hblk : ab < W.heap.size := by
        have := World.block_lt_of_cell? _ _ c0
        simpa [Addr.add] using this
      refine .inr ⟨ab, ao, _, by rw [List.length_map, List.length_range], hblk, fun i x hi => ?_⟩
      have hil : i < len := by have := (List.getElem?_eq_some_iff.1 hi).1; simpa using this
      have hx : f i = x := by
        simp only [List.getElem?_map, List.getElem?_range hil, Option.map_some, Option.some.injEq] at hi
        exact hi
      have := hf i hil
      rw [hx, Addr.add_lit] at this
      exact this
theorem open_runes {v : Value} {d : DataW H} {p : List MemPlace} (hval : Value.okWide Tryz.prog W .any base 22 v) (h : DataW.Trod enc Tryz.prog W 0 (fun _ => true) true 22 v d p) : ∃ cs, SlR W v cs :=
  open_one (mk := fun x => .int .i32 x) Tryz.underlying22 (by kernel_rfl) (fun _ _ _ h => by obtain ⟨y, hy, _⟩ := DataW.trod_int Tryz.underlying21 h; simp at hy; exact ⟨y, hy⟩) hval h
theorem open_yns {v : Value} {d : DataW H} {p : List MemPlace} (hval : Value.okWide Tryz.prog W .any base 23 v) (h : DataW.Trod enc Tryz.prog W 0 (fun _ => true) true 23 v d p) : ∃ cs, SlB W v cs :=
  open_one (mk := fun x => .bool x) Tryz.underlying23 (by kernel_rfl) (fun _ _ _ h => by obtain ⟨y, hy, _⟩ := DataW.trod_bool Tryz.underlying4 h; simp at hy; exact ⟨y, hy⟩) hval h
theorem open_nums {v : Value} {d : DataW H} {p : List MemPlace} (hval : Value.okWide Tryz.prog W .any base 24 v) (h : DataW.Trod enc Tryz.prog W 0 (fun _ => true) true 24 v d p) : ∃ cs, SlI W v cs :=
  open_one (mk := fun x => .int .i64 x) Tryz.underlying24 (by kernel_rfl) (fun _ _ _ h => by obtain ⟨y, hy, _⟩ := DataW.trod_int Tryz.underlying3 h; simp at hy; exact ⟨y, hy⟩) hval h
end

theorem line6_any {ad : Nat → Addr} {mb : Nat} {l : List El} {va : Value} (k : Int) {w : World} (hM : MvAt mb l w) (L : Laid ad w) (hA : SlRR w va (spl (vis l))) (hn : l.length ≤ 1000) (hc : Ch32 l) (hr : ∀ (i : Nat) (c : Int), (vis l)[i]? = some c → rightC c = true) :
    Calls Tryz.prog 11 #[pv mb, va, .int .i64 k] w fun r w' => r = .returned (.bool true) ∧ Below w.heap.size w w' := by
  by_cases ho : k < 0 ∨ (nlC (vis l) : Int) < k
  · exact line6_out k hM L hA ho
  · obtain ⟨j, rfl⟩ := Int.eq_ofNat_of_zero_le (show 0 ≤ k by omega)
    exact line6_ok j hM L hA (by omega) hn hc hr
theorem vis_right {l : List El} (h : ∀ (i : Nat) (e : El), l[i]? = some e → rightC e.ch = true) : ∀ (i : Nat) (c : Int), (vis l)[i]? = some c → rightC c = true := by
  intro i c hi
  have key : ∀ l : List El, c ∈ vis l → ∃ e, e ∈ l ∧ e.ch = c := fun l => by
    induction l with
    | nil => intro h; cases h
    | cons e l ih =>
      intro h
      by_cases hd : e.hd > 0
      · rw [vis_hid _ hd] at h
        obtain ⟨x, h1, h2⟩ := ih h
        exact ⟨x, List.mem_cons_of_mem _ h1, h2⟩
      · rw [vis_live _ hd] at h
        rcases List.mem_cons.1 h with h | h
        · exact ⟨e, List.mem_cons_self, h.symm⟩
        · obtain ⟨x, h1, h2⟩ := ih h
          exact ⟨x, List.mem_cons_of_mem _ h1, h2⟩
  obtain ⟨e, he, rfl⟩ := key l (List.mem_of_getElem? hi)
  obtain ⟨j, hj⟩ := List.getElem?_of_mem he
  exact h j e hj
set_option maxHeartbeats 2000000 in
theorem linesExact_all {ad : Nat → Addr} {W : World} {v0 v1 v2 : Value} {cs : List Int} {hs : List Bool} {ks : List Int} (L : Laid ad W) (h0 : SlR W v0 cs) (h1 : SlB W v1 hs) (h2 : SlI W v2 ks) :
    Calls Tryz.prog 3 #[v0, v1, v2] W fun r w' => r = .returned (.bool true) ∧ Below W.heap.size W w' := by
  have HBg := hid_of' (begun_ok h0 h1)
  obtain ⟨a0, c0, rfl⟩ := h0.form
  obtain ⟨a1, c1, rfl⟩ := h1.form
  obtain ⟨a2, c2, rfl⟩ := h2.form
  have hall := bgE_all (cs := cs) (hs := hs) (bgN cs)
  have hN : bgN cs ≤ 150 := by unfold bgN; omega
  have hgd := bgE_good cs hs (bgN cs) (by omega)
  have hvr := vis_right (fun i e h => (hall.2 i e h).2.2.2.2.1)
  have hln : (bgE cs hs (bgN cs)).length ≤ 150 := by omega
  have hch := hgd.2.2
  clear hall hgd hN
  generalize bgE cs hs (bgN cs) = l at *
  have hvl := vis_le l
  have hnl := nlC_b (vis l)
  have hlen := spl_len (vis l)
  have HS : Hid (∀ (x : World) (u : Value), SlR x u (vis l) → _) := fun x u hu => refSplit_ok hu (by omega)
  have hq : ((spl (vis l)).length : Int) = (nlC (vis l) : Int) + 1 := by omega
  have HC : Hid (∀ (x : World) (mb : Nat), MvAt mb l x → Calls Tryz.prog 10 #[pv mb] x fun r w' => r = .returned (.int .i64 ((spl (vis l)).length : Int)) ∧ Below x.heap.size x w') := fun x mb hm => by rw [hq]; exact count_any hm (by omega)
  have HL : Hid (∀ (x : World) (mb : Nat) (va : Value) (k : Int), Laid ad x → MvAt mb l x → SlRR x va (spl (vis l)) → _) := fun x mb va k L hm ha => line6_any k hm L ha (by omega) hch hvr
  have HW : Hid (∀ x : World, Laid ad x → _) := fun x L => wakes6_ok x L
  have LL := hid_of' L
  have hSm : (spl (vis l)).length ≤ 1000 := by omega
  clear L hlen hq hnl hvl hvr hch hln h0 h1
  unfold pv at *
  go_enter Tryz.func3, Tryz.ntmps3
  go_upto_region 2 with (go_at_call 8; refine HBg.out.mono ?_; rintro r w1 ⟨mb, vs, rfl, hM1, hR1, hb1⟩)
  go_upto_region 5 with (go_at_call 9; refine (HS.out _ _ hR1).mono ?_; rintro r w2 ⟨va, rfl, hA2, hb2⟩)
  have hB2 := bgo hb1 hb2
  have hM2 := hM1.later hb2
  obtain ⟨ga, ca, rfl, hga, hcs⟩ := hA2
  have hA2 : SlRR w2 (.slice (some ⟨ga, 0, none⟩) (spl (vis l)).length ca) (spl (vis l)) := ⟨ga, ca, rfl, hga, hcs⟩
  clear hcs HBg HS hR1 hM1 hb1 hb2
  go_upto_region 7 with (first | (go_at_call 10; refine (HC.out _ _ hM2).mono ?_; rintro r w3 ⟨rfl, hb3⟩))
  have hB3 := bgo hB2 hb3
  have hM3 := hM2.later hb3
  have hA3 := hA2.later hb3
  clear hM2 hA2 hB2 hb3 HC
  go_wp2
  go_loopw [10] (fun i wr => ∃ k : Nat, i = .int .i64 (k : Int) ∧ k ≤ min ks.length 60 ∧ Below w3.heap.size w3 wr) (fun i _ => 60 - (intOf i).toNat)
  case atStart => exact ⟨0, rfl, Nat.zero_le _, Below.refl _ _⟩
  case round =>
    obtain ⟨k, rfl, hk, hB⟩ := hrel
    by_cases hlt : k < min ks.length 60
    · have q1 : (k : Int) < (ks.length : Int) := by omega
      have q2 : (k : Int) < 60 := by omega
      obtain ⟨c, hc⟩ : ∃ c, ks[k]? = some c := ⟨_, List.getElem?_eq_getElem (by omega)⟩
      obtain ⟨g, o_, cc, hv, hcell⟩ := h2.at (bgo hB3 hB) hc
      simp only [Value.slice.injEq] at hv
      obtain ⟨rfl, _, rfl⟩ := hv
      have HL' := hid_of' (HL.out wr mb _ c (LL.out.below (bgo hB3 hB)) (hM3.later hB) (hA3.later hB))
      go_wp2_with (go_at_call 11; with_reducible refine HL'.out.mono ?_; rintro r w4 ⟨rfl, hb4⟩)
      go_roundw
      case rel => exact ⟨k + 1, by go_num, by omega, bgo hB hb4⟩
      case measure => simp [intOf]; omega
    · by_cases q1 : (k : Int) < (ks.length : Int)
      · have q2 : ¬ (k : Int) < 60 := by omega
        have hBr := bgo hB3 hB
        have hMr := hM3.later hB
        have hAr := hA3.later hB
        clear hB3 hM3 hA3 h2 hlt hk
        go_wp2
        go_loopw [11] (fun i w5 => ∃ j : Nat, i = .int .i64 (j : Int) ∧ j ≤ (spl (vis l)).length ∧ Below wr.heap.size wr w5) (fun i _ => 1001 - (intOf i).toNat)
        case atStart => exact ⟨0, rfl, Nat.zero_le _, Below.refl _ _⟩
        case round =>
          obtain ⟨j, rfl, hj, hB5⟩ := hrel
          by_cases hlt5 : j < (spl (vis l)).length
          · have p1 : (j : Int) < ((spl (vis l)).length : Int) := by omega
            have HL' := hid_of' (HL.out _ mb _ (j : Int) (LL.out.below (bgo hBr hB5)) (hMr.later hB5) (hAr.later hB5))
            go_wp2_with (go_at_call 11; with_reducible refine HL'.out.mono ?_; rintro r w6 ⟨rfl, hb6⟩)
            go_roundw
            case rel => exact ⟨j + 1, by go_num, by omega, bgo hB5 hb6⟩
            case measure => simp [intOf]; omega
          · have p1 : ¬ (j : Int) < ((spl (vis l)).length : Int) := by omega
            have HW' := hid_of' (HW.out _ (LL.out.below (bgo hBr hB5)))
            go_wp2_with (go_at_call 12; with_reducible refine HW'.out.mono ?_; rintro r w6 ⟨rfl, hb6⟩)
            go_ret
            exact ⟨rfl, bgo (bgo hBr hB5) hb6⟩
      · skip
        have hBr := bgo hB3 hB
        have hMr := hM3.later hB
        have hAr := hA3.later hB
        clear hB3 hM3 hA3 h2 hlt hk
        go_wp2
        go_loopw [11] (fun i w5 => ∃ j : Nat, i = .int .i64 (j : Int) ∧ j ≤ (spl (vis l)).length ∧ Below wr.heap.size wr w5) (fun i _ => 1001 - (intOf i).toNat)
        case atStart => exact ⟨0, rfl, Nat.zero_le _, Below.refl _ _⟩
        case round =>
          obtain ⟨j, rfl, hj, hB5⟩ := hrel
          by_cases hlt5 : j < (spl (vis l)).length
          · have p1 : (j : Int) < ((spl (vis l)).length : Int) := by omega
            have HL' := hid_of' (HL.out _ mb _ (j : Int) (LL.out.below (bgo hBr hB5)) (hMr.later hB5) (hAr.later hB5))
            go_wp2_with (go_at_call 11; with_reducible refine HL'.out.mono ?_; rintro r w6 ⟨rfl, hb6⟩)
            go_roundw
            case rel => exact ⟨j + 1, by go_num, by omega, bgo hB5 hb6⟩
            case measure => simp [intOf]; omega
          · have p1 : ¬ (j : Int) < ((spl (vis l)).length : Int) := by omega
            have HW' := hid_of' (HW.out _ (LL.out.below (bgo hBr hB5)))
            go_wp2_with (go_at_call 12; with_reducible refine HW'.out.mono ?_; rintro r w6 ⟨rfl, hb6⟩)
            go_ret
            exact ⟨rfl, bgo (bgo hBr hB5) hb6⟩
end Go.Proofs.YtdmiibihibikdaaGreatDoor
namespace Go.Proofs.YtdmiibihibikdaaGreatDoor
open Go.RowKit Go.Extern.Stop Go.Stop Go.Extern
set_option maxRecDepth 100000

/-- The line of a gap. -/
def InL (v : List Int) (j p : Nat) : Prop := j ≤ nlC v ∧ stC v j ≤ p ∧ p ≤ enC v j
theorem st_next (v : List Int) (j : Nat) (h : j < nlC v) : stC v (j + 1) = enC v j + 1 := by
  unfold enC; rw [if_neg (by omega)]; rfl
theorem st_mono (v : List Int) (i : Nat) : ∀ d : Nat, i + d ≤ nlC v → stC v i ≤ stC v (i + d)
  | 0, _ => Nat.le_refl _
  | d + 1, h => by
    have h1 := st_mono v i d (by omega)
    have h2 := st_next v (i + d) (by omega)
    have h3 := (st_en v (i + d) (by omega)).1
    rw [show i + (d + 1) = i + d + 1 from rfl]; omega
theorem in_lt {v : List Int} {i j p : Nat} (hi : InL v i p) (hj : InL v j p) : ¬ i < j := fun h => by
  obtain ⟨_, _, h1⟩ := hi
  obtain ⟨h2, h3, _⟩ := hj
  have h4 := st_next v i (by omega)
  have h5 := st_mono v (i + 1) (j - (i + 1)) (by omega)
  rw [show i + 1 + (j - (i + 1)) = j by omega] at h5
  omega
theorem in_one {v : List Int} {i j p : Nat} (hi : InL v i p) (hj : InL v j p) : i = j := by
  have := in_lt hi hj; have := in_lt hj hi; omega
/-- What a search between lo and hi knows. -/
def SrA (v : List Int) (p lo hi : Nat) : Prop := (∀ t, t < lo → endC v t < p) ∧ (∀ t, hi ≤ t → t < nlC v → p ≤ endC v t)
theorem endC_mono (v : List Int) (i : Nat) : ∀ d : Nat, i + d < nlC v → endC v i ≤ endC v (i + d)
  | 0, _ => Nat.le_refl _
  | d + 1, h => by
    have h1 := endC_mono v i d (by omega)
    have h2 := endC_up v (i + d) (by omega)
    rw [show i + (d + 1) = i + d + 1 from rfl]; omega
theorem SrA.low {v : List Int} {p lo hi m : Nat} (h : SrA v p lo hi) (hm : m < nlC v) (hp : endC v m < p) : SrA v p (m + 1) hi :=
  ⟨fun t ht => by have := endC_mono v t (m - t) (by omega); rw [show t + (m - t) = m by omega] at this; omega, h.2⟩
theorem SrA.high {v : List Int} {p lo hi m : Nat} (h : SrA v p lo hi) (hp : p ≤ endC v m) : SrA v p lo m :=
  ⟨h.1, fun t ht hl => by have := endC_mono v m (t - m) (by omega); rw [show m + (t - m) = t by omega] at this; omega⟩
theorem SrA.done {v : List Int} {p lo : Nat} (h : SrA v p lo lo) (hl : lo ≤ nlC v) (hp : p ≤ v.length) : InL v lo p := by
  refine ⟨hl, ?_, ?_⟩
  · cases lo with
    | zero => exact Nat.zero_le _
    | succ k => exact h.1 k (Nat.lt_succ_self _)
  · unfold enC
    by_cases e : lo = nlC v
    · rw [if_pos e]; exact hp
    · rw [if_neg e]; exact h.2 lo (Nat.le_refl _) (by omega)

theorem enters_lo (w : World) (args : Array Value) : (callFunc 63 args).run Tryz.prog w = .ok (.enter 63 args) w := by kernel_rfl
theorem lineOfFn_ok {mb b1 b2 : Nat} {l : List El} {w : World} (h : MvAt mb l w) (h1 : w.cell? ⟨b1, 0, none⟩ = some (pv mb)) (p : Nat) (h2 : w.cell? ⟨b2, 0, none⟩ = some (.int .i64 (p : Int))) (hb2 : b2 < w.heap.size) (k : Nat) (hn : l.length ≤ 1000000) (hk : k < nlC (vis l)) :
    Calls Tryz.prog 63 #[.int .i64 (k : Int), .pointer (some ⟨b1, 0, none⟩), .pointer (some ⟨b2, 0, none⟩)] w fun r w' => r = .returned (.bool (decide (p ≤ endC (vis l) k))) ∧ Below w.heap.size w w' := by
  have HE := hid_of' (lineEnd_c h k hn hk)
  have HX : Hid (∀ x, Below w.heap.size w x → x.cell? ⟨b2, 0, none⟩ = some (.int .i64 (p : Int))) := fun x hx => by rw [hx.cell (p := ⟨b2, 0, none⟩) hb2]; exact h2
  unfold pv at *
  go_enter Tryz.func63, Tryz.ntmps63
  go_upto_region 2 with (go_at_call 56; refine HE.out.mono ?_; rintro r w1 ⟨rfl, hb1⟩)
  have hx := HX.out _ hb1
  go_wp2
  go_ret
  exact ⟨rfl, hb1⟩
set_option maxHeartbeats 1000000 in
theorem search_ok {mb b1 b2 : Nat} {l : List El} {w : World} (h : MvAt mb l w) (h1 : w.cell? ⟨b1, 0, none⟩ = some (pv mb)) (p : Nat) (h2 : w.cell? ⟨b2, 0, none⟩ = some (.int .i64 (p : Int))) (hb1 : b1 < w.heap.size) (hb2 : b2 < w.heap.size) (hn : l.length ≤ 1000000) (hp : p ≤ (vis l).length) :
    Calls Tryz.prog 62 #[.int .i64 (nlC (vis l) : Int), .func (.func 63) #[] #[.pointer (some ⟨b1, 0, none⟩), .pointer (some ⟨b2, 0, none⟩)]] w fun r w' => ∃ j : Nat, r = .returned (.int .i64 (j : Int)) ∧ InL (vis l) j p ∧ Below w.heap.size w w' := by
  have HF : Hid (∀ (x : World) (k : Nat), Below w.heap.size w x → k < nlC (vis l) → _) := fun x k hx hk => lineOfFn_ok (h.later hx) (by rw [hx.cell (p := ⟨b1, 0, none⟩) hb1]; exact h1) p (by rw [hx.cell (p := ⟨b2, 0, none⟩) hb2]; exact h2) (Nat.lt_of_lt_of_le hb2 hx.size) k hn hk
  have hN : nlC (vis l) ≤ 1000000 := by have := nlC_b (vis l); have := vis_le l; omega
  have eg := fun (args : Array Value) (w : World) => enters_lo w args
  generalize hNN : nlC (vis l) = N at *
  go_enter Tryz.func62, Tryz.ntmps62
  go_wp2
  go_loopw [5, 6] (fun a b wr => ∃ lo hi : Nat, a = .int .i64 (lo : Int) ∧ b = .int .i64 (hi : Int) ∧ lo ≤ hi ∧ hi ≤ N ∧ SrA (vis l) p lo hi ∧ Below w.heap.size w wr) (fun a b _ => (intOf b - intOf a).toNat)
  case atStart => exact ⟨0, N, rfl, rfl, Nat.zero_le _, Nat.le_refl _, ⟨fun t ht => absurd ht (Nat.not_lt_zero _), fun t h1 h2 => by omega⟩, Below.refl _ _⟩
  case round =>
    obtain ⟨lo, hi, rfl, rfl, hlh, hin, hS, hB⟩ := hrel
    by_cases hlt : lo < hi
    · have q1 : (lo : Int) < (hi : Int) := by omega
      have hm : (lo + hi) / 2 < N := by omega
      have hc := HF.out _ ((lo + hi) / 2) hB hm
      rw [show (((lo + hi) / 2 : Nat) : Int) = ((lo : Int) + (hi : Int)) / 2 by omega] at hc
      have hC := hid_of' hc
      clear hc
      by_cases hq : p ≤ endC (vis l) ((lo + hi) / 2)
      · rw [decide_eq_true hq] at hC
        have HS := hid_of' (hS.high hq)
        clear hS hq
        go_wp2_with (go_at_call 63; refine hC.out.mono ?_; rintro r w2 ⟨rfl, hb⟩)
        go_roundw
        case rel => exact ⟨lo, (lo + hi) / 2, rfl, by rw [show ((lo : Int) + (hi : Int)) / 2 = (((lo + hi) / 2 : Nat) : Int) by omega], by omega, by omega, HS.out, bgo hB hb⟩
        case measure => simp [intOf]; omega
      · rw [decide_eq_false hq] at hC
        have HS := hid_of' (hS.low (m := (lo + hi) / 2) (by omega) (by omega))
        clear hS hq
        go_wp2_with (go_at_call 63; refine hC.out.mono ?_; rintro r w2 ⟨rfl, hb⟩)
        go_roundw
        case rel => exact ⟨(lo + hi) / 2 + 1, hi, by rw [show ((lo : Int) + (hi : Int)) / 2 + 1 = (((lo + hi) / 2 + 1 : Nat) : Int) by omega], rfl, by omega, by omega, HS.out, bgo hB hb⟩
        case measure => simp [intOf]; omega
    · obtain rfl : hi = lo := by omega
      go_wp2
      go_ret
      exact ⟨hi, rfl, hS.done (by omega) hp, hB⟩
set_option maxHeartbeats 400000 in
theorem lineOf_ok {mb : Nat} {l : List El} {w : World} (h : MvAt mb l w) (p : Nat) (hn : l.length ≤ 1000000) (hp : p ≤ (vis l).length) :
    Calls Tryz.prog 39 #[pv mb, .int .i64 (p : Int)] w fun r w' => ∃ j : Nat, r = .returned (.int .i64 (j : Int)) ∧ InL (vis l) j p ∧ Below w.heap.size w w' := by
  have HL : Hid (∀ x, Below w.heap.size w x → _) := fun x hx => lines_c (h.later hx)
  have HS : Hid (∀ (x : World) (b1 b2 : Nat), Below w.heap.size w x → x.cell? ⟨b1, 0, none⟩ = some (pv mb) → x.cell? ⟨b2, 0, none⟩ = some (.int .i64 (p : Int)) → b1 < x.heap.size → b2 < x.heap.size → _) := fun x b1 b2 hx c1 c2 d1 d2 => search_ok (h.later hx) c1 p c2 d1 d2 hn hp
  have hmf : ∀ (fn : Fn) (first cap : Array Value) (w : World), (Instr.makeFunc fn first cap).run Tryz.prog w = .ok (.func fn first cap) w := fun _ _ _ _ => rfl
  have r1 := row_new w #[pv mb] 25
  have r2 := row_new (w.alloc (.cells #[pv mb] 25)) #[.int .i64 (p : Int)] 3
  have b1 := below_one w (.cells #[pv mb] 25)
  have b2 := below_one (w.alloc (.cells #[pv mb] 25)) (.cells #[.int .i64 (p : Int)] 3)
  have r1' := r1.later b2
  have hB := bgo b1 b2
  have hr1 : ((w.alloc (.cells #[pv mb] 25)).alloc (.cells #[.int .i64 (p : Int)] 3)).cell? ⟨w.heap.size, 0, none⟩ = some (pv mb) := r1'.cell 0
  have hr2 : ((w.alloc (.cells #[pv mb] 25)).alloc (.cells #[.int .i64 (p : Int)] 3)).cell? ⟨w.heap.size + 1, 0, none⟩ = some (.int .i64 (p : Int)) := by
    have := r2.cell 0
    rw [show (w.alloc (.cells #[pv mb] 25)).heap.size = w.heap.size + 1 by simp] at this
    exact this
  have hsz : ((w.alloc (.cells #[pv mb] 25)).alloc (.cells #[.int .i64 (p : Int)] 3)).heap.size = w.heap.size + 2 := by simp
  clear r1 r2 b1 b2 r1' h
  unfold pv at *
  go_enter Tryz.func39, Tryz.ntmps39
  go_upto_region 1 with fail
  generalize ((w.alloc (.cells #[.pointer (some ⟨mb, 0, none⟩)] 25)).alloc (.cells #[.int .i64 (p : Int)] 3)) = W2 at *
  have HW : Hid (∀ x, Below W2.heap.size W2 x → x.cell? ⟨w.heap.size, 0, none⟩ = some (.pointer (some ⟨mb, 0, none⟩)) ∧ x.cell? ⟨w.heap.size + 1, 0, none⟩ = some (.int .i64 (p : Int)) ∧ w.heap.size < x.heap.size ∧ w.heap.size + 1 < x.heap.size) := fun x hx => by
    have hz := hx.size
    refine ⟨?_, ?_, by omega, by omega⟩
    · rw [hx.cell (p := ⟨w.heap.size, 0, none⟩) (by show w.heap.size < W2.heap.size; omega)]; exact hr1
    · rw [hx.cell (p := ⟨w.heap.size + 1, 0, none⟩) (by show w.heap.size + 1 < W2.heap.size; omega)]; exact hr2
  go_wp2_with (first | (go_at_call 26; refine (HL.out _ hB).mono ?_; rintro r w3 ⟨rfl, hb3⟩; obtain ⟨x1, x2, x3, x4⟩ := HW.out _ hb3; have hB3 := bgo hB hb3) | (go_at_call 62; refine (HS.out _ _ _ hB3 x1 x2 x3 x4).mono ?_; rintro r w4 ⟨j, rfl, hj, hb4⟩))
  go_ret
  exact ⟨j, rfl, hj, bgo hB3 hb4⟩
set_option maxHeartbeats 400000 in
theorem where_out {ad : Nat → Addr} {mb : Nat} {l : List El} (p : Int) {w : World} (h : MvAt mb l w) (L : Laid ad w) (ho : p < 0 ∨ ((vis l).length : Int) < p) :
    Calls Tryz.prog 17 #[pv mb, .int .i64 p] w fun e w' => ∃ g, e = .returned (.tuple #[.int .i64 0, .int .i64 0, fvL g]) ∧ FaultAt ad g bLines bWhere (place p) 1 w' ∧ Below w.heap.size w w' := by
  have HR := hid_of' (gapRef_out bWhere p h L ho)
  unfold pv at *
  clear L h ho
  go_enter Tryz.func17, Tryz.ntmps17
  go_wp2_with (go_at_call 38; refine HR.out.mono ?_; rintro r w1 ⟨g, rfl, hf, hb1⟩)
  go_ret3
  exact ⟨g, rfl, hf, hb1⟩
set_option maxHeartbeats 400000 in
theorem where_ok {mb : Nat} {l : List El} (p : Nat) {w : World} (h : MvAt mb l w) (hn : l.length ≤ 1000000) (hp : p ≤ (vis l).length) :
    Calls Tryz.prog 17 #[pv mb, .int .i64 (p : Int)] w fun e w' => ∃ j : Nat, e = .returned (.tuple #[.int .i64 (j : Int), .int .i64 ((p - stC (vis l) j : Nat) : Int), .nilIface]) ∧ InL (vis l) j p ∧ Below w.heap.size w w' := by
  have HR := hid_of' (gapRef_ok bWhere p h hp)
  have HO : Hid (∀ x, Below w.heap.size w x → _) := fun x hx => lineOf_ok (h.later hx) p hn hp
  have HE : Hid (∀ (x : World) (j : Nat), Below w.heap.size w x → j ≤ nlC (vis l) → _) := fun x j hx hj => ends_any (h.later hx) j hn hj
  have hvl := vis_le l
  unfold pv at *
  clear h
  go_enter Tryz.func17, Tryz.ntmps17
  go_upto_region 5 with (first | (go_at_call 38; refine HR.out.mono ?_; rintro r w1 ⟨rfl, hb1⟩) | (go_at_call 39; refine (HO.out _ hb1).mono ?_; rintro r w2 ⟨j, rfl, hj, hb2⟩))
  have hB2 := bgo hb1 hb2
  have HE2 := hid_of' (HE.out _ j hB2 hj.1)
  have hw : wrap64 ((p : Int) - (stC (vis l) j : Int)) = ((p - stC (vis l) j : Nat) : Int) := by have := hj.2.1; rw [wrapIs (by omega) (by omega)]; omega
  clear HE HO HR
  go_wp2_with (go_at_call 32; refine HE2.out.mono ?_; rintro r w3 ⟨rfl, hb3⟩)
  go_ret3
  refine ⟨j, ?_, hj, bgo hB2 hb3⟩
  show Ending.returned (.tuple #[.int .i64 (j : Int), .int .i64 (wrap64 ((p : Int) - (stC (vis l) j : Int))), .nilIface]) = _
  rw [hw]
def bPlace : ByteArray := ⟨#[80, 108, 97, 99, 101]⟩
set_option maxHeartbeats 400000 in
theorem place_out {ad : Nat → Addr} {mb : Nat} {l : List El} (line c : Int) {w : World} (h : MvAt mb l w) (L : Laid ad w) (ho : line < 0 ∨ (nlC (vis l) : Int) < line) :
    Calls Tryz.prog 13 #[pv mb, .int .i64 line, .int .i64 c] w fun e w' => ∃ g, e = .returned (.tuple #[.int .i64 0, fvL g]) ∧ FaultAt ad g bLines bPlace (place line) 1 w' ∧ Below w.heap.size w w' := by
  have HR := hid_of' (lineRef_out bPlace line h L ho)
  unfold pv at *
  clear L h ho
  go_enter Tryz.func13, Tryz.ntmps13
  go_wp2_with (go_at_call 31; refine HR.out.mono ?_; rintro r w1 ⟨g, rfl, hf, hb1⟩)
  go_ret2
  exact ⟨g, rfl, hf, hb1⟩
/-- A column cut to a line. -/
def cutC (n : Nat) (c : Int) : Nat := min c.toNat n
set_option maxHeartbeats 400000 in
theorem place_ok {mb : Nat} {l : List El} (j : Nat) (c : Int) {w : World} (h : MvAt mb l w) (hn : l.length ≤ 1000000) (hj : j ≤ nlC (vis l)) :
    Calls Tryz.prog 13 #[pv mb, .int .i64 (j : Int), .int .i64 c] w fun e w' => e = .returned (.tuple #[.int .i64 ((stC (vis l) j + cutC (enC (vis l) j - stC (vis l) j) c : Nat) : Int), .nilIface]) ∧ Below w.heap.size w w' := by
  have HR := hid_of' (lineRef_ok bPlace j h hj)
  have HE : Hid (∀ x, Below w.heap.size w x → _) := fun x hx => ends_any (h.later hx) j hn hj
  obtain ⟨a1, a2⟩ := st_en (vis l) j hj
  have h2 := vis_le l
  unfold pv at *
  clear h hj
  go_enter Tryz.func13, Tryz.ntmps13
  go_upto_region 5 with (first | (go_at_call 31; refine HR.out.mono ?_; rintro r w1 ⟨rfl, hb1⟩) | (go_at_call 32; refine (HE.out _ hb1).mono ?_; rintro r w2 ⟨rfl, hb2⟩))
  go_wp2
  go_ret2
  refine ⟨?_, bgo hb1 hb2⟩
  show Ending.returned (.tuple #[.int .i64 ((stC (vis l) j : Int) + min (max c 0) ((enC (vis l) j : Int) - (stC (vis l) j : Int))), .nilIface]) = _
  rw [show (stC (vis l) j : Int) + min (max c 0) ((enC (vis l) j : Int) - (stC (vis l) j : Int)) = ((stC (vis l) j + cutC (enC (vis l) j - stC (vis l) j) c : Nat) : Int) by unfold cutC; omega]
set_option maxHeartbeats 400000 in
theorem refWhere_ok {w : World} {va : Value} {v : List Int} (hA : SlRR w va (spl v)) (p : Nat) (hp : p ≤ v.length) (hn : v.length ≤ 1000000) :
    Calls Tryz.prog 18 #[va, .int .i64 (p : Int)] w fun r w' => ∃ j : Nat, r = .returned (.tuple #[.int .i64 (j : Int), .int .i64 ((p - stC v j : Nat) : Int)]) ∧ InL v j p ∧ w' = w := by
  obtain ⟨g, c, rfl, hg, hc⟩ := hA
  have hlen := spl_len v
  have hnl := nlC_b v
  replace hlen := hid_of' hlen
  go_enter Tryz.func18, Tryz.ntmps18
  go_wp2
  go_loopw [1, 6] (fun pv_ iv wr => ∃ i : Nat, pv_ = .int .i64 ((p - stC v i : Nat) : Int) ∧ iv = .int .i64 (i : Int) ∧ i ≤ nlC v ∧ stC v i ≤ p ∧ wr = w) (fun _ iv _ => nlC v + 1 - (intOf iv).toNat)
  case atStart => exact ⟨0, rfl, rfl, Nat.zero_le _, Nat.zero_le _, rfl⟩
  case round =>
    obtain ⟨i, rfl, rfl, hi, hs, rfl⟩ := hrel
    obtain ⟨a, k, hcell, _⟩ := hc i _ (tx_at v i hi)
    have q2 : (i : Int) < ((spl v).length : Int) := by rw [hlen.out]; omega
    obtain ⟨s1, s2⟩ := st_en v i hi
    have hl := tx_len v i hi
    by_cases hlt : enC v i < p
    · have hi2 : i < nlC v := by
        rcases Nat.lt_or_ge i (nlC v) with h | h
        · exact h
        · exfalso; have : i = nlC v := by omega
          unfold enC at hlt; rw [if_pos this] at hlt; omega
      have hnx := st_next v i hi2
      have q1 : ((txC v i).length : Int) < ((p - stC v i : Nat) : Int) := by rw [hl]; omega
      have hw2 : Hid (((p - stC v i : Nat) : Int) - ((txC v i).length : Int) - 1 = ((p - stC v (i + 1) : Nat) : Int)) := by show _ = _; omega
      have hle : stC v (i + 1) ≤ p := by omega
      clear hl hnx s1 s2 hlt
      go_wp2
      go_roundw
      case rel => exact ⟨i + 1, by rw [hw2.out], by go_num, by omega, hle, trivial⟩
      case measure => simp [intOf]; omega
    · have q1 : ¬ ((txC v i).length : Int) < ((p - stC v i : Nat) : Int) := by rw [hl]; omega
      clear hl
      go_wp2
      go_ret2
      exact ⟨i, rfl, ⟨hi, hs, by omega⟩, rfl⟩
end Go.Proofs.YtdmiibihibikdaaGreatDoor
namespace Go.Proofs.YtdmiibihibikdaaGreatDoor
open Go.RowKit Go.Extern.Stop Go.Stop Go.Extern
set_option maxRecDepth 100000

theorem u8n (m : Nat) (h : m < 256) : m.toUInt8.toNat = m := by
  rw [Nat.toUInt8_eq, UInt8.toNat_ofNat']
  omega
theorem right_is {c : Int} (h : rightC c = true) : 0 ≤ c ∧ c ≤ 1114111 ∧ (c < 55296 ∨ 57343 < c) := by
  unfold rightC at h
  simp only [Bool.and_eq_true, Bool.or_eq_true, decide_eq_true_eq] at h
  exact ⟨h.1.1, h.1.2, h.2⟩
set_option maxHeartbeats 1000000 in
theorem decode_enc (c : Int) (hr : rightC c = true) (t : List UInt8) : Lib.decodeL (Lib.encodeRune c ++ t) = (c.toNat, (Lib.encodeRune c).length) := by
  obtain ⟨h0, h1, h2⟩ := right_is hr
  obtain ⟨n, rfl⟩ := Int.eq_ofNat_of_zero_le h0
  rw [Lib.decodeL_N]
  unfold Lib.encodeRune
  by_cases k1 : n ≤ 127
  · rw [Lib.encodeRuneZ_one h0 (by omega)]
    have e0 := u8n n (by omega)
    simp only [List.map_cons, List.map_nil, List.cons_append, List.nil_append, List.getD_cons_zero, Int.toNat_natCast, e0, List.length_cons, List.length_nil]
    unfold Lib.decodeN
    rw [if_pos (by omega)]
  · by_cases k2 : n ≤ 2047
    · rw [Lib.encodeRuneZ_two (by omega) (by omega)]
      have f0 : (192 + (n : Int) / 64).toNat = 192 + n / 64 := by omega
      have f1 : (128 + (n : Int) % 64).toNat = 128 + n % 64 := by omega
      have e0 := u8n (192 + n / 64) (by omega)
      have e1 := u8n (128 + n % 64) (by omega)
      simp only [List.map_cons, List.map_nil, List.cons_append, List.nil_append, List.getD_cons_zero, List.getD_cons_succ, Int.toNat_natCast, f0, f1, e0, e1, List.length_cons, List.length_nil]
      unfold Lib.decodeN
      rw [if_neg (by omega), if_pos (by omega), if_pos (by omega)]
      exact Prod.ext (by show _ = n; omega) rfl
    · by_cases k3 : n ≤ 65535
      · rw [Lib.encodeRuneZ_three (by omega)]
        have f0 : (224 + (n : Int) / 4096).toNat = 224 + n / 4096 := by omega
        have f1 : (128 + (n : Int) / 64 % 64).toNat = 128 + n / 64 % 64 := by omega
        have f2 : (128 + (n : Int) % 64).toNat = 128 + n % 64 := by omega
        have e0 := u8n (224 + n / 4096) (by omega)
        have e1 := u8n (128 + n / 64 % 64) (by omega)
        have e2 := u8n (128 + n % 64) (by omega)
        simp only [List.map_cons, List.map_nil, List.cons_append, List.nil_append, List.getD_cons_zero, List.getD_cons_succ, Int.toNat_natCast, f0, f1, f2, e0, e1, e2, List.length_cons, List.length_nil]
        unfold Lib.decodeN
        rw [if_neg (by omega), if_neg (by omega), if_pos (by omega), if_pos (by omega)]
        exact Prod.ext (by show _ = n; omega) rfl
      · rw [Lib.encodeRuneZ_four (by omega) (by omega)]
        have f0 : (240 + (n : Int) / 262144).toNat = 240 + n / 262144 := by omega
        have f1 : (128 + (n : Int) / 4096 % 64).toNat = 128 + n / 4096 % 64 := by omega
        have f2 : (128 + (n : Int) / 64 % 64).toNat = 128 + n / 64 % 64 := by omega
        have f3 : (128 + (n : Int) % 64).toNat = 128 + n % 64 := by omega
        have e0 := u8n (240 + n / 262144) (by omega)
        have e1 := u8n (128 + n / 4096 % 64) (by omega)
        have e2 := u8n (128 + n / 64 % 64) (by omega)
        have e3 := u8n (128 + n % 64) (by omega)
        simp only [List.map_cons, List.map_nil, List.cons_append, List.nil_append, List.getD_cons_zero, List.getD_cons_succ, Int.toNat_natCast, f0, f1, f2, f3, e0, e1, e2, e3, List.length_cons, List.length_nil]
        unfold Lib.decodeN
        rw [if_neg (by omega), if_neg (by omega), if_neg (by omega), if_pos (by omega), if_pos (by omega)]
        exact Prod.ext (by show _ = n; omega) rfl
/-- Is it a letter or a digit? -/
def wrd (c : Int) : Bool := decide (97 ≤ c) && decide (c ≤ 122) || decide (65 ≤ c) && decide (c ≤ 90) || decide (48 ≤ c) && decide (c ≤ 57) || decide (128 ≤ c)
/-- The word at a gap. -/
structure Wd (v : List Int) (p a b : Nat) : Prop where
  lo : a ≤ p
  hi : p ≤ b
  len : b ≤ v.length
  all : ∀ (i : Nat) (c : Int), a ≤ i → i < b → v[i]? = some c → wrd c = true
  left : ∀ (i : Nat) (c : Int), i + 1 = a → v[i]? = some c → wrd c = false
  right : ∀ (c : Int), v[b]? = some c → wrd c = false
theorem Wd.one {v : List Int} {p a b a' b' : Nat} (h : Wd v p a b) (h' : Wd v p a' b') : a = a' ∧ b = b' := by
  have key : ∀ {a b a' b'}, Wd v p a b → Wd v p a' b' → ¬ a < a' ∧ ¬ b < b' := fun {a b a' b'} h h' => by
    have l1 := h.lo; have l2 := h.hi; have l3 := h.len; have m1 := h'.lo; have m2 := h'.hi; have m3 := h'.len
    refine ⟨fun hlt => ?_, fun hlt => ?_⟩
    · obtain ⟨c, hc⟩ : ∃ c, v[a' - 1]? = some c := ⟨_, List.getElem?_eq_getElem (by omega)⟩
      have e1 := h.all (a' - 1) c (by omega) (by omega) hc
      rw [h'.left (a' - 1) c (by omega) hc] at e1
      cases e1
    · obtain ⟨c, hc⟩ : ∃ c, v[b]? = some c := ⟨_, List.getElem?_eq_getElem (by omega)⟩
      have e1 := h'.all b c (by omega) hlt hc
      rw [h.right c hc] at e1
      cases e1
  have k1 := key h h'
  have k2 := key h' h
  exact ⟨by omega, by omega⟩
theorem endC_at : ∀ (v : List Int) (k : Nat), k < nlC v → v[endC v k]? = some 10
  | [], k, h => by simp [nlC] at h
  | c :: v, k, h => by
    rw [nlC_cons] at h
    by_cases hc : c = 10
    · subst hc
      cases k with
      | zero => rw [endC_zero]; rfl
      | succ k => rw [endC_succ, List.getElem?_cons_succ]; exact endC_at v k (by simp at h; omega)
    · rw [endC_other _ _ hc, List.getElem?_cons_succ]
      exact endC_at v k (by simp [hc] at h; omega)
/-- The word in a line is the word in the row. -/
theorem Wd.line {v : List Int} {j p a b : Nat} (hj : InL v j p) (h : Wd (txC v j) (p - stC v j) a b) : Wd v p (stC v j + a) (stC v j + b) := by
  obtain ⟨h1, h2, h3⟩ := hj
  have hl := tx_len v j h1
  have hs := st_en v j h1
  have hat : ∀ (i : Nat) (c : Int), v[stC v j + i]? = some c → i < enC v j - stC v j → (txC v j)[i]? = some c := fun i c hi hlt => by
    unfold txC
    rw [List.getElem?_take, if_pos hlt, List.getElem?_drop]
    exact hi
  have l1 := h.lo; have l2 := h.hi; have l3 := h.len
  refine ⟨by omega, by omega, by omega, fun i c h4 h5 h6 => ?_, fun i c h4 h6 => ?_, fun c h6 => ?_⟩
  · obtain ⟨k, rfl⟩ : ∃ k, i = stC v j + k := ⟨i - stC v j, by omega⟩
    exact h.all k c (by omega) (by omega) (hat k c h6 (by omega))
  · by_cases ha : a = 0
    · subst ha
      cases j with
      | zero => simp [stC] at h4
      | succ k =>
        have e : i = endC v k := by simp only [stC] at h4; omega
        rw [e, endC_at v k (by omega)] at h6
        cases h6
        rfl
    · obtain ⟨k, rfl⟩ : ∃ k, i = stC v j + k := ⟨i - stC v j, by omega⟩
      exact h.left k c (by omega) (hat k c h6 (by omega))
  · by_cases hb : stC v j + b < enC v j
    · exact h.right c (hat b c h6 (by omega))
    · have e : stC v j + b = enC v j := by omega
      rw [e] at h6
      by_cases he : j = nlC v
      · have : enC v j = v.length := by unfold enC; rw [if_pos he]
        rw [this, List.getElem?_eq_none (Nat.le_refl _)] at h6
        cases h6
      · have : enC v j = endC v j := by unfold enC; rw [if_neg he]
        rw [this, endC_at v j (by omega)] at h6
        cases h6
        rfl
end Go.Proofs.YtdmiibihibikdaaGreatDoor
namespace Go.Proofs.YtdmiibihibikdaaGreatDoor
open Go.RowKit Go.Extern.Stop Go.Stop Go.Extern
set_option maxRecDepth 100000

set_option maxHeartbeats 400000 in
theorem isOfWord_any (c : Int) (w : World) : Calls Tryz.prog 70 #[.int .i32 c] w fun r w' => r = .returned (.bool (wrd c)) ∧ w' = w := by
  unfold wrd
  go_enter Tryz.func70, Tryz.ntmps70
  go_wp2
  all_goals go_ret
  all_goals (refine ⟨congrArg (fun b => Ending.returned (Value.bool b)) (Bool.eq_iff_iff.2 ?_), rfl⟩; simp; try omega)
set_option maxHeartbeats 400000 in
theorem refWord_any (c : Int) (w : World) : Calls Tryz.prog 47 #[.int .i32 c] w fun r w' => r = .returned (.bool (wrd c)) ∧ w' = w := by
  unfold wrd
  go_enter Tryz.func47, Tryz.ntmps47
  go_wp2
  all_goals go_ret
  all_goals (refine ⟨congrArg (fun b => Ending.returned (Value.bool b)) (Bool.eq_iff_iff.2 ?_), rfl⟩; simp; try omega)
theorem enc_pos (c : Int) (hr : rightC c = true) : 1 ≤ (Lib.encodeRune c).length := by
  have h := Lib.decodeL_width (Lib.encodeRune c ++ [])
  rw [decode_enc c hr] at h
  exact h
/-- Where a character's bytes begin. -/
def psC (v : List Int) (i : Nat) : Nat := (encL (v.take i)).length
theorem psC_next {v : List Int} {i : Nat} {c : Int} (h : v[i]? = some c) : psC v (i + 1) = psC v i + (Lib.encodeRune c).length := by
  unfold psC; rw [enc_take h, List.length_append]
theorem enc_drop {v : List Int} {i : Nat} {c : Int} (h : v[i]? = some c) : (encL v).drop (psC v i) = Lib.encodeRune c ++ encL (v.drop (i + 1)) := by
  have e : v = v.take i ++ (c :: v.drop (i + 1)) := by
    obtain ⟨hl, he⟩ := List.getElem?_eq_some_iff.1 h
    rw [← he, ← List.drop_eq_getElem_cons hl, List.take_append_drop]
  have e2 : encL v = encL (v.take i) ++ (Lib.encodeRune c ++ encL (v.drop (i + 1))) := by
    rw [← encL_one c, ← encL_app, ← encL_app]
    exact congrArg encL e
  rw [e2]
  unfold psC
  exact List.drop_left
theorem dec_at {v : List Int} {i : Nat} {c : Int} (h : v[i]? = some c) (hr : rightC c = true) : Utf8.decode ⟨(encL v).toArray⟩ (psC v i) = (c.toNat, (Lib.encodeRune c).length) ∧ psC v i < (⟨(encL v).toArray⟩ : ByteArray).size := by
  refine ⟨?_, ?_⟩
  · rw [← Lib.decodeL_drop]
    show Lib.decodeL ((encL v).toArray.toList.drop (psC v i)) = _
    rw [List.toList_toArray, enc_drop h, decode_enc c hr]
  · show psC v i < (encL v).toArray.size
    have h1 := congrArg List.length (enc_drop h)
    have h2 := enc_pos c hr
    rw [List.length_drop, List.length_append] at h1
    simp only [List.size_toArray]
    omega
theorem ps_end (v : List Int) : ¬ psC v v.length < (⟨(encL v).toArray⟩ : ByteArray).size := by
  show ¬ psC v v.length < (encL v).toArray.size
  unfold psC
  rw [List.take_length]
  simp
/-- What a scan knows. -/
structure Sc (t : List Int) (gap f i : Nat) : Prop where
  fi : f ≤ i
  fg : f ≤ gap
  len : i ≤ t.length
  all : ∀ (x : Nat) (c : Int), f ≤ x → x < i → t[x]? = some c → wrd c = true
  left : ∀ (x : Nat) (c : Int), x + 1 = f → t[x]? = some c → wrd c = false
theorem Sc.start (t : List Int) (gap : Nat) : Sc t gap 0 0 := ⟨Nat.le_refl _, Nat.zero_le _, Nat.zero_le _, fun x c h1 h2 => absurd h2 (Nat.not_lt_zero _), fun x c h => by omega⟩
theorem Sc.word {t : List Int} {gap f i : Nat} {c : Int} (h : Sc t gap f i) (hc : t[i]? = some c) (hw : wrd c = true) : Sc t gap f (i + 1) := by
  have hl := (List.getElem?_eq_some_iff.1 hc).1
  have := h.fi
  refine ⟨by omega, h.fg, by omega, fun x d h1 h2 h3 => ?_, h.left⟩
  by_cases e : x = i
  · subst e; rw [hc] at h3; cases h3; exact hw
  · exact h.all x d h1 (by omega) h3
theorem Sc.other {t : List Int} {gap f i : Nat} {c : Int} (h : Sc t gap f i) (hc : t[i]? = some c) (hw : wrd c = false) (hg : i < gap) : Sc t gap (i + 1) (i + 1) := by
  have hl := (List.getElem?_eq_some_iff.1 hc).1
  refine ⟨by omega, by omega, by omega, fun x d h1 h2 => by omega, fun x d h1 h3 => ?_⟩
  obtain rfl : x = i := by omega
  rw [hc] at h3; cases h3; exact hw
theorem Sc.stop {t : List Int} {gap f i : Nat} {c : Int} (h : Sc t gap f i) (hc : t[i]? = some c) (hw : wrd c = false) (hg : gap ≤ i) : Wd t gap f i :=
  ⟨h.fg, hg, h.len, h.all, h.left, fun d hd => by rw [hc] at hd; cases hd; exact hw⟩
theorem Sc.fin {t : List Int} {gap f : Nat} (h : Sc t gap f t.length) (hg : gap ≤ t.length) : Wd t gap f t.length :=
  ⟨h.fg, hg, h.len, h.all, h.left, fun d hd => by rw [List.getElem?_eq_none (Nat.le_refl _)] at hd; cases hd⟩
set_option maxHeartbeats 1000000 in
theorem wordAt_ok (t : List Int) (gap : Nat) (w : World) (hg : gap ≤ t.length) (hn : t.length ≤ 1000000) (hr : ∀ (i : Nat) (c : Int), t[i]? = some c → rightC c = true) :
    Calls Tryz.prog 46 #[.string ⟨(encL t).toArray⟩, .int .i64 (gap : Int)] w fun r w' => ∃ a b : Nat, r = .returned (.tuple #[.int .i64 (a : Int), .int .i64 (b : Int)]) ∧ Wd t gap a b ∧ Below w.heap.size w w' := by
  have HW := hid_of' isOfWord_any
  obtain ⟨s, hs⟩ : ∃ s : ByteArray, s = ⟨(encL t).toArray⟩ := ⟨_, rfl⟩
  have HD : Hid (∀ (i : Nat) (c : Int), t[i]? = some c → Utf8.decode s (psC t i) = (c.toNat, (Lib.encodeRune c).length) ∧ psC t i < s.size) := fun i c h => by rw [hs]; exact dec_at h (hr i c h)
  have HE : Hid (¬ psC t t.length < s.size) := by rw [hs]; exact ps_end t
  rw [← hs]
  clear hs
  go_enter Tryz.func46, Tryz.ntmps46
  go_wp2
  go_loopw [4, 5] (fun a b wr => ∃ f i : Nat, a = .int .i64 (f : Int) ∧ b = .int .i64 (i : Int) ∧ Sc t gap f i ∧ wr.heap[w.heap.size]? = some (.stringIter s (psC t i)) ∧ Below w.heap.size w wr) (fun _ b _ => t.length - (intOf b).toNat)
  case atStart => exact ⟨0, 0, rfl, rfl, Sc.start t gap, World.iter_heap w s 0, (Below.refl _ _).alloc (Nat.le_refl _) _⟩
  case round =>
    obtain ⟨f, i, rfl, rfl, hS, hit, hB⟩ := hrel
    have hle := hS.len
    by_cases hlt : i < t.length
    · obtain ⟨c, hc⟩ : ∃ c, t[i]? = some c := ⟨_, List.getElem?_eq_getElem hlt⟩
      obtain ⟨hd, hp⟩ := HD.out i c hc
      have hr0 := (right_is (hr i c hc)).1
      have hnx : ∀ ty, (Instr.next (.pointer (some ⟨w.heap.size, 0, none⟩)) true ty).run Tryz.prog wr = _ := fun ty => Lib.run_next_any_at wr w.heap.size s (psC t i) ty hit hp
      have hit2 := Lib.iterAt_heap wr w.heap.size s (psC t i) (psC t i + (Utf8.decode s (psC t i)).2) hit
      have hB2 := Lib.below_iterAt hB (k := w.heap.size) (Nat.le_refl _) s (psC t i + (Utf8.decode s (psC t i)).2)
      obtain ⟨W1, hW1⟩ : ∃ W1, W1 = wr.iterAt w.heap.size s (psC t i + (Utf8.decode s (psC t i)).2) := ⟨_, rfl⟩
      rw [← hW1] at hnx hit2 hB2
      rw [hd, ← psC_next hc] at hit2
      have hcc : ((Utf8.decode s (psC t i)).1 : Int) = c := by rw [hd]; show ((c.toNat : Nat) : Int) = c; omega
      rw [hcc] at hnx
      have HC := hid_of' (HW.out c)
      clear hW1 hit hB hd hp hcc hr0
      cases hw : wrd c with
      | true =>
        rw [hw] at HC
        have HS2 := hid_of' (hS.word hc hw)
        clear hS hw
        go_wp2_with (go_at_call 70; refine (HC.out _).mono ?_; rintro r w2 ⟨rfl, hw2⟩; obtain rfl := hw2.symm)
        go_roundw
        case rel => exact ⟨f, i + 1, rfl, by go_num, HS2.out, hit2, hB2⟩
        case measure => simp [intOf]; omega
      | false =>
        rw [hw] at HC
        by_cases hgi : gap ≤ i
        · have g1 : (gap : Int) ≤ (i : Int) := by omega
          have HS2 := hid_of' (hS.stop hc hw hgi)
          clear hS hw
          go_wp2_with (go_at_call 70; refine (HC.out _).mono ?_; rintro r w2 ⟨rfl, hw2⟩; obtain rfl := hw2.symm)
          go_ret2
          exact ⟨f, i, rfl, HS2.out, hB2⟩
        · have HS2 := hid_of' (hS.other hc hw (by omega))
          have g1 : ¬ (gap : Int) ≤ (i : Int) := by omega
          clear hS hw
          go_wp2_with (go_at_call 70; refine (HC.out _).mono ?_; rintro r w2 ⟨rfl, hw2⟩; obtain rfl := hw2.symm)
          go_roundw
          case rel => exact ⟨i + 1, i + 1, by go_num, by go_num, HS2.out, hit2, hB2⟩
          case measure => simp [intOf]; omega
    · obtain rfl : i = t.length := by omega
      have hnx : ∀ ty, (Instr.next (.pointer (some ⟨w.heap.size, 0, none⟩)) true ty).run Tryz.prog wr = _ := fun ty => Lib.run_next_end_at wr w.heap.size s (psC t t.length) ty hit HE.out
      have HS2 := hid_of' (hS.fin hg)
      clear hS
      go_wp2
      go_ret2
      exact ⟨f, t.length, rfl, HS2.out, hB⟩
/-- What the way to the left knows. -/
structure Lf (v : List Int) (p f : Nat) : Prop where
  le : f ≤ p
  all : ∀ (i : Nat) (c : Int), f ≤ i → i < p → v[i]? = some c → wrd c = true
theorem Lf.next {v : List Int} {p f : Nat} {c : Int} (h : Lf v p (f + 1)) (hc : v[f]? = some c) (hw : wrd c = true) : Lf v p f := by
  refine ⟨by have := h.le; omega, fun i d h1 h2 h3 => ?_⟩
  by_cases e : i = f
  · subst e; rw [hc] at h3; cases h3; exact hw
  · exact h.all i d (by omega) h2 h3
/-- .. and to the right. -/
structure Rt (v : List Int) (p b : Nat) : Prop where
  le : p ≤ b
  len : b ≤ v.length
  all : ∀ (i : Nat) (c : Int), p ≤ i → i < b → v[i]? = some c → wrd c = true
theorem Rt.next {v : List Int} {p b : Nat} {c : Int} (h : Rt v p b) (hc : v[b]? = some c) (hw : wrd c = true) : Rt v p (b + 1) := by
  have hl := (List.getElem?_eq_some_iff.1 hc).1
  refine ⟨by have := h.le; omega, by omega, fun i d h1 h2 h3 => ?_⟩
  by_cases e : i = b
  · subst e; rw [hc] at h3; cases h3; exact hw
  · exact h.all i d h1 (by omega) h3
theorem wd_of {v : List Int} {p a b : Nat} (hl : Lf v p a) (h1 : ∀ (i : Nat) (c : Int), i + 1 = a → v[i]? = some c → wrd c = false) (hr : Rt v p b) (h2 : ∀ (c : Int), v[b]? = some c → wrd c = false) : Wd v p a b :=
  ⟨hl.le, hr.le, hr.len, fun i c g1 g2 g3 => if h : i < p then hl.all i c g1 h g3 else hr.all i c (by omega) g2 g3, h1, h2⟩
theorem stop_at {v : List Int} {f : Nat} {c : Int} (hc : v[f]? = some c) (hw : wrd c = false) : ∀ (i : Nat) (d : Int), i + 1 = f + 1 → v[i]? = some d → wrd d = false := fun i d h h3 => by
  obtain rfl : i = f := by omega
  rw [hc] at h3; cases h3; exact hw
set_option maxHeartbeats 1000000 in
theorem refAround_ok {w : World} {u : Value} {v : List Int} (hA : SlR w u v) (p : Nat) (hp : p ≤ v.length) (hn : v.length ≤ 1000000) :
    Calls Tryz.prog 23 #[u, .int .i64 (p : Int)] w fun r w' => ∃ a b : Nat, r = .returned (.tuple #[.int .i64 (a : Int), .int .i64 (b : Int)]) ∧ Wd v p a b ∧ w' = w := by
  obtain ⟨a1, c1, rfl⟩ := hA.form
  have HW := hid_of' refWord_any
  go_enter Tryz.func23, Tryz.ntmps23
  go_wp2
  go_loopw [6] (fun a wr => ∃ (F : Int) (f : Nat), a = .int .i64 F ∧ F = (f : Int) ∧ Lf v p f ∧ wr = w) (fun a _ => (intOf a).toNat)
  case atStart => exact ⟨_, p, rfl, rfl, ⟨Nat.le_refl _, fun i c h1 h2 => by omega⟩, rfl⟩
  case round =>
    obtain ⟨F, f, rfl, hFf, hF, hwr⟩ := hrel
    subst hwr
    cases f with
    | zero =>
      obtain rfl : F = 0 := hFf
      have HL := hid_of' (And.intro hF (show ∀ (i : Nat) (c : Int), i + 1 = 0 → v[i]? = some c → wrd c = false from fun i c h => by omega))
      clear hF
      go_wp2
      go_loopw [7] (fun b w5 => ∃ k : Nat, b = .int .i64 (k : Int) ∧ Rt v p k ∧ w5 = wr) (fun b _ => v.length - (intOf b).toNat)
      case atStart => exact ⟨p, rfl, ⟨Nat.le_refl _, hp, fun i c h1 h2 => by omega⟩, rfl⟩
      case round =>
        obtain ⟨k, rfl, hR, hw5⟩ := hrel
        subst hw5
        have hkl := hR.len
        by_cases hlt : k < v.length
        · have r1 : (k : Int) < (v.length : Int) := by omega
          obtain ⟨c, hc⟩ : ∃ c, v[k]? = some c := ⟨_, List.getElem?_eq_getElem hlt⟩
          obtain ⟨g, o_, cc, hv, hcell⟩ := hA.at (Below.refl _ _) hc
          simp only [Value.slice.injEq] at hv
          obtain ⟨rfl, _, rfl⟩ := hv
          have HC := hid_of' (HW.out c)
          cases hw : wrd c with
          | true =>
            rw [hw] at HC
            have HR := hid_of' (hR.next hc hw)
            clear hR hw
            go_wp2_with (go_at_call 47; refine (HC.out _).mono ?_; rintro r w2 ⟨rfl, hw2⟩; obtain rfl := hw2.symm)
            go_roundw
            case rel => exact ⟨k + 1, by go_num, HR.out, trivial⟩
            case measure => simp [intOf]; omega
          | false =>
            rw [hw] at HC
            have HR := hid_of' (wd_of HL.out.1 HL.out.2 hR (fun d hd => by rw [hc] at hd; cases hd; exact hw))
            clear hR hw
            go_wp2_with (go_at_call 47; refine (HC.out _).mono ?_; rintro r w2 ⟨rfl, hw2⟩; obtain rfl := hw2.symm)
            go_ret2
            exact ⟨0, k, rfl, HR.out, rfl⟩
        · obtain rfl : k = v.length := by omega
          have HR := hid_of' (wd_of HL.out.1 HL.out.2 hR (fun d hd => by rw [List.getElem?_eq_none (Nat.le_refl _)] at hd; cases hd))
          clear hR
          go_wp2
          go_ret2
          exact ⟨0, v.length, rfl, HR.out, rfl⟩
    | succ f =>
      obtain rfl : F = (f : Int) + 1 := hFf
      have hfp := hF.le
      have r0 : (0 : Int) < (f : Int) + 1 := by omega
      have r1 : (f : Int) < (v.length : Int) := by omega
      obtain ⟨c, hc⟩ : ∃ c, v[f]? = some c := ⟨_, List.getElem?_eq_getElem (by omega)⟩
      obtain ⟨g, o_, cc, hv, hcell⟩ := hA.at (Below.refl _ _) hc
      simp only [Value.slice.injEq] at hv
      obtain ⟨rfl, _, rfl⟩ := hv
      have HC := hid_of' (HW.out c)
      cases hw : wrd c with
      | true =>
        rw [hw] at HC
        have HL := hid_of' (hF.next hc hw)
        clear hF hw
        go_wp2_with (go_at_call 47; refine (HC.out _).mono ?_; rintro r w2 ⟨rfl, hw2⟩; obtain rfl := hw2.symm)
        go_roundw
        case rel => exact ⟨(f : Int), f, by go_num, rfl, HL.out, trivial⟩
        case measure => simp [intOf]
      | false =>
        rw [hw] at HC
        have HL := hid_of' (And.intro hF (stop_at hc hw))
        clear hF hw
        go_wp2_with (go_at_call 47; refine (HC.out _).mono ?_; rintro r w2 ⟨rfl, hw2⟩; obtain rfl := hw2.symm)
        clear r1 hcell hc
        go_loopw [7] (fun b w5 => ∃ k : Nat, b = .int .i64 (k : Int) ∧ Rt v p k ∧ w5 = wr) (fun b _ => v.length - (intOf b).toNat)
        case atStart => exact ⟨p, rfl, ⟨Nat.le_refl _, hp, fun i c h1 h2 => by omega⟩, rfl⟩
        case round =>
          obtain ⟨k, rfl, hR, hw5⟩ := hrel
          subst hw5
          have hkl := hR.len
          by_cases hlt : k < v.length
          · have r1 : (k : Int) < (v.length : Int) := by omega
            obtain ⟨c, hc⟩ : ∃ c, v[k]? = some c := ⟨_, List.getElem?_eq_getElem hlt⟩
            obtain ⟨g2, o2, cc2, hv, hcell⟩ := hA.at (Below.refl _ _) hc
            simp only [Value.slice.injEq, Option.some.injEq, Addr.mk.injEq] at hv
            obtain ⟨⟨rfl, rfl, _⟩, _, rfl⟩ := hv
            have HC := hid_of' (HW.out c)
            cases hw : wrd c with
            | true =>
              rw [hw] at HC
              have HR := hid_of' (hR.next hc hw)
              clear hR hw
              go_wp2_with (go_at_call 47; refine (HC.out _).mono ?_; rintro r w2 ⟨rfl, hw2⟩; obtain rfl := hw2.symm)
              go_roundw
              case rel => exact ⟨k + 1, by go_num, HR.out, trivial⟩
              case measure => simp [intOf]; omega
            | false =>
              rw [hw] at HC
              have HR := hid_of' (wd_of HL.out.1 HL.out.2 hR (fun d hd => by rw [hc] at hd; cases hd; exact hw))
              clear hR hw
              go_wp2_with (go_at_call 47; refine (HC.out _).mono ?_; rintro r w2 ⟨rfl, hw2⟩; obtain rfl := hw2.symm)
              go_ret2
              exact ⟨f + 1, k, rfl, HR.out, rfl⟩
          · obtain rfl : k = v.length := by omega
            have HR := hid_of' (wd_of HL.out.1 HL.out.2 hR (fun d hd => by rw [List.getElem?_eq_none (Nat.le_refl _)] at hd; cases hd))
            clear hR
            go_wp2
            go_ret2
            exact ⟨f + 1, v.length, rfl, HR.out, rfl⟩
def bAround : ByteArray := ⟨#[65, 114, 111, 117, 110, 100]⟩
set_option maxHeartbeats 400000 in
theorem around_out {ad : Nat → Addr} {mb : Nat} {l : List El} (p : Int) {w : World} (h : MvAt mb l w) (L : Laid ad w) (ho : p < 0 ∨ ((vis l).length : Int) < p) :
    Calls Tryz.prog 22 #[pv mb, .int .i64 p] w fun e w' => ∃ g, e = .returned (.tuple #[.int .i64 0, .int .i64 0, fvL g]) ∧ FaultAt ad g bLines bAround (place p) 1 w' ∧ Below w.heap.size w w' := by
  have HR := hid_of' (gapRef_out bAround p h L ho)
  unfold pv at *
  clear L h ho
  go_enter Tryz.func22, Tryz.ntmps22
  go_wp2_with (go_at_call 38; refine HR.out.mono ?_; rintro r w1 ⟨g, rfl, hf, hb1⟩)
  go_ret3
  exact ⟨g, rfl, hf, hb1⟩
set_option maxHeartbeats 400000 in
theorem around_ok {ad : Nat → Addr} {mb : Nat} {l : List El} (p : Nat) {w : World} (h : MvAt mb l w) (L : Laid ad w) (hn : l.length ≤ 1000000) (hp : p ≤ (vis l).length) (hc : Ch32 l) (hr : ∀ (i : Nat) (c : Int), (vis l)[i]? = some c → rightC c = true) :
    Calls Tryz.prog 22 #[pv mb, .int .i64 (p : Int)] w fun e w' => ∃ a b : Nat, e = .returned (.tuple #[.int .i64 (a : Int), .int .i64 (b : Int), .nilIface]) ∧ Wd (vis l) p a b ∧ Below w.heap.size w w' := by
  have HR := hid_of' (gapRef_ok bAround p h hp)
  have HO : Hid (∀ x, Below w.heap.size w x → _) := fun x hx => lineOf_ok (h.later hx) p hn hp
  have HE : Hid (∀ (x : World) (j : Nat), Below w.heap.size w x → j ≤ nlC (vis l) → _) := fun x j hx hj => ends_any (h.later hx) j hn hj
  have HT : Hid (∀ (x : World) (j : Nat), Below w.heap.size w x → j ≤ nlC (vis l) → _) := fun x j hx hj => textOf_any (h.later hx) (L.below hx) j hn hj hc
  have hvl := vis_le l
  unfold pv at *
  clear h L
  go_enter Tryz.func22, Tryz.ntmps22
  go_upto_region 5 with (first | (go_at_call 38; refine HR.out.mono ?_; rintro r w1 ⟨rfl, hb1⟩) | (go_at_call 39; refine (HO.out _ hb1).mono ?_; rintro r w2 ⟨j, rfl, hj, hb2⟩))
  have hB2 := bgo hb1 hb2
  have HE2 := hid_of' (HE.out _ j hB2 hj.1)
  have HT2 : Hid (∀ x, Below w.heap.size w x → _) := fun x hx => HT.out x j hx hj.1
  have hse := st_en (vis l) j hj.1
  have htl := tx_len (vis l) j hj.1
  have hj1 := hj.2.1
  have hj2 := hj.2.2
  have hrt : ∀ (i : Nat) (c : Int), (txC (vis l) j)[i]? = some c → rightC c = true := fun i c hi => by
    unfold txC at hi
    rw [List.getElem?_take] at hi
    split at hi
    · rw [List.getElem?_drop] at hi; exact hr _ c hi
    · cases hi
  have HA : Hid (∀ x, _) := fun x => wordAt_ok (txC (vis l) j) (p - stC (vis l) j) x (by omega) (by omega) hrt
  have hw : wrap64 ((p : Int) - (stC (vis l) j : Int)) = ((p - stC (vis l) j : Nat) : Int) := by rw [wrapIs (by omega) (by omega)]; omega
  clear HE HO HR HT hrt hr hc
  go_upto_region 6 with (go_at_call 32; refine HE2.out.mono ?_; rintro r w3 ⟨rfl, hb3⟩)
  have hB3 := bgo hB2 hb3
  have HJ := hid_of' hj
  clear hj hj1 hj2 hse htl hB2 hb3 HE2
  go_upto_region 7 with (first | (go_at_call 45; refine (HT2.out _ hB3).mono ?_; rintro r w4 ⟨rfl, hb4⟩; have hB4 := bgo hB3 hb4) | (go_at_call 46; rw [hw]; refine (HA.out _).mono ?_; rintro r w5 ⟨a, b, rfl, hwd, hb5⟩))
  have hwl := Wd.line HJ.out hwd
  have k1 := hwl.lo
  have k2 := hwl.hi
  have k3 := hwl.len
  have hs1 : wrap64 ((stC (vis l) j : Int) + (a : Int)) = (stC (vis l) j : Int) + (a : Int) := wrapIs (by omega) (by omega)
  have hs2 : wrap64 ((stC (vis l) j : Int) + (b : Int)) = (stC (vis l) j : Int) + (b : Int) := wrapIs (by omega) (by omega)
  clear k1 k2 k3
  go_wp2
  go_ret3
  refine ⟨stC (vis l) j + a, stC (vis l) j + b, ?_, hwl, bgo hB4 hb5⟩
  first | rfl | (show Ending.returned (.tuple #[.int .i64 (wrap64 ((stC (vis l) j : Int) + (a : Int))), .int .i64 (wrap64 ((stC (vis l) j : Int) + (b : Int))), .nilIface]) = _; rw [hs1, hs2]; rfl)
end Go.Proofs.YtdmiibihibikdaaGreatDoor
namespace Go.Proofs.YtdmiibihibikdaaGreatDoor
open Go.RowKit Go.Extern.Stop Go.Stop Go.Extern
set_option maxRecDepth 100000

set_option maxHeartbeats 4000000 in
theorem linesWords_all {ad : Nat → Addr} {W : World} {v0 v1 v2 : Value} {cs : List Int} {hs : List Bool} {ks : List Int} (L : Laid ad W) (h0 : SlR W v0 cs) (h1 : SlB W v1 hs) (h2 : SlI W v2 ks) :
    Calls Tryz.prog 6 #[v0, v1, v2] W fun r w' => r = .returned (.bool true) ∧ Below W.heap.size W w' := by
  have HBg := hid_of' (begun_ok h0 h1)
  obtain ⟨a0, c0, rfl⟩ := h0.form
  obtain ⟨a1, c1, rfl⟩ := h1.form
  obtain ⟨a2, c2, rfl⟩ := h2.form
  have hall := bgE_all (cs := cs) (hs := hs) (bgN cs)
  have hN : bgN cs ≤ 150 := by unfold bgN; omega
  have hgd := bgE_good cs hs (bgN cs) (by omega)
  have hvr := vis_right (fun i e h => (hall.2 i e h).2.2.2.2.1)
  have hln : (bgE cs hs (bgN cs)).length ≤ 150 := by omega
  have hch := hgd.2.2
  clear hall hgd hN
  generalize bgE cs hs (bgN cs) = l at *
  have hvl := vis_le l
  have HW : Hid (∀ x : World, Laid ad x → _) := fun x L => wakes6_ok x L
  have LL := hid_of' L
  clear L h0 h1
  unfold pv at HBg
  go_enter Tryz.func6, Tryz.ntmps6
  go_upto_region 2 with (go_at_call 8; refine HBg.out.mono ?_; rintro r w1 ⟨mb, vs, rfl, hM1, hR1, hb1⟩)
  obtain ⟨as_, cs_, hvs⟩ := hR1.form
  subst hvs
  go_wp2
  go_loopw [9] (fun i wr => ∃ k : Nat, i = .int .i64 (k : Int) ∧ k ≤ min ks.length 100 ∧ Below w1.heap.size w1 wr) (fun i _ => 100 - (intOf i).toNat)
  case atStart => exact ⟨0, rfl, Nat.zero_le _, Below.refl _ _⟩
  case round =>
    obtain ⟨k, rfl, hk, hBr⟩ := hrel
    have hB := bgo hb1 hBr
    have hM := hM1.later hBr
    have hR := hR1.later hBr
    clear hM1 hR1
    by_cases hlt : k < min ks.length 100
    · have q1 : (k : Int) < (ks.length : Int) := by omega
      have q2 : (k : Int) < 100 := by omega
      obtain ⟨c, hc⟩ : ∃ c, ks[k]? = some c := ⟨_, List.getElem?_eq_getElem (by omega)⟩
      obtain ⟨g, o_, cc, hv, hcell⟩ := h2.at hB hc
      simp only [Value.slice.injEq] at hv
      obtain ⟨rfl, _, rfl⟩ := hv
      clear h2 hc
      by_cases b1 : c < 0
      · have hoB : c < 0 ∨ ((vis l).length : Int) < c := .inl b1
        have HA := hid_of' (around_out c hM (LL.out.below hB) hoB)
        have HN := hid_of' (no6_true bAround c)
        have HR : Hid (∀ (b g g' : Nat) (y : World), Below wr.heap.size wr y → _) := fun b g g' y hy => @refL_some ad b g g' bAround (place c) y (LL.out.below (bgo hB hy))
        clear hoB
        unfold pv at HA
        go_wp2_with (first | (go_at_call 22; with_reducible refine HA.out.mono ?_; clear HA; rintro r w6 ⟨g6, rfl, f6, hb6⟩) | (go_at_call 16; refine (HN.out _).mono ?_; clear HN; rintro r w7 ⟨g7, h7, rfl, k7, m7, hb7⟩; have hB7 := bgo hb6 hb7; replace f6 : FaultAt ad g6 bLines bAround (place c) 1 w7 := RowAt.later f6 hb7) | (go_at_call 15; with_reducible refine (HR.out _ _ _ _ hB7 f6 k7 m7).mono ?_; rintro r w8 ⟨rfl, hb8⟩))
        have hBe := bgo hB7 hb8
        go_roundw
        case rel => exact ⟨k + 1, by go_num, by omega, bgo hBr hBe⟩
        case measure => simp [intOf]; omega
      · obtain ⟨p, rfl⟩ : ∃ p : Nat, c = p := ⟨c.toNat, by omega⟩
        by_cases hcl : (p : Int) ≤ ((vis l).length : Int)
        · clear b1
          have b2 : ¬ (vis l).length < p := by omega
          have b3 : decide ((p : Int) < 0) = false := decide_eq_false (by omega)
          have HA := hid_of' (around_ok p hM (LL.out.below hB) (by omega) (by omega) hch hvr)
          have HRW : Hid (∀ y, Below wr.heap.size wr y → _) := fun y hy => refAround_ok (hR.later hy) p (by omega) (by omega)
          have HN := hid_of' (no6_false bAround (p : Int))
          have R2 : Hid (∀ y, Calls Tryz.prog 15 #[.nilIface, .agg (nov 0 none 0 0 none 0 0)] y fun e w' => e = .returned (.bool true) ∧ Below y.heap.size y w') := fun y => refused_none none none 0 0 0 0 y
          unfold pv at HA
          go_wp2_with (first | (go_at_call 22; with_reducible refine HA.out.mono ?_; clear HA; rintro r w6 ⟨a6, b6, rfl, i6, hb6⟩) | (go_at_call 23; with_reducible refine (HRW.out _ hb6).mono ?_; rintro r w7 ⟨a7, b7, rfl, i7, hw7⟩; obtain rfl := hw7.symm; obtain ⟨rfl, rfl⟩ := i6.one i7) | (go_at_call 16; refine (HN.out _).mono ?_; clear HN; rintro r w7 ⟨rfl, hb7⟩; have hB7 := bgo hb6 hb7) | (go_at_call 15; with_reducible refine (R2.out _).mono ?_; rintro r w8 ⟨rfl, hb8⟩))
          have hBe := bgo hB7 hb8
          go_roundw
          case rel => exact ⟨k + 1, by go_num, by omega, bgo hBr hBe⟩
          case measure => simp [intOf]; omega
        · have b2 : (vis l).length < p := by omega
          have b3 : decide ((p : Int) < 0) = false := decide_eq_false b1
          have hoB : (p : Int) < 0 ∨ ((vis l).length : Int) < (p : Int) := .inr (by omega)
          clear b1 hcl
          have HA := hid_of' (around_out (p : Int) hM (LL.out.below hB) hoB)
          have HN := hid_of' (no6_true bAround (p : Int))
          have HR : Hid (∀ (b g g' : Nat) (y : World), Below wr.heap.size wr y → _) := fun b g g' y hy => @refL_some ad b g g' bAround (place (p : Int)) y (LL.out.below (bgo hB hy))
          clear hoB
          unfold pv at HA
          go_wp2_with (first | (go_at_call 22; with_reducible refine HA.out.mono ?_; clear HA; rintro r w6 ⟨g6, rfl, f6, hb6⟩) | (go_at_call 16; refine (HN.out _).mono ?_; clear HN; rintro r w7 ⟨g7, h7, rfl, k7, m7, hb7⟩; have hB7 := bgo hb6 hb7; replace f6 : FaultAt ad g6 bLines bAround (place (p : Int)) 1 w7 := RowAt.later f6 hb7) | (go_at_call 15; with_reducible refine (HR.out _ _ _ _ hB7 f6 k7 m7).mono ?_; rintro r w8 ⟨rfl, hb8⟩))
          have hBe := bgo hB7 hb8
          go_roundw
          case rel => exact ⟨k + 1, by go_num, by omega, bgo hBr hBe⟩
          case measure => simp [intOf]; omega
    · by_cases q1 : (k : Int) < (ks.length : Int)
      · have q2 : ¬ (k : Int) < 100 := by omega
        have HW' := hid_of' (HW.out _ (LL.out.below hB))
        go_wp2_with (go_at_call 12; with_reducible refine HW'.out.mono ?_; rintro r w6 ⟨rfl, hb6⟩)
        go_ret
        exact ⟨rfl, bgo hB hb6⟩
      · have HW' := hid_of' (HW.out _ (LL.out.below hB))
        go_wp2_with (go_at_call 12; with_reducible refine HW'.out.mono ?_; rintro r w6 ⟨rfl, hb6⟩)
        go_ret
        exact ⟨rfl, bgo hB hb6⟩
end Go.Proofs.YtdmiibihibikdaaGreatDoor
