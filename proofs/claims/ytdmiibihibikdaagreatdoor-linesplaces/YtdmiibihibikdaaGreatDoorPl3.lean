/-
  barrowlaw06.no and line. Lists of runes, of yes and no and of numbers that came in; barrowlaw06.LinesExact. Package lines: lineOf (by sort.Search), Where and Place; barrowref05.Where. Spots that came in; barrowlaw06.LinesPlaces.
-/
import Derived.Test.YtdmiibihibikdaaGreatDoorLn5
import Derived.Deep.Slices
import Derived.RowKit
import Derived.ProofKit
import Derived.OpenShut
namespace Go.Proofs.YtdmiibihibikdaaGreatDoor
open Go.RowKit Go.Extern.Stop Go.Stop Go.Extern
set_option maxRecDepth 100000

theorem results_No {fn : Func} {p : Tmp} {tmps : Array Value} {w : World} {g : Nat} {code : Int} {a a' : Option Addr} {n c n' c' : Nat} (h : fn.results = #[.cell p 45]) (hp : tmps.getD p undef = .pointer (some ⟨g, 0, none⟩)) (hg : RowAt g (nov code a n c a' n' c') 45 w) :
    (results fn tmps).run Tryz.prog w = .ok (.agg (nov code a n c a' n' c')) w := by
  have hp' : tmps[p]?.getD undef = .pointer (some ⟨g, 0, none⟩) := by simpa using hp
  simp [results, h, hp', asAddr, run_loadVar_row w g _ _ _ _ _ hg Tryz.underlying45 rfl no_size]
set_option maxHeartbeats 400000 in
theorem no6_false (s : ByteArray) (i : Int) (w : World) : Calls Tryz.prog 16 #[.string s, .int .i64 i, .bool false] w fun r w' => r = .returned (.agg (nov 0 none 0 0 none 0 0)) ∧ Below w.heap.size w w' := by
  go_enter Tryz.func16, Tryz.ntmps16
  go_wp2_with (refine wpL_storeNo rfl _ _ rfl rfl rfl (row_new w _ _) ?_)
  exact bodyPost_ret (v := .agg (nov 0 none 0 0 none 0 0)) (results_No (fn := Tryz.f16) (p := 6) rfl rfl ((row_new w _ _).put _)) rfl ⟨rfl, below_row (below_one w _) (Nat.le_refl _) _⟩
set_option maxHeartbeats 400000 in
theorem no6_true (ca : ByteArray) (i : Int) (w : World) : Calls Tryz.prog 16 #[.string ca, .int .i64 i, .bool true] w fun r w' => ∃ g g', r = .returned (.agg (nov 2 (some ⟨g', 0, none⟩) 1 1 (some ⟨g, 0, none⟩) 1 1)) ∧ CsIn g' 0 #[.string bLines, .string ca, .int .i64 (place i)] w' ∧ CsIn g 0 #[.int .i64 2] w' ∧ Below w.heap.size w w' := by
  have HS := hid_of' (say_any bLines ca i 2 (w.alloc (.cells #[.int .i64 0, .slice none 0 0, .slice none 0 0] 45)) (by decide))
  have hb0 := below_one w (.cells #[.int .i64 0, .slice none 0 0, .slice none 0 0] 45)
  go_enter Tryz.func16, Tryz.ntmps16
  go_wp2_with (first | (go_at_call 30; refine HS.out.mono ?_; rintro r w1 ⟨g, g', rfl, hg', hg, k1, k2, hb1⟩) | (refine wpL_storeNo rfl _ _ rfl rfl rfl ((row_new w _ _).later hb1) ?_))
  have n1 : ¬ g' = w.heap.size := by simp at hg'; omega
  have n2 : ¬ g = w.heap.size := by simp at hg; omega
  exact bodyPost_ret (v := .agg (nov 2 (some ⟨g', 0, none⟩) 1 1 (some ⟨g, 0, none⟩) 1 1)) (results_No (fn := Tryz.f16) (p := 6) rfl rfl (((row_new w _ _).later hb1).put _)) rfl ⟨g, g', rfl, k1.other _ _ n1, k2.other _ _ n2, below_row (bgo hb0 hb1) (Nat.le_refl _) _⟩
/-- Refused of a refusal that is due. -/
theorem refL_some {ad : Nat → Addr} {b g g' : Nat} {ca : ByteArray} {at_ : Int} {x : World} (L : Laid ad x) (h1 : FaultAt ad b bLines ca at_ 1 x) (h2 : CsIn g' 0 #[.string bLines, .string ca, .int .i64 at_] x) (h3 : CsIn g 0 #[.int .i64 2] x) :
    Calls Tryz.prog 15 #[fvL b, .agg (nov 2 (some ⟨g', 0, none⟩) 1 1 (some ⟨g, 0, none⟩) 1 1)] x fun e w' => e = .returned (.bool true) ∧ Below x.heap.size x w' := refused_some (k := 1) L h1 (by decide) h2 h3

set_option maxHeartbeats 4000000 in
theorem line6_out {ad : Nat → Addr} {mb : Nat} {l : List El} {va : Value} (k : Int) {w : World} (hM : MvAt mb l w) (L : Laid ad w) (hA : SlRR w va (spl (vis l))) (ho : k < 0 ∨ (nlC (vis l) : Int) < k) :
    Calls Tryz.prog 11 #[pv mb, va, .int .i64 k] w fun r w' => r = .returned (.bool true) ∧ Below w.heap.size w w' := by
  obtain ⟨ga, ca, rfl, _, _⟩ := hA
  have hlen := spl_len (vis l)
  have HS : Hid (∀ x, Below w.heap.size w x → _) := fun x hx => start_out k (hM.later hx) (L.below hx) ho
  have HL : Hid (∀ x, Below w.heap.size w x → _) := fun x hx => length_out k (hM.later hx) (L.below hx) ho
  have HT : Hid (∀ x, Below w.heap.size w x → _) := fun x hx => text_out k (hM.later hx) (L.below hx) ho
  have HN := hid_of' no6_true
  have HR : Hid (∀ (b g g' : Nat) (c : ByteArray) (x : World), Below w.heap.size w x → _) := fun b g g' c x hx => @refL_some ad b g g' c (place k) x (L.below hx)
  unfold pv fvL at *
  have hR0 := Below.refl w.heap.size w
  have hd : (decide (k < 0) || decide (((spl (vis l)).length : Int) ≤ k)) = true := by
    rcases ho with h | h
    · simp [h]
    · simp; omega
  clear hM L
  by_cases h0 : k < 0
  · clear hd ho hlen
    go_enter Tryz.func11, Tryz.ntmps11
    go_upto_region 6 with (go_at_call 28; refine (HS.out _ hR0).mono ?_; rintro r w1 ⟨g1, rfl, f1, hb1⟩)
    go_upto_region 7 with (go_at_call 29; refine (HL.out _ hb1).mono ?_; rintro r w2 ⟨g2, rfl, f2, hb2⟩)
    have hB2 := bgo hb1 hb2
    go_upto_region 8 with (go_at_call 21; refine (HT.out _ hB2).mono ?_; rintro r w3 ⟨g3, rfl, f3, hb3⟩)
    have hB3 := bgo hB2 hb3
    replace f1 : FaultAt ad g1 bLines bStart (place k) 1 w3 := RowAt.later (RowAt.later f1 hb2) hb3
    replace f2 : FaultAt ad g2 bLines bLength (place k) 1 w3 := RowAt.later f2 hb3
    have N1 := hid_of' (HN.out bStart k)
    have N2 := hid_of' (HN.out bLength k)
    have N3 := hid_of' (HN.out bText k)
    clear HS HL HT HN hb1 hb2 hb3 hB2
    go_wp2_with (first | (go_at_call 16; first | (refine (N1.out _).mono ?_; clear N1; rintro r w4 ⟨x1, y1, rfl, k1, m1, hb4⟩; have hB4 := bgo hB3 hb4; replace f1 : FaultAt ad g1 bLines bStart (place k) 1 w4 := RowAt.later f1 hb4; replace f2 : FaultAt ad g2 bLines bLength (place k) 1 w4 := RowAt.later f2 hb4; replace f3 : FaultAt ad g3 bLines bText (place k) 1 w4 := RowAt.later f3 hb4) | (refine (N2.out _).mono ?_; clear N2; rintro r w6 ⟨x2, y2, rfl, k2, m2, hb6⟩; have hB6 := bgo hB5 hb6; replace f2 : FaultAt ad g2 bLines bLength (place k) 1 w6 := RowAt.later f2 hb6; replace f3 : FaultAt ad g3 bLines bText (place k) 1 w6 := RowAt.later f3 hb6) | (refine (N3.out _).mono ?_; clear N3; rintro r w8 ⟨x3, y3, rfl, k3, m3, hb8⟩; have hB8 := bgo hB7 hb8; replace f3 : FaultAt ad g3 bLines bText (place k) 1 w8 := RowAt.later f3 hb8)) | (go_at_call 15; first | ((with_reducible refine (HR.out g1 x1 y1 bStart _ hB4 f1 k1 m1).mono ?_); rintro r w5 ⟨rfl, hb5⟩; clear f1 k1 m1; have hB5 := bgo hB4 hb5; replace f2 : FaultAt ad g2 bLines bLength (place k) 1 w5 := RowAt.later f2 hb5; replace f3 : FaultAt ad g3 bLines bText (place k) 1 w5 := RowAt.later f3 hb5) | ((with_reducible refine (HR.out g2 x2 y2 bLength _ hB6 f2 k2 m2).mono ?_); rintro r w7 ⟨rfl, hb7⟩; clear f2 k2 m2; have hB7 := bgo hB6 hb7; replace f3 : FaultAt ad g3 bLines bText (place k) 1 w7 := RowAt.later f3 hb7) | ((with_reducible refine (HR.out g3 x3 y3 bText _ hB8 f3 k3 m3).mono ?_); rintro r w9 ⟨rfl, hb9⟩)))
    go_ret
    exact ⟨rfl, bgo hB8 hb9⟩
  · have h1 : ((spl (vis l)).length : Int) ≤ k := by omega
    clear hd ho hlen
    go_enter Tryz.func11, Tryz.ntmps11
    go_upto_region 6 with (go_at_call 28; refine (HS.out _ hR0).mono ?_; rintro r w1 ⟨g1, rfl, f1, hb1⟩)
    go_upto_region 7 with (go_at_call 29; refine (HL.out _ hb1).mono ?_; rintro r w2 ⟨g2, rfl, f2, hb2⟩)
    have hB2 := bgo hb1 hb2
    go_upto_region 8 with (go_at_call 21; refine (HT.out _ hB2).mono ?_; rintro r w3 ⟨g3, rfl, f3, hb3⟩)
    have hB3 := bgo hB2 hb3
    replace f1 : FaultAt ad g1 bLines bStart (place k) 1 w3 := RowAt.later (RowAt.later f1 hb2) hb3
    replace f2 : FaultAt ad g2 bLines bLength (place k) 1 w3 := RowAt.later f2 hb3
    have N1 := hid_of' (HN.out bStart k)
    have N2 := hid_of' (HN.out bLength k)
    have N3 := hid_of' (HN.out bText k)
    clear HS HL HT HN hb1 hb2 hb3 hB2
    go_wp2_with (first | (go_at_call 16; first | (refine (N1.out _).mono ?_; clear N1; rintro r w4 ⟨x1, y1, rfl, k1, m1, hb4⟩; have hB4 := bgo hB3 hb4; replace f1 : FaultAt ad g1 bLines bStart (place k) 1 w4 := RowAt.later f1 hb4; replace f2 : FaultAt ad g2 bLines bLength (place k) 1 w4 := RowAt.later f2 hb4; replace f3 : FaultAt ad g3 bLines bText (place k) 1 w4 := RowAt.later f3 hb4) | (refine (N2.out _).mono ?_; clear N2; rintro r w6 ⟨x2, y2, rfl, k2, m2, hb6⟩; have hB6 := bgo hB5 hb6; replace f2 : FaultAt ad g2 bLines bLength (place k) 1 w6 := RowAt.later f2 hb6; replace f3 : FaultAt ad g3 bLines bText (place k) 1 w6 := RowAt.later f3 hb6) | (refine (N3.out _).mono ?_; clear N3; rintro r w8 ⟨x3, y3, rfl, k3, m3, hb8⟩; have hB8 := bgo hB7 hb8; replace f3 : FaultAt ad g3 bLines bText (place k) 1 w8 := RowAt.later f3 hb8)) | (go_at_call 15; first | ((with_reducible refine (HR.out g1 x1 y1 bStart _ hB4 f1 k1 m1).mono ?_); rintro r w5 ⟨rfl, hb5⟩; clear f1 k1 m1; have hB5 := bgo hB4 hb5; replace f2 : FaultAt ad g2 bLines bLength (place k) 1 w5 := RowAt.later f2 hb5; replace f3 : FaultAt ad g3 bLines bText (place k) 1 w5 := RowAt.later f3 hb5) | ((with_reducible refine (HR.out g2 x2 y2 bLength _ hB6 f2 k2 m2).mono ?_); rintro r w7 ⟨rfl, hb7⟩; clear f2 k2 m2; have hB7 := bgo hB6 hb7; replace f3 : FaultAt ad g3 bLines bText (place k) 1 w7 := RowAt.later f3 hb7) | ((with_reducible refine (HR.out g3 x3 y3 bText _ hB8 f3 k3 m3).mono ?_); rintro r w9 ⟨rfl, hb9⟩)))
    go_ret
    exact ⟨rfl, bgo hB8 hb9⟩

theorem strEq (a : ByteArray) (w : World) : (binOp .eql 9 (.string a) (.string a)).run Tryz.prog w = .ok (.bool true) w := by simp [binOp, Op.stringOp]
set_option maxHeartbeats 4000000 in
theorem line6_ok {ad : Nat → Addr} {mb : Nat} {l : List El} {va : Value} (k : Nat) {w : World} (hM : MvAt mb l w) (L : Laid ad w) (hA : SlRR w va (spl (vis l))) (hk : k ≤ nlC (vis l)) (hn : l.length ≤ 1000) (hc : Ch32 l) (hr : ∀ (i : Nat) (c : Int), (vis l)[i]? = some c → rightC c = true) :
    Calls Tryz.prog 11 #[pv mb, va, .int .i64 (k : Int)] w fun r w' => r = .returned (.bool true) ∧ Below w.heap.size w w' := by
  have hlen := spl_len (vis l)
  have hvl := vis_le l
  have hnl := nlC_b (vis l)
  have htx := tx_at (vis l) k hk
  have htl := tx_len (vis l) k hk
  have hst := sum_st (vis l) k hk
  have hal := sum_st (vis l) (nlC (vis l)) (Nat.le_refl _)
  have hse := st_en (vis l) (nlC (vis l)) (Nat.le_refl _)
  have hsk := st_en (vis l) k hk
  have hle : sumS (spl (vis l)) (spl (vis l)).length ≤ 100000 := by
    rw [hlen, sumS_next _ _ _ (tx_at (vis l) (nlC (vis l)) (Nat.le_refl _)), hal, tx_len _ _ (Nat.le_refl _)]
    omega
  have HA1 : Hid (∀ x, Below w.heap.size w x → _) := fun x hx => refStart_any (hA.later hx) k (by omega) (by omega) (by omega)
  rw [hst] at HA1
  obtain ⟨ga, ca, rfl, hga, hcs⟩ := hA
  obtain ⟨xa, xk, hcell, hsl⟩ := hcs k _ htx
  have hrt : ∀ (i : Nat) (c : Int), (txC (vis l) k)[i]? = some c → rightC c = true := fun i c hi => by
    unfold txC at hi
    rw [List.getElem?_take] at hi
    split at hi
    · rw [List.getElem?_drop] at hi; exact hr _ c hi
    · cases hi
  have HU : Hid (∀ x, Below w.heap.size w x → _) := fun x hx => refUTF8_any (hsl.later hx) (by omega) hrt
  rw [htl] at HU hcell
  have HS : Hid (∀ x, Below w.heap.size w x → _) := fun x hx => start_ok k (hM.later hx) (by omega) hk
  have HL : Hid (∀ x, Below w.heap.size w x → _) := fun x hx => length_ok k (hM.later hx) (by omega) hk
  have HT : Hid (∀ x, Below w.heap.size w x → _) := fun x hx => text_ok k (hM.later hx) (L.below hx) (by omega) hk hc
  have HN := hid_of' no6_false
  have HR := hid_of' refused_none
  have e1 : ¬ (k : Int) < 0 := by omega
  have e2 : ¬ ((spl (vis l)).length : Int) ≤ (k : Int) := by omega
  have e3 : (k : Int) < ((spl (vis l)).length : Int) := by omega
  have e4 : 0 ≤ (k : Int) := by omega
  have hcl : ∀ s : Wld w, (wOf s).cell? ⟨ga, k, none⟩ = some (.slice xa (enC (vis l) k - stC (vis l) k) xk) := fun s => by rw [(wOf_below s).cell (p := ⟨ga, k, none⟩) hga]; exact hcell
  unfold pv at *
  have hB := Below.refl w.heap.size w
  clear hM L hcell hsl hcs htx htl hst hal hse hsk hle hlen hvl hnl hr hrt hc hk hn
  generalize enC (vis l) k - stC (vis l) k = N at *
  generalize stC (vis l) k = S at *
  generalize encL (txC (vis l) k) = E at *
  go_enter Tryz.func11, Tryz.ntmps11
  go_upto_region 4 with fail
  refine wp_region_cls (by kernel_rfl) (by kernel_rfl) ?_
  repeat (first | go_big_quiet_skip | (go_big_quiet_want; first | (go_big_quiet_op; first | go_big_quiet_on | go_big_quiet_call ((first | (go_at_call 14; exact cls_of_same (HA1.out _ (wOf_below _))) | (go_at_call 27; exact cls_of (HU.out _ (wOf_below _))))))))
  refine wpQuiet_nil ?_
  rintro w1 ⟨s1, e1⟩
  have hb1 := wOf_below s1
  rw [← e1] at hb1
  clear e1 s1
  replace hB := bgo hB hb1
  clear hb1
  go_upto_region 6 with (go_at_call 28; refine (HS.out _ hB).mono ?_; rintro r w1 ⟨rfl, hb1⟩)
  have hB1 := bgo hB hb1
  go_upto_region 7 with (go_at_call 29; refine (HL.out _ hB1).mono ?_; rintro r w2 ⟨rfl, hb2⟩)
  have hB2 := bgo hB1 hb2
  go_upto_region 8 with (go_at_call 21; refine (HT.out _ hB2).mono ?_; rintro r w3 ⟨rfl, hb3⟩)
  have hB3 := bgo hB2 hb3
  have hs := fun w => strEq ⟨E.toArray⟩ w
  have N1 := hid_of' (HN.out bStart k)
  have N2 := hid_of' (HN.out bLength k)
  have N3 := hid_of' (HN.out bText k)
  have R0 : Hid (∀ x, Calls Tryz.prog 15 #[.nilIface, .agg (nov 0 none 0 0 none 0 0)] x fun e w' => e = .returned (.bool true) ∧ Below x.heap.size x w') := fun x => HR.out none none 0 0 0 0 x
  clear HS HL HT HN HR hb1 hb2 hb3 hB2
  go_wp2_with (first | (refine wpL_of_run (hs _) ?_) | (go_at_call 16; first | (refine (N1.out _).mono ?_; clear N1; rintro r w4 ⟨rfl, hb4⟩; have hB4 := bgo hB3 hb4) | (refine (N2.out _).mono ?_; clear N2; rintro r w6 ⟨rfl, hb6⟩; have hB6 := bgo hB5 hb6) | (refine (N3.out _).mono ?_; clear N3; rintro r w8 ⟨rfl, hb8⟩; have hB8 := bgo hB7 hb8)) | (go_at_call 15; refine (R0.out _).mono ?_; first | (have hB5' := hB8; rintro r w9 ⟨rfl, hb9⟩) | (have hB5' := hB6; rintro r w7 ⟨rfl, hb7⟩; have hB7 := bgo hB6 hb7) | (have hB5' := hB4; rintro r w5 ⟨rfl, hb5⟩; have hB5 := bgo hB4 hb5)))
  go_ret
  exact ⟨rfl, bgo hB8 hb9⟩
end Go.Proofs.YtdmiibihibikdaaGreatDoor
namespace Go.Proofs.YtdmiibihibikdaaGreatDoor
open Go.RowKit Go.Extern.Stop Go.Stop Go.Extern Go.ChangeShapes Go.WideShapes Go.ChangeAt Go.Deep
set_option maxRecDepth 100000

/-- A list of numbers. -/
def SlI (w : World) (v : Value) (cs : List Int) : Prop := (cs = [] ∧ ∃ a c, v = .slice a 0 c) ∨ ∃ g o_ c, v = .slice (some ⟨g, o_, none⟩) cs.length c ∧ g < w.heap.size ∧ ∀ (i : Nat) (x : Int), cs[i]? = some x → w.cell? ⟨g, o_ + i, none⟩ = some (.int .i64 x)
theorem SlI.form {w : World} {v : Value} {cs : List Int} (h : SlI w v cs) : ∃ a c, v = .slice a cs.length c := by
  rcases h with ⟨h, a, c, e⟩ | ⟨g, o_, c, e, _⟩
  · subst h; exact ⟨a, c, e⟩
  · exact ⟨_, _, e⟩
theorem SlI.at {w w' : World} {v : Value} {cs : List Int} (h : SlI w v cs) (hb : Below w.heap.size w w') {i : Nat} {x : Int} (hx : cs[i]? = some x) : ∃ g o_ c, v = .slice (some ⟨g, o_, none⟩) cs.length c ∧ w'.cell? ⟨g, o_ + i, none⟩ = some (.int .i64 x) := by
  rcases h with ⟨h, _⟩ | ⟨g, o_, c, e, hg, hc⟩
  · subst h; simp at hx
  · exact ⟨g, o_, c, e, by rw [hb.cell (p := ⟨g, o_ + i, none⟩) hg]; exact hc i x hx⟩
section
variable {H : Type} {enc : TypeId × Value → H} {W : World} {base : Nat}
/-- A list that came in whose elements are one cell each. -/
theorem open_one {α : Type} [Inhabited α] {t e : TypeId} {mk : α → Value} (ht : Tryz.prog.underlying t = some (.slice e)) (hc1 : Tryz.prog.cellsOf e = 1) (hop : ∀ (n : Nat) (v : Value) (x : DataW H × List MemPlace), DataW.trod enc Tryz.prog W 0 (fun _ => true) true n e [v] = some x → ∃ y, v = mk y)
    {v : Value} {d : DataW H} {p : List MemPlace} (hval : Value.okWide Tryz.prog W .any base t v) (h : DataW.Trod enc Tryz.prog W 0 (fun _ => true) true t v d p) :
    ∃ l : List α, (l = [] ∧ ∃ a c, v = .slice a 0 c) ∨ ∃ g o_ c, v = .slice (some ⟨g, o_, none⟩) l.length c ∧ g < W.heap.size ∧ ∀ (i : Nat) (x : α), l[i]? = some x → W.cell? ⟨g, o_ + i, none⟩ = some (mk x) := by
  obtain ⟨a1, len, cap, rfl⟩ := okWide_slice ht hval
  obtain ⟨fuel, hf⟩ := h
  rcases open_slice1 ht hc1 hf with ⟨hcs, hx⟩ | ⟨a, len', cap', m, n, V, D, Pl, hcs, _, hl, hm, hmm, hx, hcell⟩
  · simp [Value.cells] at hcs
    obtain ⟨rfl, rfl, rfl⟩ := hcs
    exact ⟨[], .inl ⟨rfl, _, _, rfl⟩⟩
  · simp [Value.cells] at hcs
    obtain ⟨rfl, rfl, rfl⟩ := hcs
    simp only [if_true] at hmm
    subst hmm
    have each : ∀ i, i < len → ∃ x : α, W.cell? (a.add i) = some (mk x) := fun i hi => by
      obtain ⟨h1, h2⟩ := hcell i (by omega)
      obtain ⟨y, hy⟩ := hop n _ _ h2
      exact ⟨y, by rw [h1, hy]⟩
    obtain ⟨f, hf⟩ := choose_lt (α := α) each
    refine ⟨(List.range len).map f, ?_⟩
    by_cases h0 : len = 0
    · subst h0
      exact .inl ⟨by simp, _, _, rfl⟩
    · obtain ⟨ab, ao, spot⟩ := a
      have c0 := hf 0 (by omega)
      have hspot : spot = none := by simpa [Addr.add] using World.cell?_spot c0
      subst hspot
      have hblk : ab < W.heap.size := by
        have := World.block_lt_of_cell? _ _ c0
        simpa [Addr.add] using this
      refine .inr ⟨ab, ao, _, by rw [List.length_map, List.length_range], hblk, fun i x hi => ?_⟩
      have hil : i < len := by have := (List.getElem?_eq_some_iff.1 hi).1; simpa using this
      have hx : f i = x := by
        simp only [List.getElem?_map, List.getElem?_range hil, Option.map_some, Option.some.injEq] at hi
        exact hi
      have := hf i hil
      rw [hx, Addr.add_lit] at this
      exact this
theorem open_runes {v : Value} {d : DataW H} {p : List MemPlace} (hval : Value.okWide Tryz.prog W .any base 22 v) (h : DataW.Trod enc Tryz.prog W 0 (fun _ => true) true 22 v d p) : ∃ cs, SlR W v cs :=
  open_one (mk := fun x => .int .i32 x) Tryz.underlying22 (by kernel_rfl) (fun _ _ _ h => by obtain ⟨y, hy, _⟩ := DataW.trod_int Tryz.underlying21 h; simp at hy; exact ⟨y, hy⟩) hval h
theorem open_yns {v : Value} {d : DataW H} {p : List MemPlace} (hval : Value.okWide Tryz.prog W .any base 23 v) (h : DataW.Trod enc Tryz.prog W 0 (fun _ => true) true 23 v d p) : ∃ cs, SlB W v cs :=
  open_one (mk := fun x => .bool x) Tryz.underlying23 (by kernel_rfl) (fun _ _ _ h => by obtain ⟨y, hy, _⟩ := DataW.trod_bool Tryz.underlying4 h; simp at hy; exact ⟨y, hy⟩) hval h
theorem open_nums {v : Value} {d : DataW H} {p : List MemPlace} (hval : Value.okWide Tryz.prog W .any base 24 v) (h : DataW.Trod enc Tryz.prog W 0 (fun _ => true) true 24 v d p) : ∃ cs, SlI W v cs :=
  open_one (mk := fun x => .int .i64 x) Tryz.underlying24 (by kernel_rfl) (fun _ _ _ h => by obtain ⟨y, hy, _⟩ := DataW.trod_int Tryz.underlying3 h; simp at hy; exact ⟨y, hy⟩) hval h
end

theorem line6_any {ad : Nat → Addr} {mb : Nat} {l : List El} {va : Value} (k : Int) {w : World} (hM : MvAt mb l w) (L : Laid ad w) (hA : SlRR w va (spl (vis l))) (hn : l.length ≤ 1000) (hc : Ch32 l) (hr : ∀ (i : Nat) (c : Int), (vis l)[i]? = some c → rightC c = true) :
    Calls Tryz.prog 11 #[pv mb, va, .int .i64 k] w fun r w' => r = .returned (.bool true) ∧ Below w.heap.size w w' := by
  by_cases ho : k < 0 ∨ (nlC (vis l) : Int) < k
  · exact line6_out k hM L hA ho
  · obtain ⟨j, rfl⟩ := Int.eq_ofNat_of_zero_le (show 0 ≤ k by omega)
    exact line6_ok j hM L hA (by omega) hn hc hr
theorem vis_right {l : List El} (h : ∀ (i : Nat) (e : El), l[i]? = some e → rightC e.ch = true) : ∀ (i : Nat) (c : Int), (vis l)[i]? = some c → rightC c = true := by
  intro i c hi
  have key : ∀ l : List El, c ∈ vis l → ∃ e, e ∈ l ∧ e.ch = c := fun l => by
    induction l with
    | nil => intro h; cases h
    | cons e l ih =>
      intro h
      by_cases hd : e.hd > 0
      · rw [vis_hid _ hd] at h
        obtain ⟨x, h1, h2⟩ := ih h
        exact ⟨x, List.mem_cons_of_mem _ h1, h2⟩
      · rw [vis_live _ hd] at h
        rcases List.mem_cons.1 h with h | h
        · exact ⟨e, List.mem_cons_self, h.symm⟩
        · obtain ⟨x, h1, h2⟩ := ih h
          exact ⟨x, List.mem_cons_of_mem _ h1, h2⟩
  obtain ⟨e, he, rfl⟩ := key l (List.mem_of_getElem? hi)
  obtain ⟨j, hj⟩ := List.getElem?_of_mem he
  exact h j e hj
set_option maxHeartbeats 2000000 in
theorem linesExact_all {ad : Nat → Addr} {W : World} {v0 v1 v2 : Value} {cs : List Int} {hs : List Bool} {ks : List Int} (L : Laid ad W) (h0 : SlR W v0 cs) (h1 : SlB W v1 hs) (h2 : SlI W v2 ks) :
    Calls Tryz.prog 3 #[v0, v1, v2] W fun r w' => r = .returned (.bool true) ∧ Below W.heap.size W w' := by
  have HBg := hid_of' (begun_ok h0 h1)
  obtain ⟨a0, c0, rfl⟩ := h0.form
  obtain ⟨a1, c1, rfl⟩ := h1.form
  obtain ⟨a2, c2, rfl⟩ := h2.form
  have hall := bgE_all (cs := cs) (hs := hs) (bgN cs)
  have hN : bgN cs ≤ 150 := by unfold bgN; omega
  have hgd := bgE_good cs hs (bgN cs) (by omega)
  have hvr := vis_right (fun i e h => (hall.2 i e h).2.2.2.2.1)
  have hln : (bgE cs hs (bgN cs)).length ≤ 150 := by omega
  have hch := hgd.2.2
  clear hall hgd hN
  generalize bgE cs hs (bgN cs) = l at *
  have hvl := vis_le l
  have hnl := nlC_b (vis l)
  have hlen := spl_len (vis l)
  have HS : Hid (∀ (x : World) (u : Value), SlR x u (vis l) → _) := fun x u hu => refSplit_ok hu (by omega)
  have hq : ((spl (vis l)).length : Int) = (nlC (vis l) : Int) + 1 := by omega
  have HC : Hid (∀ (x : World) (mb : Nat), MvAt mb l x → Calls Tryz.prog 10 #[pv mb] x fun r w' => r = .returned (.int .i64 ((spl (vis l)).length : Int)) ∧ Below x.heap.size x w') := fun x mb hm => by rw [hq]; exact count_any hm (by omega)
  have HL : Hid (∀ (x : World) (mb : Nat) (va : Value) (k : Int), Laid ad x → MvAt mb l x → SlRR x va (spl (vis l)) → _) := fun x mb va k L hm ha => line6_any k hm L ha (by omega) hch hvr
  have HW : Hid (∀ x : World, Laid ad x → _) := fun x L => wakes6_ok x L
  have LL := hid_of' L
  have hSm : (spl (vis l)).length ≤ 1000 := by omega
  clear L hlen hq hnl hvl hvr hch hln h0 h1
  unfold pv at *
  go_enter Tryz.func3, Tryz.ntmps3
  go_upto_region 2 with (go_at_call 8; refine HBg.out.mono ?_; rintro r w1 ⟨mb, vs, rfl, hM1, hR1, hb1⟩)
  go_upto_region 5 with (go_at_call 9; refine (HS.out _ _ hR1).mono ?_; rintro r w2 ⟨va, rfl, hA2, hb2⟩)
  have hB2 := bgo hb1 hb2
  have hM2 := hM1.later hb2
  obtain ⟨ga, ca, rfl, hga, hcs⟩ := hA2
  have hA2 : SlRR w2 (.slice (some ⟨ga, 0, none⟩) (spl (vis l)).length ca) (spl (vis l)) := ⟨ga, ca, rfl, hga, hcs⟩
  clear hcs HBg HS hR1 hM1 hb1 hb2
  go_upto_region 7 with (first | (go_at_call 10; refine (HC.out _ _ hM2).mono ?_; rintro r w3 ⟨rfl, hb3⟩))
  have hB3 := bgo hB2 hb3
  have hM3 := hM2.later hb3
  have hA3 := hA2.later hb3
  clear hM2 hA2 hB2 hb3 HC
  go_wp2
  go_loopw [10] (fun i wr => ∃ k : Nat, i = .int .i64 (k : Int) ∧ k ≤ min ks.length 60 ∧ Below w3.heap.size w3 wr) (fun i _ => 60 - (intOf i).toNat)
  case atStart => exact ⟨0, rfl, Nat.zero_le _, Below.refl _ _⟩
  case round =>
    obtain ⟨k, rfl, hk, hB⟩ := hrel
    by_cases hlt : k < min ks.length 60
    · have q1 : (k : Int) < (ks.length : Int) := by omega
      have q2 : (k : Int) < 60 := by omega
      obtain ⟨c, hc⟩ : ∃ c, ks[k]? = some c := ⟨_, List.getElem?_eq_getElem (by omega)⟩
      obtain ⟨g, o_, cc, hv, hcell⟩ := h2.at (bgo hB3 hB) hc
      simp only [Value.slice.injEq] at hv
      obtain ⟨rfl, _, rfl⟩ := hv
      have HL' := hid_of' (HL.out wr mb _ c (LL.out.below (bgo hB3 hB)) (hM3.later hB) (hA3.later hB))
      go_wp2_with (go_at_call 11; with_reducible refine HL'.out.mono ?_; rintro r w4 ⟨rfl, hb4⟩)
      go_roundw
      case rel => exact ⟨k + 1, by go_num, by omega, bgo hB hb4⟩
      case measure => simp [intOf]; omega
    · by_cases q1 : (k : Int) < (ks.length : Int)
      · have q2 : ¬ (k : Int) < 60 := by omega
        have hBr := bgo hB3 hB
        have hMr := hM3.later hB
        have hAr := hA3.later hB
        clear hB3 hM3 hA3 h2 hlt hk
        go_wp2
        go_loopw [11] (fun i w5 => ∃ j : Nat, i = .int .i64 (j : Int) ∧ j ≤ (spl (vis l)).length ∧ Below wr.heap.size wr w5) (fun i _ => 1001 - (intOf i).toNat)
        case atStart => exact ⟨0, rfl, Nat.zero_le _, Below.refl _ _⟩
        case round =>
          obtain ⟨j, rfl, hj, hB5⟩ := hrel
          by_cases hlt5 : j < (spl (vis l)).length
          · have p1 : (j : Int) < ((spl (vis l)).length : Int) := by omega
            have HL' := hid_of' (HL.out _ mb _ (j : Int) (LL.out.below (bgo hBr hB5)) (hMr.later hB5) (hAr.later hB5))
            go_wp2_with (go_at_call 11; with_reducible refine HL'.out.mono ?_; rintro r w6 ⟨rfl, hb6⟩)
            go_roundw
            case rel => exact ⟨j + 1, by go_num, by omega, bgo hB5 hb6⟩
            case measure => simp [intOf]; omega
          · have p1 : ¬ (j : Int) < ((spl (vis l)).length : Int) := by omega
            have HW' := hid_of' (HW.out _ (LL.out.below (bgo hBr hB5)))
            go_wp2_with (go_at_call 12; with_reducible refine HW'.out.mono ?_; rintro r w6 ⟨rfl, hb6⟩)
            go_ret
            exact ⟨rfl, bgo (bgo hBr hB5) hb6⟩
      · skip
        have hBr := bgo hB3 hB
        have hMr := hM3.later hB
        have hAr := hA3.later hB
        clear hB3 hM3 hA3 h2 hlt hk
        go_wp2
        go_loopw [11] (fun i w5 => ∃ j : Nat, i = .int .i64 (j : Int) ∧ j ≤ (spl (vis l)).length ∧ Below wr.heap.size wr w5) (fun i _ => 1001 - (intOf i).toNat)
        case atStart => exact ⟨0, rfl, Nat.zero_le _, Below.refl _ _⟩
        case round =>
          obtain ⟨j, rfl, hj, hB5⟩ := hrel
          by_cases hlt5 : j < (spl (vis l)).length
          · have p1 : (j : Int) < ((spl (vis l)).length : Int) := by omega
            have HL' := hid_of' (HL.out _ mb _ (j : Int) (LL.out.below (bgo hBr hB5)) (hMr.later hB5) (hAr.later hB5))
            go_wp2_with (go_at_call 11; with_reducible refine HL'.out.mono ?_; rintro r w6 ⟨rfl, hb6⟩)
            go_roundw
            case rel => exact ⟨j + 1, by go_num, by omega, bgo hB5 hb6⟩
            case measure => simp [intOf]; omega
          · have p1 : ¬ (j : Int) < ((spl (vis l)).length : Int) := by omega
            have HW' := hid_of' (HW.out _ (LL.out.below (bgo hBr hB5)))
            go_wp2_with (go_at_call 12; with_reducible refine HW'.out.mono ?_; rintro r w6 ⟨rfl, hb6⟩)
            go_ret
            exact ⟨rfl, bgo (bgo hBr hB5) hb6⟩
end Go.Proofs.YtdmiibihibikdaaGreatDoor
namespace Go.Proofs.YtdmiibihibikdaaGreatDoor
open Go.RowKit Go.Extern.Stop Go.Stop Go.Extern
set_option maxRecDepth 100000

/-- The line of a gap. -/
def InL (v : List Int) (j p : Nat) : Prop := j ≤ nlC v ∧ stC v j ≤ p ∧ p ≤ enC v j
theorem st_next (v : List Int) (j : Nat) (h : j < nlC v) : stC v (j + 1) = enC v j + 1 := by
  unfold enC; rw [if_neg (by omega)]; rfl
theorem st_mono (v : List Int) (i : Nat) : ∀ d : Nat, i + d ≤ nlC v → stC v i ≤ stC v (i + d)
  | 0, _ => Nat.le_refl _
  | d + 1, h => by
    have h1 := st_mono v i d (by omega)
    have h2 := st_next v (i + d) (by omega)
    have h3 := (st_en v (i + d) (by omega)).1
    rw [show i + (d + 1) = i + d + 1 from rfl]; omega
theorem in_lt {v : List Int} {i j p : Nat} (hi : InL v i p) (hj : InL v j p) : ¬ i < j := fun h => by
  obtain ⟨_, _, h1⟩ := hi
  obtain ⟨h2, h3, _⟩ := hj
  have h4 := st_next v i (by omega)
  have h5 := st_mono v (i + 1) (j - (i + 1)) (by omega)
  rw [show i + 1 + (j - (i + 1)) = j by omega] at h5
  omega
theorem in_one {v : List Int} {i j p : Nat} (hi : InL v i p) (hj : InL v j p) : i = j := by
  have := in_lt hi hj; have := in_lt hj hi; omega
/-- What a search between lo and hi knows. -/
def SrA (v : List Int) (p lo hi : Nat) : Prop := (∀ t, t < lo → endC v t < p) ∧ (∀ t, hi ≤ t → t < nlC v → p ≤ endC v t)
theorem endC_mono (v : List Int) (i : Nat) : ∀ d : Nat, i + d < nlC v → endC v i ≤ endC v (i + d)
  | 0, _ => Nat.le_refl _
  | d + 1, h => by
    have h1 := endC_mono v i d (by omega)
    have h2 := endC_up v (i + d) (by omega)
    rw [show i + (d + 1) = i + d + 1 from rfl]; omega
theorem SrA.low {v : List Int} {p lo hi m : Nat} (h : SrA v p lo hi) (hm : m < nlC v) (hp : endC v m < p) : SrA v p (m + 1) hi :=
  ⟨fun t ht => by have := endC_mono v t (m - t) (by omega); rw [show t + (m - t) = m by omega] at this; omega, h.2⟩
theorem SrA.high {v : List Int} {p lo hi m : Nat} (h : SrA v p lo hi) (hp : p ≤ endC v m) : SrA v p lo m :=
  ⟨h.1, fun t ht hl => by have := endC_mono v m (t - m) (by omega); rw [show m + (t - m) = t by omega] at this; omega⟩
theorem SrA.done {v : List Int} {p lo : Nat} (h : SrA v p lo lo) (hl : lo ≤ nlC v) (hp : p ≤ v.length) : InL v lo p := by
  refine ⟨hl, ?_, ?_⟩
  · cases lo with
    | zero => exact Nat.zero_le _
    | succ k => exact h.1 k (Nat.lt_succ_self _)
  · unfold enC
    by_cases e : lo = nlC v
    · rw [if_pos e]; exact hp
    · rw [if_neg e]; exact h.2 lo (Nat.le_refl _) (by omega)

theorem enters_lo (w : World) (args : Array Value) : (callFunc 63 args).run Tryz.prog w = .ok (.enter 63 args) w := by kernel_rfl
theorem lineOfFn_ok {mb b1 b2 : Nat} {l : List El} {w : World} (h : MvAt mb l w) (h1 : w.cell? ⟨b1, 0, none⟩ = some (pv mb)) (p : Nat) (h2 : w.cell? ⟨b2, 0, none⟩ = some (.int .i64 (p : Int))) (hb2 : b2 < w.heap.size) (k : Nat) (hn : l.length ≤ 1000000) (hk : k < nlC (vis l)) :
    Calls Tryz.prog 63 #[.int .i64 (k : Int), .pointer (some ⟨b1, 0, none⟩), .pointer (some ⟨b2, 0, none⟩)] w fun r w' => r = .returned (.bool (decide (p ≤ endC (vis l) k))) ∧ Below w.heap.size w w' := by
  have HE := hid_of' (lineEnd_c h k hn hk)
  have HX : Hid (∀ x, Below w.heap.size w x → x.cell? ⟨b2, 0, none⟩ = some (.int .i64 (p : Int))) := fun x hx => by rw [hx.cell (p := ⟨b2, 0, none⟩) hb2]; exact h2
  unfold pv at *
  go_enter Tryz.func63, Tryz.ntmps63
  go_upto_region 2 with (go_at_call 56; refine HE.out.mono ?_; rintro r w1 ⟨rfl, hb1⟩)
  have hx := HX.out _ hb1
  go_wp2
  go_ret
  exact ⟨rfl, hb1⟩
set_option maxHeartbeats 1000000 in
theorem search_ok {mb b1 b2 : Nat} {l : List El} {w : World} (h : MvAt mb l w) (h1 : w.cell? ⟨b1, 0, none⟩ = some (pv mb)) (p : Nat) (h2 : w.cell? ⟨b2, 0, none⟩ = some (.int .i64 (p : Int))) (hb1 : b1 < w.heap.size) (hb2 : b2 < w.heap.size) (hn : l.length ≤ 1000000) (hp : p ≤ (vis l).length) :
    Calls Tryz.prog 62 #[.int .i64 (nlC (vis l) : Int), .func (.func 63) #[] #[.pointer (some ⟨b1, 0, none⟩), .pointer (some ⟨b2, 0, none⟩)]] w fun r w' => ∃ j : Nat, r = .returned (.int .i64 (j : Int)) ∧ InL (vis l) j p ∧ Below w.heap.size w w' := by
  have HF : Hid (∀ (x : World) (k : Nat), Below w.heap.size w x → k < nlC (vis l) → _) := fun x k hx hk => lineOfFn_ok (h.later hx) (by rw [hx.cell (p := ⟨b1, 0, none⟩) hb1]; exact h1) p (by rw [hx.cell (p := ⟨b2, 0, none⟩) hb2]; exact h2) (Nat.lt_of_lt_of_le hb2 hx.size) k hn hk
  have hN : nlC (vis l) ≤ 1000000 := by have := nlC_b (vis l); have := vis_le l; omega
  have eg := fun (args : Array Value) (w : World) => enters_lo w args
  generalize hNN : nlC (vis l) = N at *
  go_enter Tryz.func62, Tryz.ntmps62
  go_wp2
  go_loopw [5, 6] (fun a b wr => ∃ lo hi : Nat, a = .int .i64 (lo : Int) ∧ b = .int .i64 (hi : Int) ∧ lo ≤ hi ∧ hi ≤ N ∧ SrA (vis l) p lo hi ∧ Below w.heap.size w wr) (fun a b _ => (intOf b - intOf a).toNat)
  case atStart => exact ⟨0, N, rfl, rfl, Nat.zero_le _, Nat.le_refl _, ⟨fun t ht => absurd ht (Nat.not_lt_zero _), fun t h1 h2 => by omega⟩, Below.refl _ _⟩
  case round =>
    obtain ⟨lo, hi, rfl, rfl, hlh, hin, hS, hB⟩ := hrel
    by_cases hlt : lo < hi
    · have q1 : (lo : Int) < (hi : Int) := by omega
      have hm : (lo + hi) / 2 < N := by omega
      have hc := HF.out _ ((lo + hi) / 2) hB hm
      rw [show (((lo + hi) / 2 : Nat) : Int) = ((lo : Int) + (hi : Int)) / 2 by omega] at hc
      have hC := hid_of' hc
      clear hc
      by_cases hq : p ≤ endC (vis l) ((lo + hi) / 2)
      · rw [decide_eq_true hq] at hC
        have HS := hid_of' (hS.high hq)
        clear hS hq
        go_wp2_with (go_at_call 63; refine hC.out.mono ?_; rintro r w2 ⟨rfl, hb⟩)
        go_roundw
        case rel => exact ⟨lo, (lo + hi) / 2, rfl, by rw [show ((lo : Int) + (hi : Int)) / 2 = (((lo + hi) / 2 : Nat) : Int) by omega], by omega, by omega, HS.out, bgo hB hb⟩
        case measure => simp [intOf]; omega
      · rw [decide_eq_false hq] at hC
        have HS := hid_of' (hS.low (m := (lo + hi) / 2) (by omega) (by omega))
        clear hS hq
        go_wp2_with (go_at_call 63; refine hC.out.mono ?_; rintro r w2 ⟨rfl, hb⟩)
        go_roundw
        case rel => exact ⟨(lo + hi) / 2 + 1, hi, by rw [show ((lo : Int) + (hi : Int)) / 2 + 1 = (((lo + hi) / 2 + 1 : Nat) : Int) by omega], rfl, by omega, by omega, HS.out, bgo hB hb⟩
        case measure => simp [intOf]; omega
    · obtain rfl : hi = lo := by omega
      go_wp2
      go_ret
      exact ⟨hi, rfl, hS.done (by omega) hp, hB⟩
set_option maxHeartbeats 400000 in
theorem lineOf_ok {mb : Nat} {l : List El} {w : World} (h : MvAt mb l w) (p : Nat) (hn : l.length ≤ 1000000) (hp : p ≤ (vis l).length) :
    Calls Tryz.prog 39 #[pv mb, .int .i64 (p : Int)] w fun r w' => ∃ j : Nat, r = .returned (.int .i64 (j : Int)) ∧ InL (vis l) j p ∧ Below w.heap.size w w' := by
  have HL : Hid (∀ x, Below w.heap.size w x → _) := fun x hx => lines_c (h.later hx)
  have HS : Hid (∀ (x : World) (b1 b2 : Nat), Below w.heap.size w x → x.cell? ⟨b1, 0, none⟩ = some (pv mb) → x.cell? ⟨b2, 0, none⟩ = some (.int .i64 (p : Int)) → b1 < x.heap.size → b2 < x.heap.size → _) := fun x b1 b2 hx c1 c2 d1 d2 => search_ok (h.later hx) c1 p c2 d1 d2 hn hp
  have hmf : ∀ (fn : Fn) (first cap : Array Value) (w : World), (Instr.makeFunc fn first cap).run Tryz.prog w = .ok (.func fn first cap) w := fun _ _ _ _ => rfl
  have r1 := row_new w #[pv mb] 25
  have r2 := row_new (w.alloc (.cells #[pv mb] 25)) #[.int .i64 (p : Int)] 3
  have b1 := below_one w (.cells #[pv mb] 25)
  have b2 := below_one (w.alloc (.cells #[pv mb] 25)) (.cells #[.int .i64 (p : Int)] 3)
  have r1' := r1.later b2
  have hB := bgo b1 b2
  have hr1 : ((w.alloc (.cells #[pv mb] 25)).alloc (.cells #[.int .i64 (p : Int)] 3)).cell? ⟨w.heap.size, 0, none⟩ = some (pv mb) := r1'.cell 0
  have hr2 : ((w.alloc (.cells #[pv mb] 25)).alloc (.cells #[.int .i64 (p : Int)] 3)).cell? ⟨w.heap.size + 1, 0, none⟩ = some (.int .i64 (p : Int)) := by
    have := r2.cell 0
    rw [show (w.alloc (.cells #[pv mb] 25)).heap.size = w.heap.size + 1 by simp] at this
    exact this
  have hsz : ((w.alloc (.cells #[pv mb] 25)).alloc (.cells #[.int .i64 (p : Int)] 3)).heap.size = w.heap.size + 2 := by simp
  clear r1 r2 b1 b2 r1' h
  unfold pv at *
  go_enter Tryz.func39, Tryz.ntmps39
  go_upto_region 1 with fail
  generalize ((w.alloc (.cells #[.pointer (some ⟨mb, 0, none⟩)] 25)).alloc (.cells #[.int .i64 (p : Int)] 3)) = W2 at *
  have HW : Hid (∀ x, Below W2.heap.size W2 x → x.cell? ⟨w.heap.size, 0, none⟩ = some (.pointer (some ⟨mb, 0, none⟩)) ∧ x.cell? ⟨w.heap.size + 1, 0, none⟩ = some (.int .i64 (p : Int)) ∧ w.heap.size < x.heap.size ∧ w.heap.size + 1 < x.heap.size) := fun x hx => by
    have hz := hx.size
    refine ⟨?_, ?_, by omega, by omega⟩
    · rw [hx.cell (p := ⟨w.heap.size, 0, none⟩) (by show w.heap.size < W2.heap.size; omega)]; exact hr1
    · rw [hx.cell (p := ⟨w.heap.size + 1, 0, none⟩) (by show w.heap.size + 1 < W2.heap.size; omega)]; exact hr2
  go_wp2_with (first | (go_at_call 26; refine (HL.out _ hB).mono ?_; rintro r w3 ⟨rfl, hb3⟩; obtain ⟨x1, x2, x3, x4⟩ := HW.out _ hb3; have hB3 := bgo hB hb3) | (go_at_call 62; refine (HS.out _ _ _ hB3 x1 x2 x3 x4).mono ?_; rintro r w4 ⟨j, rfl, hj, hb4⟩))
  go_ret
  exact ⟨j, rfl, hj, bgo hB3 hb4⟩
set_option maxHeartbeats 400000 in
theorem where_out {ad : Nat → Addr} {mb : Nat} {l : List El} (p : Int) {w : World} (h : MvAt mb l w) (L : Laid ad w) (ho : p < 0 ∨ ((vis l).length : Int) < p) :
    Calls Tryz.prog 17 #[pv mb, .int .i64 p] w fun e w' => ∃ g, e = .returned (.tuple #[.int .i64 0, .int .i64 0, fvL g]) ∧ FaultAt ad g bLines bWhere (place p) 1 w' ∧ Below w.heap.size w w' := by
  have HR := hid_of' (gapRef_out bWhere p h L ho)
  unfold pv at *
  clear L h ho
  go_enter Tryz.func17, Tryz.ntmps17
  go_wp2_with (go_at_call 38; refine HR.out.mono ?_; rintro r w1 ⟨g, rfl, hf, hb1⟩)
  go_ret3
  exact ⟨g, rfl, hf, hb1⟩
set_option maxHeartbeats 400000 in
theorem where_ok {mb : Nat} {l : List El} (p : Nat) {w : World} (h : MvAt mb l w) (hn : l.length ≤ 1000000) (hp : p ≤ (vis l).length) :
    Calls Tryz.prog 17 #[pv mb, .int .i64 (p : Int)] w fun e w' => ∃ j : Nat, e = .returned (.tuple #[.int .i64 (j : Int), .int .i64 ((p - stC (vis l) j : Nat) : Int), .nilIface]) ∧ InL (vis l) j p ∧ Below w.heap.size w w' := by
  have HR := hid_of' (gapRef_ok bWhere p h hp)
  have HO : Hid (∀ x, Below w.heap.size w x → _) := fun x hx => lineOf_ok (h.later hx) p hn hp
  have HE : Hid (∀ (x : World) (j : Nat), Below w.heap.size w x → j ≤ nlC (vis l) → _) := fun x j hx hj => ends_any (h.later hx) j hn hj
  have hvl := vis_le l
  unfold pv at *
  clear h
  go_enter Tryz.func17, Tryz.ntmps17
  go_upto_region 5 with (first | (go_at_call 38; refine HR.out.mono ?_; rintro r w1 ⟨rfl, hb1⟩) | (go_at_call 39; refine (HO.out _ hb1).mono ?_; rintro r w2 ⟨j, rfl, hj, hb2⟩))
  have hB2 := bgo hb1 hb2
  have HE2 := hid_of' (HE.out _ j hB2 hj.1)
  have hw : wrap64 ((p : Int) - (stC (vis l) j : Int)) = ((p - stC (vis l) j : Nat) : Int) := by have := hj.2.1; rw [wrapIs (by omega) (by omega)]; omega
  clear HE HO HR
  go_wp2_with (go_at_call 32; refine HE2.out.mono ?_; rintro r w3 ⟨rfl, hb3⟩)
  go_ret3
  refine ⟨j, ?_, hj, bgo hB2 hb3⟩
  show Ending.returned (.tuple #[.int .i64 (j : Int), .int .i64 (wrap64 ((p : Int) - (stC (vis l) j : Int))), .nilIface]) = _
  rw [hw]
def bPlace : ByteArray := ⟨#[80, 108, 97, 99, 101]⟩
set_option maxHeartbeats 400000 in
theorem place_out {ad : Nat → Addr} {mb : Nat} {l : List El} (line c : Int) {w : World} (h : MvAt mb l w) (L : Laid ad w) (ho : line < 0 ∨ (nlC (vis l) : Int) < line) :
    Calls Tryz.prog 13 #[pv mb, .int .i64 line, .int .i64 c] w fun e w' => ∃ g, e = .returned (.tuple #[.int .i64 0, fvL g]) ∧ FaultAt ad g bLines bPlace (place line) 1 w' ∧ Below w.heap.size w w' := by
  have HR := hid_of' (lineRef_out bPlace line h L ho)
  unfold pv at *
  clear L h ho
  go_enter Tryz.func13, Tryz.ntmps13
  go_wp2_with (go_at_call 31; refine HR.out.mono ?_; rintro r w1 ⟨g, rfl, hf, hb1⟩)
  go_ret2
  exact ⟨g, rfl, hf, hb1⟩
/-- A column cut to a line. -/
def cutC (n : Nat) (c : Int) : Nat := min c.toNat n
set_option maxHeartbeats 400000 in
theorem place_ok {mb : Nat} {l : List El} (j : Nat) (c : Int) {w : World} (h : MvAt mb l w) (hn : l.length ≤ 1000000) (hj : j ≤ nlC (vis l)) :
    Calls Tryz.prog 13 #[pv mb, .int .i64 (j : Int), .int .i64 c] w fun e w' => e = .returned (.tuple #[.int .i64 ((stC (vis l) j + cutC (enC (vis l) j - stC (vis l) j) c : Nat) : Int), .nilIface]) ∧ Below w.heap.size w w' := by
  have HR := hid_of' (lineRef_ok bPlace j h hj)
  have HE : Hid (∀ x, Below w.heap.size w x → _) := fun x hx => ends_any (h.later hx) j hn hj
  obtain ⟨a1, a2⟩ := st_en (vis l) j hj
  have h2 := vis_le l
  unfold pv at *
  clear h hj
  go_enter Tryz.func13, Tryz.ntmps13
  go_upto_region 5 with (first | (go_at_call 31; refine HR.out.mono ?_; rintro r w1 ⟨rfl, hb1⟩) | (go_at_call 32; refine (HE.out _ hb1).mono ?_; rintro r w2 ⟨rfl, hb2⟩))
  go_wp2
  go_ret2
  refine ⟨?_, bgo hb1 hb2⟩
  show Ending.returned (.tuple #[.int .i64 ((stC (vis l) j : Int) + min (max c 0) ((enC (vis l) j : Int) - (stC (vis l) j : Int))), .nilIface]) = _
  rw [show (stC (vis l) j : Int) + min (max c 0) ((enC (vis l) j : Int) - (stC (vis l) j : Int)) = ((stC (vis l) j + cutC (enC (vis l) j - stC (vis l) j) c : Nat) : Int) by unfold cutC; omega]
set_option maxHeartbeats 400000 in
theorem refWhere_ok {w : World} {va : Value} {v : List Int} (hA : SlRR w va (spl v)) (p : Nat) (hp : p ≤ v.length) (hn : v.length ≤ 1000000) :
    Calls Tryz.prog 18 #[va, .int .i64 (p : Int)] w fun r w' => ∃ j : Nat, r = .returned (.tuple #[.int .i64 (j : Int), .int .i64 ((p - stC v j : Nat) : Int)]) ∧ InL v j p ∧ w' = w := by
  obtain ⟨g, c, rfl, hg, hc⟩ := hA
  have hlen := spl_len v
  have hnl := nlC_b v
  replace hlen := hid_of' hlen
  go_enter Tryz.func18, Tryz.ntmps18
  go_wp2
  go_loopw [1, 6] (fun pv_ iv wr => ∃ i : Nat, pv_ = .int .i64 ((p - stC v i : Nat) : Int) ∧ iv = .int .i64 (i : Int) ∧ i ≤ nlC v ∧ stC v i ≤ p ∧ wr = w) (fun _ iv _ => nlC v + 1 - (intOf iv).toNat)
  case atStart => exact ⟨0, rfl, rfl, Nat.zero_le _, Nat.zero_le _, rfl⟩
  case round =>
    obtain ⟨i, rfl, rfl, hi, hs, rfl⟩ := hrel
    obtain ⟨a, k, hcell, _⟩ := hc i _ (tx_at v i hi)
    have q2 : (i : Int) < ((spl v).length : Int) := by rw [hlen.out]; omega
    obtain ⟨s1, s2⟩ := st_en v i hi
    have hl := tx_len v i hi
    by_cases hlt : enC v i < p
    · have hi2 : i < nlC v := by
        rcases Nat.lt_or_ge i (nlC v) with h | h
        · exact h
        · exfalso; have : i = nlC v := by omega
          unfold enC at hlt; rw [if_pos this] at hlt; omega
      have hnx := st_next v i hi2
      have q1 : ((txC v i).length : Int) < ((p - stC v i : Nat) : Int) := by rw [hl]; omega
      have hw2 : Hid (((p - stC v i : Nat) : Int) - ((txC v i).length : Int) - 1 = ((p - stC v (i + 1) : Nat) : Int)) := by show _ = _; omega
      have hle : stC v (i + 1) ≤ p := by omega
      clear hl hnx s1 s2 hlt
      go_wp2
      go_roundw
      case rel => exact ⟨i + 1, by rw [hw2.out], by go_num, by omega, hle, trivial⟩
      case measure => simp [intOf]; omega
    · have q1 : ¬ ((txC v i).length : Int) < ((p - stC v i : Nat) : Int) := by rw [hl]; omega
      clear hl
      go_wp2
      go_ret2
      exact ⟨i, rfl, ⟨hi, hs, by omega⟩, rfl⟩
end Go.Proofs.YtdmiibihibikdaaGreatDoor
namespace Go.Proofs.YtdmiibihibikdaaGreatDoor
open Go.RowKit Go.Extern.Stop Go.Stop Go.Extern Go.ChangeShapes Go.WideShapes Go.ChangeAt Go.Deep
set_option maxRecDepth 100000

/-- A list of spots. -/
def SlS (w : World) (v : Value) (l : List (Int × Int)) : Prop := (l = [] ∧ ∃ a c, v = .slice a 0 c) ∨ ∃ g o_ c, v = .slice (some ⟨g, o_, none⟩) l.length c ∧ g < w.heap.size ∧ ∀ (i : Nat) (x : Int × Int), l[i]? = some x → w.cell? ⟨g, o_ + i * 2, none⟩ = some (.int .i64 x.1) ∧ w.cell? ⟨g, o_ + i * 2 + 1, none⟩ = some (.int .i64 x.2)
theorem SlS.form {w : World} {v : Value} {cs : List (Int × Int)} (h : SlS w v cs) : ∃ a c, v = .slice a cs.length c := by
  rcases h with ⟨h, a, c, e⟩ | ⟨g, o_, c, e, _⟩
  · subst h; exact ⟨a, c, e⟩
  · exact ⟨_, _, e⟩
theorem SlS.at {w : World} {v : Value} {cs : List (Int × Int)} (h : SlS w v cs) {i : Nat} {x : Int × Int} (hx : cs[i]? = some x) : ∃ g o_ c, v = .slice (some ⟨g, o_, none⟩) cs.length c ∧ ∀ w', Below w.heap.size w w' → w'.cell? ⟨g, o_ + i * 2, none⟩ = some (.int .i64 x.1) ∧ w'.cell? ⟨g, o_ + i * 2 + 1, none⟩ = some (.int .i64 x.2) := by
  rcases h with ⟨h, _⟩ | ⟨g, o_, c, e, hg, hc⟩
  · subst h; simp at hx
  · refine ⟨g, o_, c, e, fun w' hb => ?_⟩
    obtain ⟨h1, h2⟩ := hc i x hx
    exact ⟨by rw [hb.cell (p := ⟨g, o_ + i * 2, none⟩) hg]; exact h1, by rw [hb.cell (p := ⟨g, o_ + i * 2 + 1, none⟩) hg]; exact h2⟩

/-- The error of Place. -/
def ErrP (ad : Nat → Addr) (l : List El) (ln : Int) (e : Value) (w : World) : Prop := ((ln < 0 ∨ (nlC (vis l) : Int) < ln) ∧ ∃ g, e = fvL g ∧ FaultAt ad g bLines bPlace (place ln) 1 w) ∨ (¬ (ln < 0 ∨ (nlC (vis l) : Int) < ln) ∧ e = .nilIface)
theorem ErrP.later {ad : Nat → Addr} {l : List El} {ln : Int} {e : Value} {w w' : World} (h : ErrP ad l ln e w) (hb : Below w.heap.size w w') : ErrP ad l ln e w' := by
  rcases h with ⟨h, g, h1, h2⟩ | h
  · exact .inl ⟨h, g, h1, RowAt.later h2 hb⟩
  · exact .inr h
/-- The number that Place tells. -/
def plN (l : List El) (ln c : Int) : Int := if ln < 0 ∨ (nlC (vis l) : Int) < ln then 0 else ((stC (vis l) ln.toNat + cutC (enC (vis l) ln.toNat - stC (vis l) ln.toNat) c : Nat) : Int)
theorem place_any {ad : Nat → Addr} {mb : Nat} {l : List El} (ln c : Int) {w : World} (h : MvAt mb l w) (L : Laid ad w) (hn : l.length ≤ 1000000) :
    Calls Tryz.prog 13 #[.pointer (some ⟨mb, 0, none⟩), .int .i64 ln, .int .i64 c] w fun r w' => ∃ e, r = .returned (.tuple #[.int .i64 (plN l ln c), e]) ∧ ErrP ad l ln e w' ∧ Below w.heap.size w w' := by
  by_cases ho : ln < 0 ∨ (nlC (vis l) : Int) < ln
  · refine (place_out ln c h L ho).mono ?_
    rintro r w' ⟨g, rfl, hf, hb⟩
    exact ⟨_, by unfold plN; rw [if_pos ho], .inl ⟨ho, g, rfl, hf⟩, hb⟩
  · obtain ⟨j, rfl⟩ := Int.eq_ofNat_of_zero_le (show 0 ≤ ln by omega)
    refine (place_ok j c h hn (by omega)).mono ?_
    rintro r w' ⟨rfl, hb⟩
    exact ⟨_, by unfold plN; rw [if_neg ho]; rfl, .inr ⟨ho, rfl⟩, hb⟩
theorem cellsInt6 : Tryz.prog.cellsOf 3 = 1 := by kernel_rfl
theorem cellsSpot : Tryz.prog.cellsOf 40 = 2 := by kernel_rfl
section
variable {H : Type} {enc : TypeId × Value → H} {W : World} {base : Nat}
theorem open_spots {v : Value} {d : DataW H} {p : List MemPlace} (hval : Value.okWide Tryz.prog W .any base 34 v) (h : DataW.Trod enc Tryz.prog W 0 (fun _ => true) true 34 v d p) :
    ∃ l, SlS W v l := by
  obtain ⟨a1, len, cap, rfl⟩ := okWide_slice Tryz.underlying34 hval
  obtain ⟨fuel, hf⟩ := h
  rcases open_slice Tryz.underlying34 hf with ⟨hcs, hx⟩ | ⟨a, len', cap', m, n, D, Pl, hcs, _, hl, hm, hmm, hx, hcell⟩
  · simp [Value.cells] at hcs
    obtain ⟨rfl, rfl, rfl⟩ := hcs
    exact ⟨[], .inl ⟨rfl, _, _, rfl⟩⟩
  · simp [Value.cells] at hcs
    obtain ⟨rfl, rfl, rfl⟩ := hcs
    simp only [if_true] at hmm
    subst hmm
    have each : ∀ i, i < len → ∃ x : Int × Int, W.cell? (a.add (i * 2)) = some (.int .i64 x.1) ∧ W.cell? (a.add (i * 2 + 1)) = some (.int .i64 x.2) := by
      intro i hi
      obtain ⟨cs', h1, h2⟩ := hcell i (by omega)
      rw [cellsSpot] at h1
      obtain ⟨_, hlen, hc⟩ := World.cells?_some h1
      obtain ⟨y0, y1, k', _, _, g0, g1⟩ := trod_struct2 Tryz.underlying40 h2
      simp only [cellsInt6] at g0 g1
      obtain ⟨i0, e0, _, _⟩ := DataW.trod_int Tryz.underlying3 g0
      obtain ⟨i1, e1, _, _⟩ := DataW.trod_int Tryz.underlying3 g1
      match cs', hlen with
      | [x0, x1], _ =>
        simp at e0 e1
        subst e0 e1
        have k0 := hc 0 (by omega)
        have k1 := hc 1 (by omega)
        rw [add_add] at k0 k1
        exact ⟨(i0, i1), k0, k1⟩
    obtain ⟨f, hf⟩ := choose_lt (α := Int × Int) each
    refine ⟨(List.range len).map f, ?_⟩
    by_cases h0 : len = 0
    · subst h0
      exact .inl ⟨by simp, _, _, rfl⟩
    · obtain ⟨ab, ao, spot⟩ := a
      have c0 := (hf 0 (by omega)).1
      have hspot : spot = none := by simpa [Addr.add] using World.cell?_spot c0
      subst hspot
      have hblk : ab < W.heap.size := by
        have := World.block_lt_of_cell? _ _ c0
        simpa [Addr.add] using this
      refine .inr ⟨ab, ao, _, by rw [List.length_map, List.length_range], hblk, fun i x hi => ?_⟩
      have hil : i < len := by have := (List.getElem?_eq_some_iff.1 hi).1; simpa using this
      have hx : f i = x := by
        simp only [List.getElem?_map, List.getElem?_range hil, Option.map_some, Option.some.injEq] at hi
        exact hi
      have := hf i hil
      rw [hx, Addr.add_lit, Addr.add_lit] at this
      exact ⟨this.1, by rw [Nat.add_assoc]; exact this.2⟩
end

set_option maxHeartbeats 8000000 in
theorem linesPlaces_all {ad : Nat → Addr} {W : World} {v0 v1 v2 : Value} {cs : List Int} {hs : List Bool} {ks : List (Int × Int)} (L : Laid ad W) (h0 : SlR W v0 cs) (h1 : SlB W v1 hs) (h2 : SlS W v2 ks) :
    Calls Tryz.prog 4 #[v0, v1, v2] W fun r w' => r = .returned (.bool true) ∧ Below W.heap.size W w' := by
  have HBg := hid_of' (begun_ok h0 h1)
  obtain ⟨a0, c0, rfl⟩ := h0.form
  obtain ⟨a1, c1, rfl⟩ := h1.form
  obtain ⟨a2, c2, rfl⟩ := h2.form
  have hall := bgE_all (cs := cs) (hs := hs) (bgN cs)
  have hN : bgN cs ≤ 150 := by unfold bgN; omega
  have hln : (bgE cs hs (bgN cs)).length ≤ 150 := by omega
  clear hall hN
  generalize bgE cs hs (bgN cs) = l at *
  have hvl := vis_le l
  have HS : Hid (∀ (x : World) (u : Value), SlR x u (vis l) → _) := fun x u hu => refSplit_ok hu (by omega)
  have HW : Hid (∀ x : World, Laid ad x → _) := fun x L => wakes6_ok x L
  have LL := hid_of' L
  clear L h0 h1
  unfold pv at HBg
  go_enter Tryz.func4, Tryz.ntmps4
  go_upto_region 2 with (go_at_call 8; refine HBg.out.mono ?_; rintro r w1 ⟨mb, vs, rfl, hM1, hR1, hb1⟩)
  obtain ⟨as_, cs_, hvs⟩ := hR1.form
  subst hvs
  go_upto_region 5 with (go_at_call 9; refine (HS.out _ _ hR1).mono ?_; rintro r w2 ⟨va, rfl, hA2, hb2⟩)
  have hB2 := bgo hb1 hb2
  have hM2 := hM1.later hb2
  obtain ⟨ga, ca, rfl, hga, hcs⟩ := hA2
  have hA2 : SlRR w2 (.slice (some ⟨ga, 0, none⟩) (spl (vis l)).length ca) (spl (vis l)) := ⟨ga, ca, rfl, hga, hcs⟩
  clear hcs HBg HS hR1 hM1 hb1 hb2
  go_wp2
  go_loopw [10] (fun i wr => ∃ k : Nat, i = .int .i64 (k : Int) ∧ k ≤ min ks.length 100 ∧ Below w2.heap.size w2 wr) (fun i _ => 100 - (intOf i).toNat)
  case atStart => exact ⟨0, rfl, Nat.zero_le _, Below.refl _ _⟩
  case round =>
    obtain ⟨k, rfl, hk, hBr⟩ := hrel
    have hB := bgo hB2 hBr
    have hM := hM2.later hBr
    have hA := hA2.later hBr
    by_cases hlt : k < min ks.length 100
    · have q1 : (k : Int) < (ks.length : Int) := by omega
      have q2 : (k : Int) < 100 := by omega
      have p1 : 0 ≤ (k : Int) := by omega
      have p2 : k < ks.length := by omega
      obtain ⟨⟨ln, c⟩, hx⟩ : ∃ x, ks[k]? = some x := ⟨_, List.getElem?_eq_getElem (by omega)⟩
      obtain ⟨g, o_, cc, hv, hcell⟩ := h2.at hx
      simp only [Value.slice.injEq] at hv
      obtain ⟨rfl, _, rfl⟩ := hv
      have HX := hid_of' hcell
      obtain ⟨num, hnum⟩ : ∃ num, num = plN l ln c := ⟨_, rfl⟩
      have HP : Hid (∀ x, Below wr.heap.size wr x → Calls Tryz.prog 13 #[.pointer (some ⟨mb, 0, none⟩), .int .i64 ln, .int .i64 c] x fun r w' => ∃ e, r = .returned (.tuple #[.int .i64 num, e]) ∧ ErrP ad l ln e w' ∧ Below x.heap.size x w') := fun x hx => by rw [hnum]; exact place_any ln c (hM.later hx) (LL.out.below (bgo hB hx)) (by omega)
      replace hnum := hid_of' hnum
      clear hcell
      go_upto_region 8 with fail
      refine wp_region_tail 17 (by kernel_rfl) (fun _ => none) (by kernel_rfl) (by kernel_rfl) (by decide) (fun i v x => match i with
        | 0 => v = (.pointer (some ⟨mb, 0, none⟩))
        | 1 => v = (.slice (some ⟨g, o_, none⟩) ks.length c2)
        | 2 => v = (.int .i64 (k : Int))
        | 3 => v = (.pointer (some ⟨g, o_ + k * 2, none⟩))
        | 4 => v = (.pointer (some ⟨g, o_ + k * 2, none⟩))
        | 5 => v = (.int .i64 ln)
        | 6 => v = (.slice (some ⟨g, o_, none⟩) ks.length c2)
        | 7 => v = (.int .i64 (k : Int))
        | 8 => v = (.pointer (some ⟨g, o_ + k * 2, none⟩))
        | 9 => v = (.pointer (some ⟨g, o_ + k * 2 + 1, none⟩))
        | 10 => v = (.int .i64 c)
        | 11 => ∃ e, v = .tuple #[.int .i64 num, e] ∧ ErrP ad l ln e x
        | 12 => ∃ e, v = .tuple #[.int .i64 num, e] ∧ ErrP ad l ln e x
        | 13 => v = .int .i64 num
        | 14 => ErrP ad l ln v x
        | 15 => v = .int .i64 num
        | 16 => ErrP ad l ln v x
        | _ => True) (fun _ => false) (fun _ _ _ _ h => by cases h) ?_ ?_ ?_
      · intro i v x x' hR hb
        match i, hR with
        | 0, h => exact h
        | 1, h => exact h
        | 2, h => exact h
        | 3, h => exact h
        | 4, h => exact h
        | 5, h => exact h
        | 6, h => exact h
        | 7, h => exact h
        | 8, h => exact h
        | 9, h => exact h
        | 10, h => exact h
        | 11, h => obtain ⟨e, h1, h2⟩ := h; exact ⟨e, h1, h2.later hb⟩
        | 12, h => obtain ⟨e, h1, h2⟩ := h; exact ⟨e, h1, h2.later hb⟩
        | 13, h => exact h
        | 14, h => exact ErrP.later h hb
        | 15, h => exact h
        | 16, h => exact ErrP.later h hb
        | m + 17, h => exact h
      · intro i o hi ho q x vals hX hdep hoth
        have t7 : q.tmps[7]? = some (.pointer (some ⟨mb, 0, none⟩)) := by rw [hoth 7 (by kernel_rfl)]; rfl
        have t2 : q.tmps[2]? = some (.slice (some ⟨g, o_, none⟩) ks.length c2) := by rw [hoth 2 (by kernel_rfl)]; rfl
        have t10 : q.tmps[10]? = some (.int .i64 (k : Int)) := by rw [hoth 10 (by kernel_rfl)]; rfl
        obtain ⟨k0, k1⟩ := HX.out x (bgo hB hX)
        match i, hi, ho with
        | 0, _, ho =>
          simp only [List.getElem?_cons_zero, Option.some.injEq] at ho
          subst ho
          unfold Oper.wp
          simp [execOp, go_sem, t7]
          exact came _ rfl (Below.refl _ _) rfl (fun h => absurd h (by decide))
        | 1, _, ho =>
          simp only [List.getElem?_cons_succ, List.getElem?_cons_zero, Option.some.injEq] at ho
          subst ho
          unfold Oper.wp
          simp [execOp, go_sem, t2]
          exact came _ rfl (Below.refl _ _) rfl (fun h => absurd h (by decide))
        | 2, _, ho =>
          simp only [List.getElem?_cons_succ, List.getElem?_cons_zero, Option.some.injEq] at ho
          subst ho
          unfold Oper.wp
          simp [execOp, go_sem, t10]
          exact came _ rfl (Below.refl _ _) rfl (fun h => absurd h (by decide))
        | 3, _, ho =>
          simp only [List.getElem?_cons_succ, List.getElem?_cons_zero, Option.some.injEq] at ho
          subst ho
          obtain ⟨u1, e1⟩ := hdep ⟨1, .data⟩ (by simp) rfl _ 44 rfl rfl
          rw [show vals 1 = (.slice (some ⟨g, o_, none⟩) ks.length c2) from e1] at u1
          obtain ⟨u2, e2⟩ := hdep ⟨2, .data⟩ (by simp) rfl _ 45 rfl rfl
          rw [show vals 2 = (.int .i64 (k : Int)) from e2] at u2
          unfold Oper.wp
          simp [execOp, go_sem, u1, u2, p1, p2]
          exact came _ rfl (Below.refl _ _) rfl (fun h => absurd h (by decide))
        | 4, _, ho =>
          simp only [List.getElem?_cons_succ, List.getElem?_cons_zero, Option.some.injEq] at ho
          subst ho
          obtain ⟨u3, e3⟩ := hdep ⟨3, .data⟩ (by simp) rfl _ 46 rfl rfl
          rw [show vals 3 = (.pointer (some ⟨g, o_ + k * 2, none⟩)) from e3] at u3
          unfold Oper.wp
          simp [execOp, go_sem, u3]
          exact came _ rfl (Below.refl _ _) rfl (fun h => absurd h (by decide))
        | 5, _, ho =>
          simp only [List.getElem?_cons_succ, List.getElem?_cons_zero, Option.some.injEq] at ho
          subst ho
          obtain ⟨u4, e4⟩ := hdep ⟨4, .data⟩ (by simp) rfl _ 47 rfl rfl
          rw [show vals 4 = (.pointer (some ⟨g, o_ + k * 2, none⟩)) from e4] at u4
          unfold Oper.wp
          simp [execOp, go_sem, u4, k0]
          exact came _ rfl (Below.refl _ _) rfl (fun h => absurd h (by decide))
        | 6, _, ho =>
          simp only [List.getElem?_cons_succ, List.getElem?_cons_zero, Option.some.injEq] at ho
          subst ho
          unfold Oper.wp
          simp [execOp, go_sem, t2]
          exact came _ rfl (Below.refl _ _) rfl (fun h => absurd h (by decide))
        | 7, _, ho =>
          simp only [List.getElem?_cons_succ, List.getElem?_cons_zero, Option.some.injEq] at ho
          subst ho
          unfold Oper.wp
          simp [execOp, go_sem, t10]
          exact came _ rfl (Below.refl _ _) rfl (fun h => absurd h (by decide))
        | 8, _, ho =>
          simp only [List.getElem?_cons_succ, List.getElem?_cons_zero, Option.some.injEq] at ho
          subst ho
          obtain ⟨u6, e6⟩ := hdep ⟨6, .data⟩ (by simp) rfl _ 49 rfl rfl
          rw [show vals 6 = (.slice (some ⟨g, o_, none⟩) ks.length c2) from e6] at u6
          obtain ⟨u7, e7⟩ := hdep ⟨7, .data⟩ (by simp) rfl _ 50 rfl rfl
          rw [show vals 7 = (.int .i64 (k : Int)) from e7] at u7
          unfold Oper.wp
          simp [execOp, go_sem, u6, u7, p1, p2]
          exact came _ rfl (Below.refl _ _) rfl (fun h => absurd h (by decide))
        | 9, _, ho =>
          simp only [List.getElem?_cons_succ, List.getElem?_cons_zero, Option.some.injEq] at ho
          subst ho
          obtain ⟨u8, e8⟩ := hdep ⟨8, .data⟩ (by simp) rfl _ 51 rfl rfl
          rw [show vals 8 = (.pointer (some ⟨g, o_ + k * 2, none⟩)) from e8] at u8
          unfold Oper.wp
          simp [execOp, go_sem, u8]
          exact came _ rfl (Below.refl _ _) rfl (fun h => absurd h (by decide))
        | 10, _, ho =>
          simp only [List.getElem?_cons_succ, List.getElem?_cons_zero, Option.some.injEq] at ho
          subst ho
          obtain ⟨u9, e9⟩ := hdep ⟨9, .data⟩ (by simp) rfl _ 52 rfl rfl
          rw [show vals 9 = (.pointer (some ⟨g, o_ + k * 2 + 1, none⟩)) from e9] at u9
          unfold Oper.wp
          simp [execOp, go_sem, u9, k1]
          exact came _ rfl (Below.refl _ _) rfl (fun h => absurd h (by decide))
        | 11, _, ho =>
          simp only [List.getElem?_cons_succ, List.getElem?_cons_zero, Option.some.injEq] at ho
          subst ho
          obtain ⟨u0, e0⟩ := hdep ⟨0, .data⟩ (by simp) rfl _ 43 rfl rfl
          rw [show vals 0 = (.pointer (some ⟨mb, 0, none⟩)) from e0] at u0
          obtain ⟨u5, e5⟩ := hdep ⟨5, .data⟩ (by simp) rfl _ 48 rfl rfl
          rw [show vals 5 = (.int .i64 ln) from e5] at u5
          obtain ⟨u10, e10⟩ := hdep ⟨10, .data⟩ (by simp) rfl _ 53 rfl rfl
          rw [show vals 10 = (.int .i64 c) from e10] at u10
          unfold Oper.wp
          simp [go_sem, u0, u5, u10]
          refine (HP.out _ hX).mono ?_
          rintro r x1 ⟨e, rfl, he, hb1⟩
          exact came _ rfl hb1 ⟨e, rfl, he⟩ (fun h => absurd h (by decide))
        | 12, _, ho =>
          simp only [List.getElem?_cons_succ, List.getElem?_cons_zero, Option.some.injEq] at ho
          subst ho
          obtain ⟨u11, e, e11, he⟩ := hdep ⟨11, .data⟩ (by simp) rfl _ 54 rfl rfl
          rw [e11] at u11
          unfold Oper.wp
          simp [execOp, go_sem, u11]
          exact came _ rfl (Below.refl _ _) ⟨e, rfl, he⟩ (fun h => absurd h (by decide))
        | 13, _, ho =>
          simp only [List.getElem?_cons_succ, List.getElem?_cons_zero, Option.some.injEq] at ho
          subst ho
          obtain ⟨u12, e, e12, he⟩ := hdep ⟨12, .data⟩ (by simp) rfl _ 42 rfl rfl
          rw [e12] at u12
          unfold Oper.wp
          simp [execOp, go_sem, u12]
          exact came _ rfl (Below.refl _ _) rfl (fun h => absurd h (by decide))
        | 14, _, ho =>
          simp only [List.getElem?_cons_succ, List.getElem?_cons_zero, Option.some.injEq] at ho
          subst ho
          obtain ⟨u12, e, e12, he⟩ := hdep ⟨12, .data⟩ (by simp) rfl _ 42 rfl rfl
          rw [e12] at u12
          unfold Oper.wp
          simp [execOp, go_sem, u12]
          exact came _ rfl (Below.refl _ _) he (fun h => absurd h (by decide))
        | 15, _, ho =>
          simp only [List.getElem?_cons_succ, List.getElem?_cons_zero, Option.some.injEq] at ho
          subst ho
          obtain ⟨u13, e13⟩ := hdep ⟨13, .data⟩ (by simp) rfl _ 55 rfl rfl
          rw [show vals 13 = .int .i64 num from e13] at u13
          unfold Oper.wp
          simp [execOp, go_sem, u13]
          exact came _ rfl (Below.refl _ _) rfl (fun h => absurd h (by decide))
        | 16, _, ho =>
          simp only [List.getElem?_cons_succ, List.getElem?_cons_zero, Option.some.injEq] at ho
          subst ho
          obtain ⟨u14, e14⟩ := hdep ⟨14, .data⟩ (by simp) rfl _ 56 rfl rfl
          replace e14 : ErrP ad l ln (vals 14) x := e14
          generalize vals 14 = ve at u14 e14
          unfold Oper.wp
          simp [execOp, go_sem, u14]
          exact came _ rfl (Below.refl _ _) e14 (fun h => absurd h (by decide))
        | m + 17, hi, _ => exact absurd hi (by omega)
      · intro vals x hX hR _
        have r15 : vals 15 = .int .i64 num := hR 15 (by decide)
        have rE : ErrP ad l ln (vals 16) x := hR 16 (by decide)
        clear hR HP
        simp only [List.take, List.drop, putAll, r15]
        simp only [List.setIfInBounds_toArray, List.set_cons_succ, List.set_cons_zero]
        generalize vals 16 = e at *
        generalize vals 14 = e14 at *
        have hBx := bgo hB hX
        have hMx := hM.later hX
        have hAx := hA.later hX
        obtain ⟨x0, x1⟩ := HX.out x hBx
        replace hk : k ≤ min ks.length 100 := hk
        clear hA hM hA2 hM2 hB2 hB h2 r15 hx
        rcases rE with ⟨ho, gp, rfl, hfp⟩ | ⟨ho, rfl⟩
        · have hn0 : num = 0 := by rw [hnum.out]; unfold plN; rw [if_pos ho]
          clear hnum
          subst hn0
          by_cases a1 : ln < 0
          · skip
            by_cases hc0 : c < 0
            · skip
              have HN := hid_of' (no6_true bPlace ln)
              have HR : Hid (∀ (b g g' : Nat) (y : World), Below x.heap.size x y → _) := fun b g g' y hy => @refL_some ad b g g' bPlace (place ln) y (LL.out.below (bgo hBx hy))
              go_upto_region 20 with (first | (go_at_call 16; refine (HN.out _).mono ?_; clear HN; rintro r w4 ⟨g4, h4, rfl, k4, m4, hb4⟩; replace hfp : FaultAt ad gp bLines bPlace (place ln) 1 w4 := RowAt.later hfp hb4) | (go_at_call 15; with_reducible refine (HR.out _ _ _ _ hb4 hfp k4 m4).mono ?_; rintro r w5 ⟨rfl, hb5⟩))
              have hby := bgo hb4 hb5
              clear HR hfp k4 m4
              obtain ⟨z0, z1⟩ := HX.out _ (bgo hBx hby)
              have b1 : c < 0 := hc0
              have hoB : c < 0 ∨ ((vis l).length : Int) < c := .inl b1
              have HWh := hid_of' (where_out c (hMx.later hby) (LL.out.below (bgo hBx hby)) hoB)
              have HN2 := hid_of' (no6_true bWhere c)
              have HR2 : Hid (∀ (b g g' : Nat) (y : World), Below x.heap.size x y → _) := fun b g g' y hy => @refL_some ad b g g' bWhere (place c) y (LL.out.below (bgo hBx hy))
              clear hoB
              unfold pv at HWh
              go_wp2_with (first | (go_at_call 17; with_reducible refine HWh.out.mono ?_; clear HWh; rintro r w6 ⟨g6, rfl, f6, hb6⟩; have hB6 := bgo hby hb6) | (go_at_call 16; refine (HN2.out _).mono ?_; clear HN2; rintro r w7 ⟨g7, h7, rfl, k7, m7, hb7⟩; have hB7 := bgo hB6 hb7; replace f6 : FaultAt ad g6 bLines bWhere (place c) 1 w7 := RowAt.later f6 hb7) | (go_at_call 15; with_reducible refine (HR2.out _ _ _ _ hB7 f6 k7 m7).mono ?_; rintro r w8 ⟨rfl, hb8⟩))
              have hBe := bgo hB7 hb8
              go_roundw
              case rel => exact ⟨k + 1, by go_num, by omega, bgo hBr (bgo hX hBe)⟩
              case measure => simp [intOf]; omega
            · obtain ⟨p, rfl⟩ : ∃ p : Nat, c = p := ⟨c.toNat, by omega⟩
              clear hc0
              by_cases hcl : (p : Int) ≤ ((vis l).length : Int)
              · skip
                have HN := hid_of' (no6_true bPlace ln)
                have HR : Hid (∀ (b g g' : Nat) (y : World), Below x.heap.size x y → _) := fun b g g' y hy => @refL_some ad b g g' bPlace (place ln) y (LL.out.below (bgo hBx hy))
                go_upto_region 20 with (first | (go_at_call 16; refine (HN.out _).mono ?_; clear HN; rintro r w4 ⟨g4, h4, rfl, k4, m4, hb4⟩; replace hfp : FaultAt ad gp bLines bPlace (place ln) 1 w4 := RowAt.later hfp hb4) | (go_at_call 15; with_reducible refine (HR.out _ _ _ _ hb4 hfp k4 m4).mono ?_; rintro r w5 ⟨rfl, hb5⟩))
                have hby := bgo hb4 hb5
                clear HR hfp k4 m4
                obtain ⟨z0, z1⟩ := HX.out _ (bgo hBx hby)
                have b1 : ¬ (p : Int) < 0 := by omega
                have b2 : ¬ (vis l).length < p := by omega
                have b3 : decide ((p : Int) < 0) = false := decide_eq_false b1
                clear b1
                have HWh := hid_of' (where_ok p (hMx.later hby) (by omega) (by omega))
                have HRW : Hid (∀ y, Below x.heap.size x y → _) := fun y hy => refWhere_ok (hAx.later hy) p (by omega) (by omega)
                have HN2 := hid_of' (no6_false bWhere (p : Int))
                have R2 : Hid (∀ y, Calls Tryz.prog 15 #[.nilIface, .agg (nov 0 none 0 0 none 0 0)] y fun e w' => e = .returned (.bool true) ∧ Below y.heap.size y w') := fun y => refused_none none none 0 0 0 0 y
                unfold pv at HWh
                go_wp2_with (first | (go_at_call 17; with_reducible refine HWh.out.mono ?_; clear HWh; rintro r w6 ⟨j6, rfl, i6, hb6⟩; have hB6 := bgo hby hb6) | (go_at_call 18; with_reducible refine (HRW.out _ hB6).mono ?_; rintro r w7 ⟨j7, rfl, i7, hw7⟩; obtain rfl := hw7.symm; obtain rfl := in_one i6 i7) | (go_at_call 16; refine (HN2.out _).mono ?_; clear HN2; rintro r w7 ⟨rfl, hb7⟩; have hB7 := bgo hB6 hb7) | (go_at_call 15; with_reducible refine (R2.out _).mono ?_; rintro r w8 ⟨rfl, hb8⟩))
                have hBe := bgo hB7 hb8
                go_roundw
                case rel => exact ⟨k + 1, by go_num, by omega, bgo hBr (bgo hX hBe)⟩
                case measure => simp [intOf]; omega
              · skip
                have HN := hid_of' (no6_true bPlace ln)
                have HR : Hid (∀ (b g g' : Nat) (y : World), Below x.heap.size x y → _) := fun b g g' y hy => @refL_some ad b g g' bPlace (place ln) y (LL.out.below (bgo hBx hy))
                go_upto_region 20 with (first | (go_at_call 16; refine (HN.out _).mono ?_; clear HN; rintro r w4 ⟨g4, h4, rfl, k4, m4, hb4⟩; replace hfp : FaultAt ad gp bLines bPlace (place ln) 1 w4 := RowAt.later hfp hb4) | (go_at_call 15; with_reducible refine (HR.out _ _ _ _ hb4 hfp k4 m4).mono ?_; rintro r w5 ⟨rfl, hb5⟩))
                have hby := bgo hb4 hb5
                clear HR hfp k4 m4
                obtain ⟨z0, z1⟩ := HX.out _ (bgo hBx hby)
                have b1 : ¬ (p : Int) < 0 := by omega
                have b2 : ((vis l).length : Int) < (p : Int) := by omega
                have hoB : (p : Int) < 0 ∨ ((vis l).length : Int) < (p : Int) := .inr b2
                have HWh := hid_of' (where_out (p : Int) (hMx.later hby) (LL.out.below (bgo hBx hby)) hoB)
                have HN2 := hid_of' (no6_true bWhere (p : Int))
                have HR2 : Hid (∀ (b g g' : Nat) (y : World), Below x.heap.size x y → _) := fun b g g' y hy => @refL_some ad b g g' bWhere (place (p : Int)) y (LL.out.below (bgo hBx hy))
                clear hoB
                unfold pv at HWh
                go_wp2_with (first | (go_at_call 17; with_reducible refine HWh.out.mono ?_; clear HWh; rintro r w6 ⟨g6, rfl, f6, hb6⟩; have hB6 := bgo hby hb6) | (go_at_call 16; refine (HN2.out _).mono ?_; clear HN2; rintro r w7 ⟨g7, h7, rfl, k7, m7, hb7⟩; have hB7 := bgo hB6 hb7; replace f6 : FaultAt ad g6 bLines bWhere (place (p : Int)) 1 w7 := RowAt.later f6 hb7) | (go_at_call 15; with_reducible refine (HR2.out _ _ _ _ hB7 f6 k7 m7).mono ?_; rintro r w8 ⟨rfl, hb8⟩))
                have hBe := bgo hB7 hb8
                go_roundw
                case rel => exact ⟨k + 1, by go_num, by omega, bgo hBr (bgo hX hBe)⟩
                case measure => simp [intOf]; omega
          · have a2 : ((spl (vis l)).length : Int) ≤ ln := by have := spl_len (vis l); omega
            clear ho
            by_cases hc0 : c < 0
            · skip
              have HN := hid_of' (no6_true bPlace ln)
              have HR : Hid (∀ (b g g' : Nat) (y : World), Below x.heap.size x y → _) := fun b g g' y hy => @refL_some ad b g g' bPlace (place ln) y (LL.out.below (bgo hBx hy))
              go_upto_region 20 with (first | (go_at_call 16; refine (HN.out _).mono ?_; clear HN; rintro r w4 ⟨g4, h4, rfl, k4, m4, hb4⟩; replace hfp : FaultAt ad gp bLines bPlace (place ln) 1 w4 := RowAt.later hfp hb4) | (go_at_call 15; with_reducible refine (HR.out _ _ _ _ hb4 hfp k4 m4).mono ?_; rintro r w5 ⟨rfl, hb5⟩))
              have hby := bgo hb4 hb5
              clear HR hfp k4 m4
              obtain ⟨z0, z1⟩ := HX.out _ (bgo hBx hby)
              have b1 : c < 0 := hc0
              have hoB : c < 0 ∨ ((vis l).length : Int) < c := .inl b1
              have HWh := hid_of' (where_out c (hMx.later hby) (LL.out.below (bgo hBx hby)) hoB)
              have HN2 := hid_of' (no6_true bWhere c)
              have HR2 : Hid (∀ (b g g' : Nat) (y : World), Below x.heap.size x y → _) := fun b g g' y hy => @refL_some ad b g g' bWhere (place c) y (LL.out.below (bgo hBx hy))
              clear hoB
              unfold pv at HWh
              go_wp2_with (first | (go_at_call 17; with_reducible refine HWh.out.mono ?_; clear HWh; rintro r w6 ⟨g6, rfl, f6, hb6⟩; have hB6 := bgo hby hb6) | (go_at_call 16; refine (HN2.out _).mono ?_; clear HN2; rintro r w7 ⟨g7, h7, rfl, k7, m7, hb7⟩; have hB7 := bgo hB6 hb7; replace f6 : FaultAt ad g6 bLines bWhere (place c) 1 w7 := RowAt.later f6 hb7) | (go_at_call 15; with_reducible refine (HR2.out _ _ _ _ hB7 f6 k7 m7).mono ?_; rintro r w8 ⟨rfl, hb8⟩))
              have hBe := bgo hB7 hb8
              go_roundw
              case rel => exact ⟨k + 1, by go_num, by omega, bgo hBr (bgo hX hBe)⟩
              case measure => simp [intOf]; omega
            · obtain ⟨p, rfl⟩ : ∃ p : Nat, c = p := ⟨c.toNat, by omega⟩
              clear hc0
              by_cases hcl : (p : Int) ≤ ((vis l).length : Int)
              · skip
                have HN := hid_of' (no6_true bPlace ln)
                have HR : Hid (∀ (b g g' : Nat) (y : World), Below x.heap.size x y → _) := fun b g g' y hy => @refL_some ad b g g' bPlace (place ln) y (LL.out.below (bgo hBx hy))
                go_upto_region 20 with (first | (go_at_call 16; refine (HN.out _).mono ?_; clear HN; rintro r w4 ⟨g4, h4, rfl, k4, m4, hb4⟩; replace hfp : FaultAt ad gp bLines bPlace (place ln) 1 w4 := RowAt.later hfp hb4) | (go_at_call 15; with_reducible refine (HR.out _ _ _ _ hb4 hfp k4 m4).mono ?_; rintro r w5 ⟨rfl, hb5⟩))
                have hby := bgo hb4 hb5
                clear HR hfp k4 m4
                obtain ⟨z0, z1⟩ := HX.out _ (bgo hBx hby)
                have b1 : ¬ (p : Int) < 0 := by omega
                have b2 : ¬ (vis l).length < p := by omega
                have b3 : decide ((p : Int) < 0) = false := decide_eq_false b1
                clear b1
                have HWh := hid_of' (where_ok p (hMx.later hby) (by omega) (by omega))
                have HRW : Hid (∀ y, Below x.heap.size x y → _) := fun y hy => refWhere_ok (hAx.later hy) p (by omega) (by omega)
                have HN2 := hid_of' (no6_false bWhere (p : Int))
                have R2 : Hid (∀ y, Calls Tryz.prog 15 #[.nilIface, .agg (nov 0 none 0 0 none 0 0)] y fun e w' => e = .returned (.bool true) ∧ Below y.heap.size y w') := fun y => refused_none none none 0 0 0 0 y
                unfold pv at HWh
                go_wp2_with (first | (go_at_call 17; with_reducible refine HWh.out.mono ?_; clear HWh; rintro r w6 ⟨j6, rfl, i6, hb6⟩; have hB6 := bgo hby hb6) | (go_at_call 18; with_reducible refine (HRW.out _ hB6).mono ?_; rintro r w7 ⟨j7, rfl, i7, hw7⟩; obtain rfl := hw7.symm; obtain rfl := in_one i6 i7) | (go_at_call 16; refine (HN2.out _).mono ?_; clear HN2; rintro r w7 ⟨rfl, hb7⟩; have hB7 := bgo hB6 hb7) | (go_at_call 15; with_reducible refine (R2.out _).mono ?_; rintro r w8 ⟨rfl, hb8⟩))
                have hBe := bgo hB7 hb8
                go_roundw
                case rel => exact ⟨k + 1, by go_num, by omega, bgo hBr (bgo hX hBe)⟩
                case measure => simp [intOf]; omega
              · skip
                have HN := hid_of' (no6_true bPlace ln)
                have HR : Hid (∀ (b g g' : Nat) (y : World), Below x.heap.size x y → _) := fun b g g' y hy => @refL_some ad b g g' bPlace (place ln) y (LL.out.below (bgo hBx hy))
                go_upto_region 20 with (first | (go_at_call 16; refine (HN.out _).mono ?_; clear HN; rintro r w4 ⟨g4, h4, rfl, k4, m4, hb4⟩; replace hfp : FaultAt ad gp bLines bPlace (place ln) 1 w4 := RowAt.later hfp hb4) | (go_at_call 15; with_reducible refine (HR.out _ _ _ _ hb4 hfp k4 m4).mono ?_; rintro r w5 ⟨rfl, hb5⟩))
                have hby := bgo hb4 hb5
                clear HR hfp k4 m4
                obtain ⟨z0, z1⟩ := HX.out _ (bgo hBx hby)
                have b1 : ¬ (p : Int) < 0 := by omega
                have b2 : ((vis l).length : Int) < (p : Int) := by omega
                have hoB : (p : Int) < 0 ∨ ((vis l).length : Int) < (p : Int) := .inr b2
                have HWh := hid_of' (where_out (p : Int) (hMx.later hby) (LL.out.below (bgo hBx hby)) hoB)
                have HN2 := hid_of' (no6_true bWhere (p : Int))
                have HR2 : Hid (∀ (b g g' : Nat) (y : World), Below x.heap.size x y → _) := fun b g g' y hy => @refL_some ad b g g' bWhere (place (p : Int)) y (LL.out.below (bgo hBx hy))
                clear hoB
                unfold pv at HWh
                go_wp2_with (first | (go_at_call 17; with_reducible refine HWh.out.mono ?_; clear HWh; rintro r w6 ⟨g6, rfl, f6, hb6⟩; have hB6 := bgo hby hb6) | (go_at_call 16; refine (HN2.out _).mono ?_; clear HN2; rintro r w7 ⟨g7, h7, rfl, k7, m7, hb7⟩; have hB7 := bgo hB6 hb7; replace f6 : FaultAt ad g6 bLines bWhere (place (p : Int)) 1 w7 := RowAt.later f6 hb7) | (go_at_call 15; with_reducible refine (HR2.out _ _ _ _ hB7 f6 k7 m7).mono ?_; rintro r w8 ⟨rfl, hb8⟩))
                have hBe := bgo hB7 hb8
                go_roundw
                case rel => exact ⟨k + 1, by go_num, by omega, bgo hBr (bgo hX hBe)⟩
                case measure => simp [intOf]; omega
        · obtain ⟨j, rfl⟩ : ∃ j : Nat, ln = j := ⟨ln.toNat, by omega⟩
          have hj : j ≤ nlC (vis l) := by omega
          have hlen := spl_len (vis l)
          have hnl := nlC_b (vis l)
          have hse := st_en (vis l) j hj
          have htl := tx_len (vis l) j hj
          have hst := sum_st (vis l) j hj
          have hal := sum_st (vis l) (nlC (vis l)) (Nat.le_refl _)
          have hsa := st_en (vis l) (nlC (vis l)) (Nat.le_refl _)
          have hle : sumS (spl (vis l)) (spl (vis l)).length ≤ 100000 := by
            rw [hlen, sumS_next _ _ _ (tx_at (vis l) (nlC (vis l)) (Nat.le_refl _)), hal, tx_len _ _ (Nat.le_refl _)]
            omega
          have HSt : Hid (∀ y, Below x.heap.size x y → _) := fun y hy => refStart_any (hAx.later hy) j (by omega) (by omega) (by omega)
          rw [hst] at HSt
          have hcl0 : ∃ xa xk, x.cell? ⟨ga, j, none⟩ = some (.slice xa (txC (vis l) j).length xk) := by
            obtain ⟨ga', ca', e1, hga', hcs⟩ := hAx
            cases e1
            obtain ⟨xa, xk, h1, _⟩ := hcs j _ (tx_at (vis l) j hj)
            exact ⟨xa, xk, h1⟩
          obtain ⟨xa, xk, hcell⟩ := hcl0
          have hnum' : num = ((stC (vis l) j + cutC (txC (vis l) j).length c : Nat) : Int) := by rw [hnum.out]; unfold plN; rw [if_neg ho, htl]; rfl
          have e1 : ¬ (j : Int) < 0 := by omega
          have e2 : ¬ ((spl (vis l)).length : Int) ≤ (j : Int) := by omega
          have e3 : (j : Int) < ((spl (vis l)).length : Int) := by omega
          have e4 : 0 ≤ (j : Int) := by omega
          have hS1 : stC (vis l) j ≤ 150 := by omega
          have hN1 : (txC (vis l) j).length ≤ (vis l).length := by omega
          clear hnum hst hal hsa hle htl hse hnl hlen ho
          generalize (txC (vis l) j).length = N at *
          generalize stC (vis l) j = S at *
          have n0 : ¬ (N : Int) < 0 := by omega
          by_cases hc0 : c < 0
          · have hn1 : num = (S : Int) := by rw [hnum']; unfold cutC; omega
            clear hnum'
            subst hn1
            have HN := hid_of' (no6_false bPlace (j : Int))
            have R1 : Hid (∀ y, Calls Tryz.prog 15 #[.nilIface, .agg (nov 0 none 0 0 none 0 0)] y fun e w' => e = .returned (.bool true) ∧ Below y.heap.size y w') := fun y => refused_none none none 0 0 0 0 y
            go_upto_region 20 with (first | (go_at_call 14; with_reducible refine (HSt.out _ (Below.refl _ _)).mono ?_; rintro r w3 ⟨rfl, hw3⟩; obtain rfl := hw3.symm) | (go_at_call 16; refine (HN.out _).mono ?_; clear HN; rintro r w4 ⟨rfl, hb4⟩) | (go_at_call 15; with_reducible refine (R1.out _).mono ?_; rintro r w5 ⟨rfl, hb5⟩))
            have hby := bgo hb4 hb5
            clear R1 HSt
            obtain ⟨z0, z1⟩ := HX.out _ (bgo hBx hby)
            have b1 : c < 0 := hc0
            have hoB : c < 0 ∨ ((vis l).length : Int) < c := .inl b1
            have HWh := hid_of' (where_out c (hMx.later hby) (LL.out.below (bgo hBx hby)) hoB)
            have HN2 := hid_of' (no6_true bWhere c)
            have HR2 : Hid (∀ (b g g' : Nat) (y : World), Below x.heap.size x y → _) := fun b g g' y hy => @refL_some ad b g g' bWhere (place c) y (LL.out.below (bgo hBx hy))
            clear hoB
            unfold pv at HWh
            go_wp2_with (first | (go_at_call 17; with_reducible refine HWh.out.mono ?_; clear HWh; rintro r w6 ⟨g6, rfl, f6, hb6⟩; have hB6 := bgo hby hb6) | (go_at_call 16; refine (HN2.out _).mono ?_; clear HN2; rintro r w7 ⟨g7, h7, rfl, k7, m7, hb7⟩; have hB7 := bgo hB6 hb7; replace f6 : FaultAt ad g6 bLines bWhere (place c) 1 w7 := RowAt.later f6 hb7) | (go_at_call 15; with_reducible refine (HR2.out _ _ _ _ hB7 f6 k7 m7).mono ?_; rintro r w8 ⟨rfl, hb8⟩))
            have hBe := bgo hB7 hb8
            go_roundw
            case rel => exact ⟨k + 1, by go_num, by omega, bgo hBr (bgo hX hBe)⟩
            case measure => simp [intOf]; omega
          · obtain ⟨p, rfl⟩ : ∃ p : Nat, c = p := ⟨c.toNat, by omega⟩
            clear hc0
            by_cases hpN : (N : Int) < (p : Int)
            · have hn1 : num = (S : Int) + (N : Int) := by rw [hnum']; unfold cutC; omega
              have hpn : N < p := by omega
              have hp0 : decide ((p : Int) < 0) = false := decide_eq_false (by omega)
              clear hnum'
              subst hn1
              by_cases hcl : (p : Int) ≤ ((vis l).length : Int)
              · skip
                have HN := hid_of' (no6_false bPlace (j : Int))
                have R1 : Hid (∀ y, Calls Tryz.prog 15 #[.nilIface, .agg (nov 0 none 0 0 none 0 0)] y fun e w' => e = .returned (.bool true) ∧ Below y.heap.size y w') := fun y => refused_none none none 0 0 0 0 y
                go_upto_region 20 with (first | (go_at_call 14; with_reducible refine (HSt.out _ (Below.refl _ _)).mono ?_; rintro r w3 ⟨rfl, hw3⟩; obtain rfl := hw3.symm) | (go_at_call 16; refine (HN.out _).mono ?_; clear HN; rintro r w4 ⟨rfl, hb4⟩) | (go_at_call 15; with_reducible refine (R1.out _).mono ?_; rintro r w5 ⟨rfl, hb5⟩))
                have hby := bgo hb4 hb5
                clear R1 HSt
                obtain ⟨z0, z1⟩ := HX.out _ (bgo hBx hby)
                have b1 : ¬ (p : Int) < 0 := by omega
                have b2 : ¬ (vis l).length < p := by omega
                have b3 : decide ((p : Int) < 0) = false := decide_eq_false b1
                clear b1
                have HWh := hid_of' (where_ok p (hMx.later hby) (by omega) (by omega))
                have HRW : Hid (∀ y, Below x.heap.size x y → _) := fun y hy => refWhere_ok (hAx.later hy) p (by omega) (by omega)
                have HN2 := hid_of' (no6_false bWhere (p : Int))
                have R2 : Hid (∀ y, Calls Tryz.prog 15 #[.nilIface, .agg (nov 0 none 0 0 none 0 0)] y fun e w' => e = .returned (.bool true) ∧ Below y.heap.size y w') := fun y => refused_none none none 0 0 0 0 y
                unfold pv at HWh
                go_wp2_with (first | (go_at_call 17; with_reducible refine HWh.out.mono ?_; clear HWh; rintro r w6 ⟨j6, rfl, i6, hb6⟩; have hB6 := bgo hby hb6) | (go_at_call 18; with_reducible refine (HRW.out _ hB6).mono ?_; rintro r w7 ⟨j7, rfl, i7, hw7⟩; obtain rfl := hw7.symm; obtain rfl := in_one i6 i7) | (go_at_call 16; refine (HN2.out _).mono ?_; clear HN2; rintro r w7 ⟨rfl, hb7⟩; have hB7 := bgo hB6 hb7) | (go_at_call 15; with_reducible refine (R2.out _).mono ?_; rintro r w8 ⟨rfl, hb8⟩))
                have hBe := bgo hB7 hb8
                go_roundw
                case rel => exact ⟨k + 1, by go_num, by omega, bgo hBr (bgo hX hBe)⟩
                case measure => simp [intOf]; omega
              · skip
                have HN := hid_of' (no6_false bPlace (j : Int))
                have R1 : Hid (∀ y, Calls Tryz.prog 15 #[.nilIface, .agg (nov 0 none 0 0 none 0 0)] y fun e w' => e = .returned (.bool true) ∧ Below y.heap.size y w') := fun y => refused_none none none 0 0 0 0 y
                go_upto_region 20 with (first | (go_at_call 14; with_reducible refine (HSt.out _ (Below.refl _ _)).mono ?_; rintro r w3 ⟨rfl, hw3⟩; obtain rfl := hw3.symm) | (go_at_call 16; refine (HN.out _).mono ?_; clear HN; rintro r w4 ⟨rfl, hb4⟩) | (go_at_call 15; with_reducible refine (R1.out _).mono ?_; rintro r w5 ⟨rfl, hb5⟩))
                have hby := bgo hb4 hb5
                clear R1 HSt
                obtain ⟨z0, z1⟩ := HX.out _ (bgo hBx hby)
                have b1 : ¬ (p : Int) < 0 := by omega
                have b2 : ((vis l).length : Int) < (p : Int) := by omega
                have hoB : (p : Int) < 0 ∨ ((vis l).length : Int) < (p : Int) := .inr b2
                have HWh := hid_of' (where_out (p : Int) (hMx.later hby) (LL.out.below (bgo hBx hby)) hoB)
                have HN2 := hid_of' (no6_true bWhere (p : Int))
                have HR2 : Hid (∀ (b g g' : Nat) (y : World), Below x.heap.size x y → _) := fun b g g' y hy => @refL_some ad b g g' bWhere (place (p : Int)) y (LL.out.below (bgo hBx hy))
                clear hoB
                unfold pv at HWh
                go_wp2_with (first | (go_at_call 17; with_reducible refine HWh.out.mono ?_; clear HWh; rintro r w6 ⟨g6, rfl, f6, hb6⟩; have hB6 := bgo hby hb6) | (go_at_call 16; refine (HN2.out _).mono ?_; clear HN2; rintro r w7 ⟨g7, h7, rfl, k7, m7, hb7⟩; have hB7 := bgo hB6 hb7; replace f6 : FaultAt ad g6 bLines bWhere (place (p : Int)) 1 w7 := RowAt.later f6 hb7) | (go_at_call 15; with_reducible refine (HR2.out _ _ _ _ hB7 f6 k7 m7).mono ?_; rintro r w8 ⟨rfl, hb8⟩))
                have hBe := bgo hB7 hb8
                go_roundw
                case rel => exact ⟨k + 1, by go_num, by omega, bgo hBr (bgo hX hBe)⟩
                case measure => simp [intOf]; omega
            · have hn1 : num = (S : Int) + (p : Int) := by rw [hnum']; unfold cutC; omega
              have hpn : ¬ N < p := by omega
              have hp0 : decide ((p : Int) < 0) = false := decide_eq_false (by omega)
              clear hnum'
              subst hn1
              have HN := hid_of' (no6_false bPlace (j : Int))
              have R1 : Hid (∀ y, Calls Tryz.prog 15 #[.nilIface, .agg (nov 0 none 0 0 none 0 0)] y fun e w' => e = .returned (.bool true) ∧ Below y.heap.size y w') := fun y => refused_none none none 0 0 0 0 y
              go_upto_region 20 with (first | (go_at_call 14; with_reducible refine (HSt.out _ (Below.refl _ _)).mono ?_; rintro r w3 ⟨rfl, hw3⟩; obtain rfl := hw3.symm) | (go_at_call 16; refine (HN.out _).mono ?_; clear HN; rintro r w4 ⟨rfl, hb4⟩) | (go_at_call 15; with_reducible refine (R1.out _).mono ?_; rintro r w5 ⟨rfl, hb5⟩))
              have hby := bgo hb4 hb5
              clear R1 HSt
              obtain ⟨z0, z1⟩ := HX.out _ (bgo hBx hby)
              have b1 : ¬ (p : Int) < 0 := by omega
              have b2 : ¬ (vis l).length < p := by omega
              have b3 : decide ((p : Int) < 0) = false := decide_eq_false b1
              clear b1
              have HWh := hid_of' (where_ok p (hMx.later hby) (by omega) (by omega))
              have HRW : Hid (∀ y, Below x.heap.size x y → _) := fun y hy => refWhere_ok (hAx.later hy) p (by omega) (by omega)
              have HN2 := hid_of' (no6_false bWhere (p : Int))
              have R2 : Hid (∀ y, Calls Tryz.prog 15 #[.nilIface, .agg (nov 0 none 0 0 none 0 0)] y fun e w' => e = .returned (.bool true) ∧ Below y.heap.size y w') := fun y => refused_none none none 0 0 0 0 y
              unfold pv at HWh
              go_wp2_with (first | (go_at_call 17; with_reducible refine HWh.out.mono ?_; clear HWh; rintro r w6 ⟨j6, rfl, i6, hb6⟩; have hB6 := bgo hby hb6) | (go_at_call 18; with_reducible refine (HRW.out _ hB6).mono ?_; rintro r w7 ⟨j7, rfl, i7, hw7⟩; obtain rfl := hw7.symm; obtain rfl := in_one i6 i7) | (go_at_call 16; refine (HN2.out _).mono ?_; clear HN2; rintro r w7 ⟨rfl, hb7⟩; have hB7 := bgo hB6 hb7) | (go_at_call 15; with_reducible refine (R2.out _).mono ?_; rintro r w8 ⟨rfl, hb8⟩))
              have hBe := bgo hB7 hb8
              go_roundw
              case rel => exact ⟨k + 1, by go_num, by omega, bgo hBr (bgo hX hBe)⟩
              case measure => simp [intOf]; omega
    · by_cases q1 : (k : Int) < (ks.length : Int)
      · have q2 : ¬ (k : Int) < 100 := by omega
        have HW' := hid_of' (HW.out _ (LL.out.below hB))
        go_wp2_with (go_at_call 12; with_reducible refine HW'.out.mono ?_; rintro r w6 ⟨rfl, hb6⟩)
        go_ret
        exact ⟨rfl, bgo hB hb6⟩
      · have HW' := hid_of' (HW.out _ (LL.out.below hB))
        go_wp2_with (go_at_call 12; with_reducible refine HW'.out.mono ?_; rintro r w6 ⟨rfl, hb6⟩)
        go_ret
        exact ⟨rfl, bgo hB hb6⟩
end Go.Proofs.YtdmiibihibikdaaGreatDoor
