/-
  barrowlaw06.no and line. Lists of runes, of yes and no and of numbers that came in; barrowlaw06.LinesExact.
-/
import Derived.Test.YtdmiibihibikdaaGreatDoorLn5
import Derived.Deep.Slices
import Derived.RowKit
import Derived.ProofKit
namespace Go.Proofs.YtdmiibihibikdaaGreatDoor
open Go.RowKit Go.Extern.Stop Go.Stop Go.Extern
set_option maxRecDepth 100000

theorem results_No {fn : Func} {p : Tmp} {tmps : Array Value} {w : World} {g : Nat} {code : Int} {a a' : Option Addr} {n c n' c' : Nat} (h : fn.results = #[.cell p 45]) (hp : tmps.getD p undef = .pointer (some ⟨g, 0, none⟩)) (hg : RowAt g (nov code a n c a' n' c') 45 w) :
    (results fn tmps).run Tryz.prog w = .ok (.agg (nov code a n c a' n' c')) w := by
  have hp' : tmps[p]?.getD undef = .pointer (some ⟨g, 0, none⟩) := by simpa using hp
  simp [results, h, hp', asAddr, run_loadVar_row w g _ _ _ _ _ hg Tryz.underlying45 rfl no_size]
set_option maxHeartbeats 400000 in
theorem no6_false (s : ByteArray) (i : Int) (w : World) : Calls Tryz.prog 16 #[.string s, .int .i64 i, .bool false] w fun r w' => r = .returned (.agg (nov 0 none 0 0 none 0 0)) ∧ Below w.heap.size w w' := by
  go_enter Tryz.func16, Tryz.ntmps16
  go_wp2_with (refine wpL_storeNo rfl _ _ rfl rfl rfl (row_new w _ _) ?_)
  exact bodyPost_ret (v := .agg (nov 0 none 0 0 none 0 0)) (results_No (fn := Tryz.f16) (p := 6) rfl rfl ((row_new w _ _).put _)) rfl ⟨rfl, below_row (below_one w _) (Nat.le_refl _) _⟩
set_option maxHeartbeats 400000 in
theorem no6_true (ca : ByteArray) (i : Int) (w : World) : Calls Tryz.prog 16 #[.string ca, .int .i64 i, .bool true] w fun r w' => ∃ g g', r = .returned (.agg (nov 2 (some ⟨g', 0, none⟩) 1 1 (some ⟨g, 0, none⟩) 1 1)) ∧ CsIn g' 0 #[.string bLines, .string ca, .int .i64 (place i)] w' ∧ CsIn g 0 #[.int .i64 2] w' ∧ Below w.heap.size w w' := by
  have HS := hid_of' (say_any bLines ca i 2 (w.alloc (.cells #[.int .i64 0, .slice none 0 0, .slice none 0 0] 45)) (by decide))
  have hb0 := below_one w (.cells #[.int .i64 0, .slice none 0 0, .slice none 0 0] 45)
  go_enter Tryz.func16, Tryz.ntmps16
  go_wp2_with (first | (go_at_call 30; refine HS.out.mono ?_; rintro r w1 ⟨g, g', rfl, hg', hg, k1, k2, hb1⟩) | (refine wpL_storeNo rfl _ _ rfl rfl rfl ((row_new w _ _).later hb1) ?_))
  have n1 : ¬ g' = w.heap.size := by simp at hg'; omega
  have n2 : ¬ g = w.heap.size := by simp at hg; omega
  exact bodyPost_ret (v := .agg (nov 2 (some ⟨g', 0, none⟩) 1 1 (some ⟨g, 0, none⟩) 1 1)) (results_No (fn := Tryz.f16) (p := 6) rfl rfl (((row_new w _ _).later hb1).put _)) rfl ⟨g, g', rfl, k1.other _ _ n1, k2.other _ _ n2, below_row (bgo hb0 hb1) (Nat.le_refl _) _⟩
/-- Refused of a refusal that is due. -/
theorem refL_some {ad : Nat → Addr} {b g g' : Nat} {ca : ByteArray} {at_ : Int} {x : World} (L : Laid ad x) (h1 : FaultAt ad b bLines ca at_ 1 x) (h2 : CsIn g' 0 #[.string bLines, .string ca, .int .i64 at_] x) (h3 : CsIn g 0 #[.int .i64 2] x) :
    Calls Tryz.prog 15 #[fvL b, .agg (nov 2 (some ⟨g', 0, none⟩) 1 1 (some ⟨g, 0, none⟩) 1 1)] x fun e w' => e = .returned (.bool true) ∧ Below x.heap.size x w' := refused_some (k := 1) L h1 (by decide) h2 h3

set_option maxHeartbeats 4000000 in
theorem line6_out {ad : Nat → Addr} {mb : Nat} {l : List El} {va : Value} (k : Int) {w : World} (hM : MvAt mb l w) (L : Laid ad w) (hA : SlRR w va (spl (vis l))) (ho : k < 0 ∨ (nlC (vis l) : Int) < k) :
    Calls Tryz.prog 11 #[pv mb, va, .int .i64 k] w fun r w' => r = .returned (.bool true) ∧ Below w.heap.size w w' := by
  obtain ⟨ga, ca, rfl, _, _⟩ := hA
  have hlen := spl_len (vis l)
  have HS : Hid (∀ x, Below w.heap.size w x → _) := fun x hx => start_out k (hM.later hx) (L.below hx) ho
  have HL : Hid (∀ x, Below w.heap.size w x → _) := fun x hx => length_out k (hM.later hx) (L.below hx) ho
  have HT : Hid (∀ x, Below w.heap.size w x → _) := fun x hx => text_out k (hM.later hx) (L.below hx) ho
  have HN := hid_of' no6_true
  have HR : Hid (∀ (b g g' : Nat) (c : ByteArray) (x : World), Below w.heap.size w x → _) := fun b g g' c x hx => @refL_some ad b g g' c (place k) x (L.below hx)
  unfold pv fvL at *
  have hR0 := Below.refl w.heap.size w
  have hd : (decide (k < 0) || decide (((spl (vis l)).length : Int) ≤ k)) = true := by
    rcases ho with h | h
    · simp [h]
    · simp; omega
  clear hM L
  by_cases h0 : k < 0
  · clear hd ho hlen
    go_enter Tryz.func11, Tryz.ntmps11
    go_upto_region 6 with (go_at_call 28; refine (HS.out _ hR0).mono ?_; rintro r w1 ⟨g1, rfl, f1, hb1⟩)
    go_upto_region 7 with (go_at_call 29; refine (HL.out _ hb1).mono ?_; rintro r w2 ⟨g2, rfl, f2, hb2⟩)
    have hB2 := bgo hb1 hb2
    go_upto_region 8 with (go_at_call 21; refine (HT.out _ hB2).mono ?_; rintro r w3 ⟨g3, rfl, f3, hb3⟩)
    have hB3 := bgo hB2 hb3
    replace f1 : FaultAt ad g1 bLines bStart (place k) 1 w3 := RowAt.later (RowAt.later f1 hb2) hb3
    replace f2 : FaultAt ad g2 bLines bLength (place k) 1 w3 := RowAt.later f2 hb3
    have N1 := hid_of' (HN.out bStart k)
    have N2 := hid_of' (HN.out bLength k)
    have N3 := hid_of' (HN.out bText k)
    clear HS HL HT HN hb1 hb2 hb3 hB2
    go_wp2_with (first | (go_at_call 16; first | (refine (N1.out _).mono ?_; clear N1; rintro r w4 ⟨x1, y1, rfl, k1, m1, hb4⟩; have hB4 := bgo hB3 hb4; replace f1 : FaultAt ad g1 bLines bStart (place k) 1 w4 := RowAt.later f1 hb4; replace f2 : FaultAt ad g2 bLines bLength (place k) 1 w4 := RowAt.later f2 hb4; replace f3 : FaultAt ad g3 bLines bText (place k) 1 w4 := RowAt.later f3 hb4) | (refine (N2.out _).mono ?_; clear N2; rintro r w6 ⟨x2, y2, rfl, k2, m2, hb6⟩; have hB6 := bgo hB5 hb6; replace f2 : FaultAt ad g2 bLines bLength (place k) 1 w6 := RowAt.later f2 hb6; replace f3 : FaultAt ad g3 bLines bText (place k) 1 w6 := RowAt.later f3 hb6) | (refine (N3.out _).mono ?_; clear N3; rintro r w8 ⟨x3, y3, rfl, k3, m3, hb8⟩; have hB8 := bgo hB7 hb8; replace f3 : FaultAt ad g3 bLines bText (place k) 1 w8 := RowAt.later f3 hb8)) | (go_at_call 15; first | ((with_reducible refine (HR.out g1 x1 y1 bStart _ hB4 f1 k1 m1).mono ?_); rintro r w5 ⟨rfl, hb5⟩; clear f1 k1 m1; have hB5 := bgo hB4 hb5; replace f2 : FaultAt ad g2 bLines bLength (place k) 1 w5 := RowAt.later f2 hb5; replace f3 : FaultAt ad g3 bLines bText (place k) 1 w5 := RowAt.later f3 hb5) | ((with_reducible refine (HR.out g2 x2 y2 bLength _ hB6 f2 k2 m2).mono ?_); rintro r w7 ⟨rfl, hb7⟩; clear f2 k2 m2; have hB7 := bgo hB6 hb7; replace f3 : FaultAt ad g3 bLines bText (place k) 1 w7 := RowAt.later f3 hb7) | ((with_reducible refine (HR.out g3 x3 y3 bText _ hB8 f3 k3 m3).mono ?_); rintro r w9 ⟨rfl, hb9⟩)))
    go_ret
    exact ⟨rfl, bgo hB8 hb9⟩
  · have h1 : ((spl (vis l)).length : Int) ≤ k := by omega
    clear hd ho hlen
    go_enter Tryz.func11, Tryz.ntmps11
    go_upto_region 6 with (go_at_call 28; refine (HS.out _ hR0).mono ?_; rintro r w1 ⟨g1, rfl, f1, hb1⟩)
    go_upto_region 7 with (go_at_call 29; refine (HL.out _ hb1).mono ?_; rintro r w2 ⟨g2, rfl, f2, hb2⟩)
    have hB2 := bgo hb1 hb2
    go_upto_region 8 with (go_at_call 21; refine (HT.out _ hB2).mono ?_; rintro r w3 ⟨g3, rfl, f3, hb3⟩)
    have hB3 := bgo hB2 hb3
    replace f1 : FaultAt ad g1 bLines bStart (place k) 1 w3 := RowAt.later (RowAt.later f1 hb2) hb3
    replace f2 : FaultAt ad g2 bLines bLength (place k) 1 w3 := RowAt.later f2 hb3
    have N1 := hid_of' (HN.out bStart k)
    have N2 := hid_of' (HN.out bLength k)
    have N3 := hid_of' (HN.out bText k)
    clear HS HL HT HN hb1 hb2 hb3 hB2
    go_wp2_with (first | (go_at_call 16; first | (refine (N1.out _).mono ?_; clear N1; rintro r w4 ⟨x1, y1, rfl, k1, m1, hb4⟩; have hB4 := bgo hB3 hb4; replace f1 : FaultAt ad g1 bLines bStart (place k) 1 w4 := RowAt.later f1 hb4; replace f2 : FaultAt ad g2 bLines bLength (place k) 1 w4 := RowAt.later f2 hb4; replace f3 : FaultAt ad g3 bLines bText (place k) 1 w4 := RowAt.later f3 hb4) | (refine (N2.out _).mono ?_; clear N2; rintro r w6 ⟨x2, y2, rfl, k2, m2, hb6⟩; have hB6 := bgo hB5 hb6; replace f2 : FaultAt ad g2 bLines bLength (place k) 1 w6 := RowAt.later f2 hb6; replace f3 : FaultAt ad g3 bLines bText (place k) 1 w6 := RowAt.later f3 hb6) | (refine (N3.out _).mono ?_; clear N3; rintro r w8 ⟨x3, y3, rfl, k3, m3, hb8⟩; have hB8 := bgo hB7 hb8; replace f3 : FaultAt ad g3 bLines bText (place k) 1 w8 := RowAt.later f3 hb8)) | (go_at_call 15; first | ((with_reducible refine (HR.out g1 x1 y1 bStart _ hB4 f1 k1 m1).mono ?_); rintro r w5 ⟨rfl, hb5⟩; clear f1 k1 m1; have hB5 := bgo hB4 hb5; replace f2 : FaultAt ad g2 bLines bLength (place k) 1 w5 := RowAt.later f2 hb5; replace f3 : FaultAt ad g3 bLines bText (place k) 1 w5 := RowAt.later f3 hb5) | ((with_reducible refine (HR.out g2 x2 y2 bLength _ hB6 f2 k2 m2).mono ?_); rintro r w7 ⟨rfl, hb7⟩; clear f2 k2 m2; have hB7 := bgo hB6 hb7; replace f3 : FaultAt ad g3 bLines bText (place k) 1 w7 := RowAt.later f3 hb7) | ((with_reducible refine (HR.out g3 x3 y3 bText _ hB8 f3 k3 m3).mono ?_); rintro r w9 ⟨rfl, hb9⟩)))
    go_ret
    exact ⟨rfl, bgo hB8 hb9⟩

theorem strEq (a : ByteArray) (w : World) : (binOp .eql 9 (.string a) (.string a)).run Tryz.prog w = .ok (.bool true) w := by simp [binOp, Op.stringOp]
set_option maxHeartbeats 4000000 in
theorem line6_ok {ad : Nat → Addr} {mb : Nat} {l : List El} {va : Value} (k : Nat) {w : World} (hM : MvAt mb l w) (L : Laid ad w) (hA : SlRR w va (spl (vis l))) (hk : k ≤ nlC (vis l)) (hn : l.length ≤ 1000) (hc : Ch32 l) (hr : ∀ (i : Nat) (c : Int), (vis l)[i]? = some c → rightC c = true) :
    Calls Tryz.prog 11 #[pv mb, va, .int .i64 (k : Int)] w fun r w' => r = .returned (.bool true) ∧ Below w.heap.size w w' := by
  have hlen := spl_len (vis l)
  have hvl := vis_le l
  have hnl := nlC_b (vis l)
  have htx := tx_at (vis l) k hk
  have htl := tx_len (vis l) k hk
  have hst := sum_st (vis l) k hk
  have hal := sum_st (vis l) (nlC (vis l)) (Nat.le_refl _)
  have hse := st_en (vis l) (nlC (vis l)) (Nat.le_refl _)
  have hsk := st_en (vis l) k hk
  have hle : sumS (spl (vis l)) (spl (vis l)).length ≤ 100000 := by
    rw [hlen, sumS_next _ _ _ (tx_at (vis l) (nlC (vis l)) (Nat.le_refl _)), hal, tx_len _ _ (Nat.le_refl _)]
    omega
  have HA1 : Hid (∀ x, Below w.heap.size w x → _) := fun x hx => refStart_any (hA.later hx) k (by omega) (by omega) (by omega)
  rw [hst] at HA1
  obtain ⟨ga, ca, rfl, hga, hcs⟩ := hA
  obtain ⟨xa, xk, hcell, hsl⟩ := hcs k _ htx
  have hrt : ∀ (i : Nat) (c : Int), (txC (vis l) k)[i]? = some c → rightC c = true := fun i c hi => by
    unfold txC at hi
    rw [List.getElem?_take] at hi
    split at hi
    · rw [List.getElem?_drop] at hi; exact hr _ c hi
    · cases hi
  have HU : Hid (∀ x, Below w.heap.size w x → _) := fun x hx => refUTF8_any (hsl.later hx) (by omega) hrt
  rw [htl] at HU hcell
  have HS : Hid (∀ x, Below w.heap.size w x → _) := fun x hx => start_ok k (hM.later hx) (by omega) hk
  have HL : Hid (∀ x, Below w.heap.size w x → _) := fun x hx => length_ok k (hM.later hx) (by omega) hk
  have HT : Hid (∀ x, Below w.heap.size w x → _) := fun x hx => text_ok k (hM.later hx) (L.below hx) (by omega) hk hc
  have HN := hid_of' no6_false
  have HR := hid_of' refused_none
  have e1 : ¬ (k : Int) < 0 := by omega
  have e2 : ¬ ((spl (vis l)).length : Int) ≤ (k : Int) := by omega
  have e3 : (k : Int) < ((spl (vis l)).length : Int) := by omega
  have e4 : 0 ≤ (k : Int) := by omega
  have hcl : ∀ s : Wld w, (wOf s).cell? ⟨ga, k, none⟩ = some (.slice xa (enC (vis l) k - stC (vis l) k) xk) := fun s => by rw [(wOf_below s).cell (p := ⟨ga, k, none⟩) hga]; exact hcell
  unfold pv at *
  have hB := Below.refl w.heap.size w
  clear hM L hcell hsl hcs htx htl hst hal hse hsk hle hlen hvl hnl hr hrt hc hk hn
  generalize enC (vis l) k - stC (vis l) k = N at *
  generalize stC (vis l) k = S at *
  generalize encL (txC (vis l) k) = E at *
  go_enter Tryz.func11, Tryz.ntmps11
  go_upto_region 4 with fail
  refine wp_region_cls (by kernel_rfl) (by kernel_rfl) ?_
  repeat (first | go_big_quiet_skip | (go_big_quiet_want; first | (go_big_quiet_op; first | go_big_quiet_on | go_big_quiet_call ((first | (go_at_call 14; exact cls_of_same (HA1.out _ (wOf_below _))) | (go_at_call 27; exact cls_of (HU.out _ (wOf_below _))))))))
  refine wpQuiet_nil ?_
  rintro w1 ⟨s1, e1⟩
  have hb1 := wOf_below s1
  rw [← e1] at hb1
  clear e1 s1
  replace hB := bgo hB hb1
  clear hb1
  go_upto_region 6 with (go_at_call 28; refine (HS.out _ hB).mono ?_; rintro r w1 ⟨rfl, hb1⟩)
  have hB1 := bgo hB hb1
  go_upto_region 7 with (go_at_call 29; refine (HL.out _ hB1).mono ?_; rintro r w2 ⟨rfl, hb2⟩)
  have hB2 := bgo hB1 hb2
  go_upto_region 8 with (go_at_call 21; refine (HT.out _ hB2).mono ?_; rintro r w3 ⟨rfl, hb3⟩)
  have hB3 := bgo hB2 hb3
  have hs := fun w => strEq ⟨E.toArray⟩ w
  have N1 := hid_of' (HN.out bStart k)
  have N2 := hid_of' (HN.out bLength k)
  have N3 := hid_of' (HN.out bText k)
  have R0 : Hid (∀ x, Calls Tryz.prog 15 #[.nilIface, .agg (nov 0 none 0 0 none 0 0)] x fun e w' => e = .returned (.bool true) ∧ Below x.heap.size x w') := fun x => HR.out none none 0 0 0 0 x
  clear HS HL HT HN HR hb1 hb2 hb3 hB2
  go_wp2_with (first | (refine wpL_of_run (hs _) ?_) | (go_at_call 16; first | (refine (N1.out _).mono ?_; clear N1; rintro r w4 ⟨rfl, hb4⟩; have hB4 := bgo hB3 hb4) | (refine (N2.out _).mono ?_; clear N2; rintro r w6 ⟨rfl, hb6⟩; have hB6 := bgo hB5 hb6) | (refine (N3.out _).mono ?_; clear N3; rintro r w8 ⟨rfl, hb8⟩; have hB8 := bgo hB7 hb8)) | (go_at_call 15; refine (R0.out _).mono ?_; first | (have hB5' := hB8; rintro r w9 ⟨rfl, hb9⟩) | (have hB5' := hB6; rintro r w7 ⟨rfl, hb7⟩; have hB7 := bgo hB6 hb7) | (have hB5' := hB4; rintro r w5 ⟨rfl, hb5⟩; have hB5 := bgo hB4 hb5)))
  go_ret
  exact ⟨rfl, bgo hB8 hb9⟩
end Go.Proofs.YtdmiibihibikdaaGreatDoor
namespace Go.Proofs.YtdmiibihibikdaaGreatDoor
open Go.RowKit Go.Extern.Stop Go.Stop Go.Extern Go.ChangeShapes Go.WideShapes Go.ChangeAt Go.Deep
set_option maxRecDepth 100000

/-- A list of numbers. -/
def SlI (w : World) (v : Value) (cs : List Int) : Prop := (cs = [] ∧ ∃ a c, v = .slice a 0 c) ∨ ∃ g o_ c, v = .slice (some ⟨g, o_, none⟩) cs.length c ∧ g < w.heap.size ∧ ∀ (i : Nat) (x : Int), cs[i]? = some x → w.cell? ⟨g, o_ + i, none⟩ = some (.int .i64 x)
theorem SlI.form {w : World} {v : Value} {cs : List Int} (h : SlI w v cs) : ∃ a c, v = .slice a cs.length c := by
  rcases h with ⟨h, a, c, e⟩ | ⟨g, o_, c, e, _⟩
  · subst h; exact ⟨a, c, e⟩
  · exact ⟨_, _, e⟩
theorem SlI.at {w w' : World} {v : Value} {cs : List Int} (h : SlI w v cs) (hb : Below w.heap.size w w') {i : Nat} {x : Int} (hx : cs[i]? = some x) : ∃ g o_ c, v = .slice (some ⟨g, o_, none⟩) cs.length c ∧ w'.cell? ⟨g, o_ + i, none⟩ = some (.int .i64 x) := by
  rcases h with ⟨h, _⟩ | ⟨g, o_, c, e, hg, hc⟩
  · subst h; simp at hx
  · exact ⟨g, o_, c, e, by rw [hb.cell (p := ⟨g, o_ + i, none⟩) hg]; exact hc i x hx⟩
section
variable {H : Type} {enc : TypeId × Value → H} {W : World} {base : Nat}
/-- A list that came in whose elements are one cell each. -/
theorem open_one {α : Type} [Inhabited α] {t e : TypeId} {mk : α → Value} (ht : Tryz.prog.underlying t = some (.slice e)) (hc1 : Tryz.prog.cellsOf e = 1) (hop : ∀ (n : Nat) (v : Value) (x : DataW H × List MemPlace), DataW.trod enc Tryz.prog W 0 (fun _ => true) true n e [v] = some x → ∃ y, v = mk y)
    {v : Value} {d : DataW H} {p : List MemPlace} (hval : Value.okWide Tryz.prog W .any base t v) (h : DataW.Trod enc Tryz.prog W 0 (fun _ => true) true t v d p) :
    ∃ l : List α, (l = [] ∧ ∃ a c, v = .slice a 0 c) ∨ ∃ g o_ c, v = .slice (some ⟨g, o_, none⟩) l.length c ∧ g < W.heap.size ∧ ∀ (i : Nat) (x : α), l[i]? = some x → W.cell? ⟨g, o_ + i, none⟩ = some (mk x) := by
  obtain ⟨a1, len, cap, rfl⟩ := okWide_slice ht hval
  obtain ⟨fuel, hf⟩ := h
  rcases open_slice1 ht hc1 hf with ⟨hcs, hx⟩ | ⟨a, len', cap', m, n, V, D, Pl, hcs, _, hl, hm, hmm, hx, hcell⟩
  · simp [Value.cells] at hcs
    obtain ⟨rfl, rfl, rfl⟩ := hcs
    exact ⟨[], .inl ⟨rfl, _, _, rfl⟩⟩
  · simp [Value.cells] at hcs
    obtain ⟨rfl, rfl, rfl⟩ := hcs
    simp only [if_true] at hmm
    subst hmm
    have each : ∀ i, i < len → ∃ x : α, W.cell? (a.add i) = some (mk x) := fun i hi => by
      obtain ⟨h1, h2⟩ := hcell i (by omega)
      obtain ⟨y, hy⟩ := hop n _ _ h2
      exact ⟨y, by rw [h1, hy]⟩
    obtain ⟨f, hf⟩ := choose_lt (α := α) each
    refine ⟨(List.range len).map f, ?_⟩
    by_cases h0 : len = 0
    · subst h0
      exact .inl ⟨by simp, _, _, rfl⟩
    · obtain ⟨ab, ao, spot⟩ := a
      have c0 := hf 0 (by omega)
      have hspot : spot = none := by simpa [Addr.add] using World.cell?_spot c0
      subst hspot
      have hblk : ab < W.heap.size := by
        have := World.block_lt_of_cell? _ _ c0
        simpa [Addr.add] using this
      refine .inr ⟨ab, ao, _, by rw [List.length_map, List.length_range], hblk, fun i x hi => ?_⟩
      have hil : i < len := by have := (List.getElem?_eq_some_iff.1 hi).1; simpa using this
      have hx : f i = x := by
        simp only [List.getElem?_map, List.getElem?_range hil, Option.map_some, Option.some.injEq] at hi
        exact hi
      have := hf i hil
      rw [hx, Addr.add_lit] at this
      exact this
theorem open_runes {v : Value} {d : DataW H} {p : List MemPlace} (hval : Value.okWide Tryz.prog W .any base 22 v) (h : DataW.Trod enc Tryz.prog W 0 (fun _ => true) true 22 v d p) : ∃ cs, SlR W v cs :=
  open_one (mk := fun x => .int .i32 x) Tryz.underlying22 (by kernel_rfl) (fun _ _ _ h => by obtain ⟨y, hy, _⟩ := DataW.trod_int Tryz.underlying21 h; simp at hy; exact ⟨y, hy⟩) hval h
theorem open_yns {v : Value} {d : DataW H} {p : List MemPlace} (hval : Value.okWide Tryz.prog W .any base 23 v) (h : DataW.Trod enc Tryz.prog W 0 (fun _ => true) true 23 v d p) : ∃ cs, SlB W v cs :=
  open_one (mk := fun x => .bool x) Tryz.underlying23 (by kernel_rfl) (fun _ _ _ h => by obtain ⟨y, hy, _⟩ := DataW.trod_bool Tryz.underlying4 h; simp at hy; exact ⟨y, hy⟩) hval h
theorem open_nums {v : Value} {d : DataW H} {p : List MemPlace} (hval : Value.okWide Tryz.prog W .any base 24 v) (h : DataW.Trod enc Tryz.prog W 0 (fun _ => true) true 24 v d p) : ∃ cs, SlI W v cs :=
  open_one (mk := fun x => .int .i64 x) Tryz.underlying24 (by kernel_rfl) (fun _ _ _ h => by obtain ⟨y, hy, _⟩ := DataW.trod_int Tryz.underlying3 h; simp at hy; exact ⟨y, hy⟩) hval h
end

theorem line6_any {ad : Nat → Addr} {mb : Nat} {l : List El} {va : Value} (k : Int) {w : World} (hM : MvAt mb l w) (L : Laid ad w) (hA : SlRR w va (spl (vis l))) (hn : l.length ≤ 1000) (hc : Ch32 l) (hr : ∀ (i : Nat) (c : Int), (vis l)[i]? = some c → rightC c = true) :
    Calls Tryz.prog 11 #[pv mb, va, .int .i64 k] w fun r w' => r = .returned (.bool true) ∧ Below w.heap.size w w' := by
  by_cases ho : k < 0 ∨ (nlC (vis l) : Int) < k
  · exact line6_out k hM L hA ho
  · obtain ⟨j, rfl⟩ := Int.eq_ofNat_of_zero_le (show 0 ≤ k by omega)
    exact line6_ok j hM L hA (by omega) hn hc hr
theorem vis_right {l : List El} (h : ∀ (i : Nat) (e : El), l[i]? = some e → rightC e.ch = true) : ∀ (i : Nat) (c : Int), (vis l)[i]? = some c → rightC c = true := by
  intro i c hi
  have key : ∀ l : List El, c ∈ vis l → ∃ e, e ∈ l ∧ e.ch = c := fun l => by
    induction l with
    | nil => intro h; cases h
    | cons e l ih =>
      intro h
      by_cases hd : e.hd > 0
      · rw [vis_hid _ hd] at h
        obtain ⟨x, h1, h2⟩ := ih h
        exact ⟨x, List.mem_cons_of_mem _ h1, h2⟩
      · rw [vis_live _ hd] at h
        rcases List.mem_cons.1 h with h | h
        · exact ⟨e, List.mem_cons_self, h.symm⟩
        · obtain ⟨x, h1, h2⟩ := ih h
          exact ⟨x, List.mem_cons_of_mem _ h1, h2⟩
  obtain ⟨e, he, rfl⟩ := key l (List.mem_of_getElem? hi)
  obtain ⟨j, hj⟩ := List.getElem?_of_mem he
  exact h j e hj
set_option maxHeartbeats 2000000 in
theorem linesExact_all {ad : Nat → Addr} {W : World} {v0 v1 v2 : Value} {cs : List Int} {hs : List Bool} {ks : List Int} (L : Laid ad W) (h0 : SlR W v0 cs) (h1 : SlB W v1 hs) (h2 : SlI W v2 ks) :
    Calls Tryz.prog 3 #[v0, v1, v2] W fun r w' => r = .returned (.bool true) ∧ Below W.heap.size W w' := by
  have HBg := hid_of' (begun_ok h0 h1)
  obtain ⟨a0, c0, rfl⟩ := h0.form
  obtain ⟨a1, c1, rfl⟩ := h1.form
  obtain ⟨a2, c2, rfl⟩ := h2.form
  have hall := bgE_all (cs := cs) (hs := hs) (bgN cs)
  have hN : bgN cs ≤ 150 := by unfold bgN; omega
  have hgd := bgE_good cs hs (bgN cs) (by omega)
  have hvr := vis_right (fun i e h => (hall.2 i e h).2.2.2.2.1)
  have hln : (bgE cs hs (bgN cs)).length ≤ 150 := by omega
  have hch := hgd.2.2
  clear hall hgd hN
  generalize bgE cs hs (bgN cs) = l at *
  have hvl := vis_le l
  have hnl := nlC_b (vis l)
  have hlen := spl_len (vis l)
  have HS : Hid (∀ (x : World) (u : Value), SlR x u (vis l) → _) := fun x u hu => refSplit_ok hu (by omega)
  have hq : ((spl (vis l)).length : Int) = (nlC (vis l) : Int) + 1 := by omega
  have HC : Hid (∀ (x : World) (mb : Nat), MvAt mb l x → Calls Tryz.prog 10 #[pv mb] x fun r w' => r = .returned (.int .i64 ((spl (vis l)).length : Int)) ∧ Below x.heap.size x w') := fun x mb hm => by rw [hq]; exact count_any hm (by omega)
  have HL : Hid (∀ (x : World) (mb : Nat) (va : Value) (k : Int), Laid ad x → MvAt mb l x → SlRR x va (spl (vis l)) → _) := fun x mb va k L hm ha => line6_any k hm L ha (by omega) hch hvr
  have HW : Hid (∀ x : World, Laid ad x → _) := fun x L => wakes6_ok x L
  have LL := hid_of' L
  have hSm : (spl (vis l)).length ≤ 1000 := by omega
  clear L hlen hq hnl hvl hvr hch hln h0 h1
  unfold pv at *
  go_enter Tryz.func3, Tryz.ntmps3
  go_upto_region 2 with (go_at_call 8; refine HBg.out.mono ?_; rintro r w1 ⟨mb, vs, rfl, hM1, hR1, hb1⟩)
  go_upto_region 5 with (go_at_call 9; refine (HS.out _ _ hR1).mono ?_; rintro r w2 ⟨va, rfl, hA2, hb2⟩)
  have hB2 := bgo hb1 hb2
  have hM2 := hM1.later hb2
  obtain ⟨ga, ca, rfl, hga, hcs⟩ := hA2
  have hA2 : SlRR w2 (.slice (some ⟨ga, 0, none⟩) (spl (vis l)).length ca) (spl (vis l)) := ⟨ga, ca, rfl, hga, hcs⟩
  clear hcs HBg HS hR1 hM1 hb1 hb2
  go_upto_region 7 with (first | (go_at_call 10; refine (HC.out _ _ hM2).mono ?_; rintro r w3 ⟨rfl, hb3⟩))
  have hB3 := bgo hB2 hb3
  have hM3 := hM2.later hb3
  have hA3 := hA2.later hb3
  clear hM2 hA2 hB2 hb3 HC
  go_wp2
  go_loopw [10] (fun i wr => ∃ k : Nat, i = .int .i64 (k : Int) ∧ k ≤ min ks.length 60 ∧ Below w3.heap.size w3 wr) (fun i _ => 60 - (intOf i).toNat)
  case atStart => exact ⟨0, rfl, Nat.zero_le _, Below.refl _ _⟩
  case round =>
    obtain ⟨k, rfl, hk, hB⟩ := hrel
    by_cases hlt : k < min ks.length 60
    · have q1 : (k : Int) < (ks.length : Int) := by omega
      have q2 : (k : Int) < 60 := by omega
      obtain ⟨c, hc⟩ : ∃ c, ks[k]? = some c := ⟨_, List.getElem?_eq_getElem (by omega)⟩
      obtain ⟨g, o_, cc, hv, hcell⟩ := h2.at (bgo hB3 hB) hc
      simp only [Value.slice.injEq] at hv
      obtain ⟨rfl, _, rfl⟩ := hv
      have HL' := hid_of' (HL.out wr mb _ c (LL.out.below (bgo hB3 hB)) (hM3.later hB) (hA3.later hB))
      go_wp2_with (go_at_call 11; with_reducible refine HL'.out.mono ?_; rintro r w4 ⟨rfl, hb4⟩)
      go_roundw
      case rel => exact ⟨k + 1, by go_num, by omega, bgo hB hb4⟩
      case measure => simp [intOf]; omega
    · by_cases q1 : (k : Int) < (ks.length : Int)
      · have q2 : ¬ (k : Int) < 60 := by omega
        have hBr := bgo hB3 hB
        have hMr := hM3.later hB
        have hAr := hA3.later hB
        clear hB3 hM3 hA3 h2 hlt hk
        go_wp2
        go_loopw [11] (fun i w5 => ∃ j : Nat, i = .int .i64 (j : Int) ∧ j ≤ (spl (vis l)).length ∧ Below wr.heap.size wr w5) (fun i _ => 1001 - (intOf i).toNat)
        case atStart => exact ⟨0, rfl, Nat.zero_le _, Below.refl _ _⟩
        case round =>
          obtain ⟨j, rfl, hj, hB5⟩ := hrel
          by_cases hlt5 : j < (spl (vis l)).length
          · have p1 : (j : Int) < ((spl (vis l)).length : Int) := by omega
            have HL' := hid_of' (HL.out _ mb _ (j : Int) (LL.out.below (bgo hBr hB5)) (hMr.later hB5) (hAr.later hB5))
            go_wp2_with (go_at_call 11; with_reducible refine HL'.out.mono ?_; rintro r w6 ⟨rfl, hb6⟩)
            go_roundw
            case rel => exact ⟨j + 1, by go_num, by omega, bgo hB5 hb6⟩
            case measure => simp [intOf]; omega
          · have p1 : ¬ (j : Int) < ((spl (vis l)).length : Int) := by omega
            have HW' := hid_of' (HW.out _ (LL.out.below (bgo hBr hB5)))
            go_wp2_with (go_at_call 12; with_reducible refine HW'.out.mono ?_; rintro r w6 ⟨rfl, hb6⟩)
            go_ret
            exact ⟨rfl, bgo (bgo hBr hB5) hb6⟩
      · skip
        have hBr := bgo hB3 hB
        have hMr := hM3.later hB
        have hAr := hA3.later hB
        clear hB3 hM3 hA3 h2 hlt hk
        go_wp2
        go_loopw [11] (fun i w5 => ∃ j : Nat, i = .int .i64 (j : Int) ∧ j ≤ (spl (vis l)).length ∧ Below wr.heap.size wr w5) (fun i _ => 1001 - (intOf i).toNat)
        case atStart => exact ⟨0, rfl, Nat.zero_le _, Below.refl _ _⟩
        case round =>
          obtain ⟨j, rfl, hj, hB5⟩ := hrel
          by_cases hlt5 : j < (spl (vis l)).length
          · have p1 : (j : Int) < ((spl (vis l)).length : Int) := by omega
            have HL' := hid_of' (HL.out _ mb _ (j : Int) (LL.out.below (bgo hBr hB5)) (hMr.later hB5) (hAr.later hB5))
            go_wp2_with (go_at_call 11; with_reducible refine HL'.out.mono ?_; rintro r w6 ⟨rfl, hb6⟩)
            go_roundw
            case rel => exact ⟨j + 1, by go_num, by omega, bgo hB5 hb6⟩
            case measure => simp [intOf]; omega
          · have p1 : ¬ (j : Int) < ((spl (vis l)).length : Int) := by omega
            have HW' := hid_of' (HW.out _ (LL.out.below (bgo hBr hB5)))
            go_wp2_with (go_at_call 12; with_reducible refine HW'.out.mono ?_; rintro r w6 ⟨rfl, hb6⟩)
            go_ret
            exact ⟨rfl, bgo (bgo hBr hB5) hb6⟩
end Go.Proofs.YtdmiibihibikdaaGreatDoor
