
/-
  barrowlaw11.CausalExact answers true.
-/
import Derived.Test.YtlgdaaofpjpobaaDoorZca43
import Derived.Test.YtlgdaaofpjpobaaDoorZca51
namespace Go.Proofs.YtlgdaaofpjpobaaDoor
open Go.RowKit Go.Maps
set_option maxRecDepth 100000

theorem does_any {b0 P B R kb n : Nat} {vb vr : Value} {m : Int} {l : List Ac} {w : World} (H0 : PrAt b0 P B R kb n vb vr m l l w) (hn : n < 1000000) {d : Int} (hd : fitsI d) {h : List Int} (ha : Ck h) {x : Ac} (hx : x.Full) :
    Calls Tryd.prog 8 #[.pointer (some ⟨P, 0, none⟩), .agg (ocv d h x)] w (DoQ b0 P B R kb n m w) := by
  have h5 := wiN_lt (n := d) (m := 5) (by decide)
  have hc : wiN d 5 = 0 ∨ wiN d 5 = 1 ∨ wiN d 5 = 2 ∨ wiN d 5 = 3 ∨ wiN d 5 = 4 := by omega
  rcases hc with e | e | e | e | e
  · exact does_0 H0 hn hd ha hx e
  · exact does_1 H0 hn hd ha hx e
  · exact does_2 H0 hn hd ha hx e
  · exact does_3 H0 hn hd ha hx e
  · exact does_4 H0 hn hd ha hx e

/-- 'causal', 'New'. -/
def bCausal : ByteArray := ⟨#[99, 97, 117, 115, 97, 108]⟩
def bNewC : ByteArray := ⟨#[78, 101, 119]⟩
theorem newI_no {ad : Nat → Addr} {w : World} (L : Laid ad w) (m : Int) (hr : m < 0 ∨ 256 < m) :
    Calls Tryd.prog 4 #[.int .i64 m] w fun e w' => e = .returned (.tuple #[.pointer none, .iface 71 (.pointer (some ⟨w.heap.size, 0, none⟩))]) ∧ FaultAt ad w.heap.size bCausal bNewC (place m) 0 w' ∧ Below w.heap.size w w' := by
  have LV : w.cell? ⟨0, 0, none⟩ = some (.iface 145 (.pointer (some (ad 0)))) := L.var 0 (by decide)
  have HF := hid_of' (newF (ad := ad) bCausal bNewC m 0 w)
  clear L
  by_cases k1 : m < 0
  · go_enter Tryd.func4, Tryd.ntmps4
    go_wp2_with (go_at_call 10; refine HF.out.mono ?_; rintro e w2 ⟨rfl, hf, hb2⟩; clear HF)
    go_ret2
    exact ⟨rfl, hf, hb2⟩
  · have k2 : 256 < m := by omega
    go_enter Tryd.func4, Tryd.ntmps4
    go_wp2_with (go_at_call 10; refine HF.out.mono ?_; rintro e w2 ⟨rfl, hf, hb2⟩; clear HF)
    go_ret2
    exact ⟨rfl, hf, hb2⟩

/-- A call that came in. -/
abbrev Cop := Int × List Int × Ac
def Cop.cells (y : Cop) : Array Value := ocv y.1 y.2.1 y.2.2
def Cop.Fit (y : Cop) : Prop := fitsI y.1 ∧ Ck y.2.1 ∧ y.2.2.Full
def SlO (w : World) (v : Value) (l : List Cop) : Prop := (l = [] ∧ ∃ a c, v = .slice a 0 c) ∨ ∃ g o c, v = .slice (some ⟨g, o, none⟩) l.length c ∧ ∀ (k : Nat) (y : Cop), l[k]? = some y → CsIn g (o + k * 22) y.cells w
theorem SlO.form {w : World} {v : Value} {l : List Cop} (h : SlO w v l) : ∃ a c, v = .slice a l.length c := by
  rcases h with ⟨rfl, a, c, rfl⟩ | ⟨g, o, c, rfl, _⟩
  · exact ⟨a, c, rfl⟩
  · exact ⟨_, c, rfl⟩
theorem SlO.pos {w : World} {v : Value} {l : List Cop} (h : SlO w v l) (hp : 0 < l.length) : ∃ g o c, v = .slice (some ⟨g, o, none⟩) l.length c ∧ ∀ (k : Nat) (y : Cop), l[k]? = some y → CsIn g (o + k * 22) y.cells w := by
  rcases h with ⟨rfl, a, c, rfl⟩ | h
  · exact absurd hp (by simp)
  · exact h
theorem oc_size {y : Cop} (h : y.Fit) : (Tryd.prog.info? 50).map (·.size) = some y.cells.size := by
  have : y.cells.size = 22 := by simp [Cop.cells, ocv, acv_size _ h.2.2.1.1.1, cv_size, h.2.1.1]
  rw [this]
  have hk : (Tryd.prog.info? 50).map (·.size) = some 22 := by kernel_rfl
  exact hk
theorem wpL_loadO {ops : Array Oper} {rest : List Oper} {o : Oper} {A : Act} {w : World} {Q : Exit → Act → World → Prop} (hgd : o.guard = none) (x : Operand) (ho : o.op = .load 50 x) {b off : Nat} (hx : A.eval x = .pointer (some ⟨b, off, none⟩)) {y : Cop} (hy : y.Fit) (h : CsIn b off y.cells w)
    (k : wpList Tryd.prog ops Q rest (A.put o.dst (.agg y.cells)) w) : wpList Tryd.prog ops Q (o :: rest) A w := by
  refine wpList_plain hgd fun _ hK => ?_
  unfold Oper.wp execOp
  simp only [ho, hx, Instr.loadAt, Instr.sureAddr, Sem.run_bind, Sem.run_pure, Result.andThen_ok, run_loadVar_in h Tryd.underlying50 rfl (oc_size hy)]
  exact hK _ _ k
theorem CsIn.below {b off n : Nat} {cs : Array Value} {w w' : World} (h : CsIn b off cs w) (hb : Below n w w') (hn : b < n) : CsIn b off cs w' :=
  ⟨Nat.lt_of_lt_of_le h.1 hb.size, fun j v hv => by rw [hb.cell (p := ⟨b, off + j, none⟩) hn]; exact h.2 j v hv⟩

set_option maxHeartbeats 4000000 in
theorem causalExact_all {ad : Nat → Addr} {w : World} (L : Laid ad w) {most : Int} {v : Value} {l : List Cop} (hl : SlO w v l) (hf : ∀ y ∈ l, y.Fit) :
    Calls Tryd.prog 3 #[.int .i64 most, v] w fun e w' => e = .returned (.bool true) ∧ Below w.heap.size w w' := by
  obtain ⟨a9, c9, rfl⟩ := hl.form
  by_cases hr : most < 0 ∨ 256 < most
  · have HN := hid_of' (newI_no L most hr)
    have HL := hid_of' L
    clear hl hf L
    have hcase : (most < 0) ∨ (¬ most < 0 ∧ 256 < most) := by omega
    clear hr
    rcases hcase with k1 | ⟨k1, k2⟩
    · go_enter Tryd.func3, Tryd.ntmps3
      go_wp2_with (first | (go_at_call 4; refine HN.out.mono ?_; rintro e w1 ⟨rfl, hf1, hb1⟩; clear HN; have HS := hid_of' (say_any bCausal bNewC most 1 w1 (by decide))) | (go_at_call 6; refine HS.out.mono ?_; rintro e w2 ⟨g, g', rfl, _, _, hc1, hc2, hb2⟩; clear HS; have HR := hid_of' (refused_some (k := 0) (HL.out.below (bgo hb1 hb2)) (RowAt.later hf1 hb2) (by decide) hc1 hc2)) | (go_at_call 5; refine HR.out.mono ?_; rintro e w3 ⟨rfl, hb3⟩; clear HR) | (go_at_call 7; refine (wakes11 w3).mono ?_; rintro e w4 ⟨rfl, hb4⟩))
      go_ret
      exact ⟨rfl, bgo (bgo (bgo hb1 hb2) hb3) hb4⟩
    · go_enter Tryd.func3, Tryd.ntmps3
      go_wp2_with (first | (go_at_call 4; refine HN.out.mono ?_; rintro e w1 ⟨rfl, hf1, hb1⟩; clear HN; have HS := hid_of' (say_any bCausal bNewC most 1 w1 (by decide))) | (go_at_call 6; refine HS.out.mono ?_; rintro e w2 ⟨g, g', rfl, _, _, hc1, hc2, hb2⟩; clear HS; have HR := hid_of' (refused_some (k := 0) (HL.out.below (bgo hb1 hb2)) (RowAt.later hf1 hb2) (by decide) hc1 hc2)) | (go_at_call 5; refine HR.out.mono ?_; rintro e w3 ⟨rfl, hb3⟩; clear HR) | (go_at_call 7; refine (wakes11 w3).mono ?_; rintro e w4 ⟨rfl, hb4⟩))
      go_ret
      exact ⟨rfl, bgo (bgo (bgo hb1 hb2) hb3) hb4⟩
  have k1 : ¬ most < 0 := by omega
  have k2 : ¬ 256 < most := by omega
  have HN := hid_of' (newI_ok most (by omega) (by omega) w)
  have H := hid_of' (And.intro hl hf)
  clear L hl hf hr
  go_enter Tryd.func3, Tryd.ntmps3
  go_upto_region 7 with (go_at_call 4; refine HN.out.mono ?_; rintro e w1 ⟨B, kb, rfl, hI, hB0, hk0, hb1⟩; clear HN)
  clear k1 k2
  have hbb := below_two w1 (.cells #[.int .i64 most, .slice none 0 0] 39) (.cells #[.pointer (some ⟨B, 0, none⟩), .pointer (some ⟨w1.heap.size, 0, none⟩)] 41)
  have r1 : RowAt w1.heap.size #[.int .i64 most, .slice none 0 0] 39 ((w1.alloc (.cells #[.int .i64 most, .slice none 0 0] 39)).alloc (.cells #[.pointer (some ⟨B, 0, none⟩), .pointer (some ⟨w1.heap.size, 0, none⟩)] 41)) := (row_new w1 _ _).later (below_one _ _)
  have r2 : RowAt (w1.heap.size + 1) #[.pointer (some ⟨B, 0, none⟩), .pointer (some ⟨w1.heap.size, 0, none⟩)] 41 ((w1.alloc (.cells #[.int .i64 most, .slice none 0 0] 39)).alloc (.cells #[.pointer (some ⟨B, 0, none⟩), .pointer (some ⟨w1.heap.size, 0, none⟩)] 41)) := row_new2 w1 _ _ _
  have hs1 := hb1.size
  have hlB := hI.lies.lt
  have hlk := hI.map.lt
  have hpr : PrAt w.heap.size (w1.heap.size + 1) B w1.heap.size kb 0 (.slice none 0 0) (.slice none 0 0) most [] [] ((w1.alloc (.cells #[.int .i64 most, .slice none 0 0] 39)).alloc (.cells #[.pointer (some ⟨B, 0, none⟩), .pointer (some ⟨w1.heap.size, 0, none⟩)] 41)) := by
    refine ⟨r2, hI.later hbb, ⟨r1, OwnA.nil _⟩, ?_, ?_, by omega⟩
    · rintro k (e | e | e)
      · exact ⟨by omega, by omega, by rintro (q | q) <;> first | omega | cases q⟩
      · exact ⟨by omega, by omega, by rintro (q | q) <;> first | omega | cases q⟩
      · cases e
    · rintro k (e | e)
      · exact ⟨by omega, by omega⟩
      · cases e
  have HP := hid_of' (And.intro hpr (bgo hb1 hbb))
  clear hpr hb1 hbb r1 r2 hI hlB hlk
  generalize (w1.alloc (.cells #[.int .i64 most, .slice none 0 0] 39)).alloc (.cells #[.pointer (some ⟨B, 0, none⟩), .pointer (some ⟨w1.heap.size, 0, none⟩)] 41) = W at HP ⊢
  obtain ⟨R, hR⟩ : ∃ R, w1.heap.size = R := ⟨_, rfl⟩
  rw [hR] at HP ⊢
  obtain ⟨P, hP⟩ : ∃ P, R + 1 = P := ⟨_, rfl⟩
  rw [hP] at HP ⊢
  clear hP hR hs1
  go_wp2
  go_loopw [8] (fun i wr => ∃ (k n : Nat) (vb vr : Value) (lo : List Ac), i = .int .i64 (k : Int) ∧ k ≤ l.length ∧ n ≤ k ∧ k ≤ 200 ∧ PrAt w.heap.size P B R kb n vb vr most lo lo wr ∧ Below w.heap.size w wr) (fun i _ => l.length - (intOf i).toNat)
  case atStart => exact ⟨0, 0, _, _, _, rfl, by omega, by omega, by omega, HP.out.1, HP.out.2⟩
  case round =>
    rename World => wr
    obtain ⟨k, n, vb, vr, lo, rfl, hk, hnk, hk2, hpr, hB⟩ := hrel
    by_cases hlt : k < l.length
    · have hki : (k : Int) < (l.length : Int) := by omega
      by_cases h200 : k < 200
      · have hk200 : (k : Int) < 200 := by omega
        obtain ⟨y, hy⟩ : ∃ y, l[k]? = some y := ⟨_, List.getElem?_eq_getElem hlt⟩
        have hyf := H.out.2 y (List.mem_of_getElem? hy)
        obtain ⟨g, o, c2, hv, hcs⟩ := H.out.1.pos (by omega)
        simp only [Value.slice.injEq, true_and] at hv
        obtain ⟨rfl, rfl⟩ := hv
        have hin0 := hcs k y hy
        have hin := hin0.below hB hin0.1
        have HD := hid_of' (does_any hpr (by omega) hyf.1 hyf.2.1 hyf.2.2)
        have HB := hid_of' (And.intro hB hcs)
        clear hpr hB hcs hy
        go_upto_region 9 with (first | (refine wpL_loadO rfl _ rfl rfl hyf hin ?_) | (go_at_call 8; refine HD.out.mono ?_; rintro e w3 ⟨n3, vb3, vr3, lo3, rfl, p3, hn3, hb3⟩; clear HD; have HS := hid_of' (same_ok p3)) | (go_at_call 9; refine HS.out.mono ?_; rintro e w4 ⟨rfl, hb4⟩; clear HS))
        have hs0 := HB.out.1.size
        have hs3 := hb3.size
        have HZ := hid_of' (And.intro (p3.later hb4) (HB.out.1.trans (hb3.trans (hb4.mono (by omega)))))
        clear p3 hb3 hb4
        go_wp2
        go_roundw
        case rel => exact ⟨k + 1, n3, vb3, vr3, lo3, by go_num, by omega, by omega, by omega, HZ.out.1, HZ.out.2⟩
        case measure => simp [intOf]; omega
      · have hk200 : ¬ (k : Int) < 200 := by omega
        go_wp2_with (go_at_call 7; refine (wakes11 wr).mono ?_; rintro e w4 ⟨rfl, hb4⟩)
        go_ret
        exact ⟨rfl, bgo hB hb4⟩
    · have hki : ¬ (k : Int) < (l.length : Int) := by omega
      go_wp2_with (go_at_call 7; refine (wakes11 wr).mono ?_; rintro e w4 ⟨rfl, hb4⟩)
      go_ret
      exact ⟨rfl, bgo hB hb4⟩
end Go.Proofs.YtlgdaaofpjpobaaDoor
