
/-
  barrowlaw18: clip; ScriptRead holds of any bytes.
-/
import Derived.Test.YtphdkniplhkkfaaSq8
import Derived.Test.YtphdkniplhkkfaaSq11
import Derived.Test.YtphdkniplhkkfaaScLn
namespace Go.Proofs.Ytphdkniplhkkfaa
open Go.RowKit Go.Extern.Stop Go.Stop Go.Extern
set_option maxRecDepth 100000

/-- clip: at most 2000 bytes. -/
theorem clip_is {w : World} {v : Value} {bs : List UInt8} (h : SlC w v bs) :
    Calls Try.prog 7 #[v] w fun e w' => ∃ u, e = .returned u ∧ SlC w u (bs.take 2000) ∧ w' = w := by
  obtain ⟨hb, a, c, rfl, hc⟩ := h
  by_cases hl : 2000 < bs.length
  · have hlz : (2000 : Int) < (bs.length : Int) := by omega
    have hcap : (2000 : Int) ≤ (c : Int) := by omega
    have hc0 : ¬ c = 0 := by omega
    have HB := hid_of' (And.intro (hb.take (show 2000 ≤ bs.length by omega)) (show 2000 ≤ c by omega))
    have hlt : (bs.take 2000).length = 2000 := by rw [List.length_take]; omega
    have HT := hid_of' hlt
    clear hb hc hlt
    go_enter Try.func7, Try.ntmps7
    go_wp2
    go_ret
    exact ⟨_, rfl, ⟨HB.out.1, a, c, by rw [HT.out]; rfl, by rw [HT.out]; exact HB.out.2⟩, rfl⟩
  · have hlz : ¬ (2000 : Int) < (bs.length : Int) := by omega
    have HB := hid_of' (show SlC w (.slice a bs.length c) (bs.take 2000) by rw [List.take_of_length_le (by omega)]; exact ⟨hb, a, c, rfl, hc⟩)
    clear hb hc
    go_enter Try.func7, Try.ntmps7
    go_wp2
    go_ret
    exact ⟨_, rfl, HB.out, rfl⟩
/-- A block of steps' cells, whatever they hold. -/
def BkAt (g n : Nat) (w : World) : Prop := ∃ cur : Array Value, w.heap[g]? = some (.cells cur 29 (0, 0)) ∧ n ≤ cur.size
theorem BkAt.there {g n : Nat} {w : World} (h : BkAt g n w) {o m : Nat} (ho : o + m ≤ n) : w.there g o m := fun j hj => by
  obtain ⟨cur, hg, hn⟩ := h
  refine ⟨?_, Lib.frozen_of_heap hg _⟩
  rw [cell_of_row w g _ cur _ (0, 0) hg, Array.getElem?_eq_getElem (by omega)]
  rfl
theorem BkAt.put {g n : Nat} : ∀ (vs : List Value) (o : Nat) {w : World}, BkAt g n w → BkAt g n (w.setCells g o vs)
  | [], _, _, h => h
  | v :: vs, o, w, h => by
    obtain ⟨cur, hg, hn⟩ := h
    exact BkAt.put vs (o + 1) ⟨cur.setIfInBounds o v, RowAt.setc hg o v, by simpa using hn⟩
theorem RwT.bk {a : Option Addr} {n c : Nat} {l : List Stp} {w : World} (h : RwT (.slice a n c) l w) (hn : 0 < n) : ∃ g, a = some ⟨g, 0, none⟩ ∧ BkAt g (n * 5) w ∧ g < w.heap.size := by
  have hlt := Rw.lt h
  have h1 := h.1
  obtain ⟨a', c', hv, _⟩ := Rw.form h
  cases hv
  rcases h.2 with ⟨q, _⟩ | ⟨g, cap, cur, q, hg, hle, _, hs, ht⟩
  · simp only [Value.slice.injEq] at q
    omega
  · cases q
    exact ⟨g, rfl, ⟨cur, hg, by omega⟩, hlt g rfl⟩
theorem wpL_stMid {ops : Array Oper} {rest : List Oper} {o : Oper} {A : Act} {w : World} {Q : Exit → Act → World → Prop} (hgd : o.guard = none) (x y : Operand) (ho : o.op = .store 29 x y) {g off : Nat} (hx : A.eval x = .pointer (some ⟨g, off, none⟩)) {k p q r : Int} {t : ByteArray} (hy : A.eval y = .agg (stv k p q r t)) (ht : w.there g off 5)
    (K : wpList Try.prog ops Q rest (A.put o.dst undef) (w.setCells g off (stv k p q r t).toList)) : wpList Try.prog ops Q (o :: rest) A w :=
  wpList_plain hgd fun _ hK => wp_store_mid _ x y ho g off (stv k p q r t) hx hy ht (stv_size k p q r t) (stv_one k p q r t) (hK _ _ K)
theorem lent_sl {w : World} {G c : Nat} {bs : List UInt8} (h : Rw 5 1 (.slice (some ⟨G, 0, none⟩) (bs.length + 4) c) (bs.length + 4) (Lib.byteCells bs ++ mk4) w) : SlC w (.slice (some ⟨G, 0, none⟩) bs.length c) bs := by
  obtain ⟨a, c', hv, hle, _⟩ := Rw.form h
  cases hv
  refine ⟨.inr ⟨G, 0, c, rfl, Rw.lt h G rfl, fun i b hi => ?_⟩, _, c, rfl, by omega⟩
  have hil := (List.getElem?_eq_some_iff.1 hi).1
  exact Rw.cells (o := 0) h i _ (by rw [List.getElem?_append_left (by rw [Lib.byteCells_length]; exact hil), byteCells_at, hi]; rfl)
set_option maxHeartbeats 4000000 in
theorem scriptRead_all {w : World} {v : Value} {bs : List UInt8} (h : SlC w v bs) :
    Calls Try.prog 3 #[v] w fun e w' => e = .returned (.bool true) ∧ Below w.heap.size w w' := by
  have HC := hid_of' (clip_is h)
  have hB2 : (bs.take 2000).length ≤ 2000 := by rw [List.length_take]; omega
  generalize bs.take 2000 = B at HC hB2
  have HK := hid_of' (fun x => wakes_is x)
  clear h
  go_enter Try.func3, Try.ntmps3
  go_upto_region 2 with (go_at_call 7; refine HC.out.mono ?_; rintro e wx ⟨u, rfl, hu, hwx⟩; rw [hwx]; clear hwx)
  have HU := hid_of' hu
  have HL := hid_of' (lend_is hu.1 (by omega))
  clear hu HC
  go_upto_region 3 with (go_at_call 8; refine HL.out.mono ?_; rintro e w1 ⟨G, c, rfl, r1, hG, b1⟩)
  have HR := hid_of' (read_ok (lent_sl r1) (by omega))
  have H1 := hid_of' (And.intro r1 (And.intro hG b1))
  clear r1 hG b1 HL
  go_upto_region 4 with (go_at_call 9; refine HR.out.mono ?_; rintro e w2 ⟨va, rfl, ra, oa, b2⟩)
  have HI := hid_of' (intact_is (H1.out.1.later b2) ((HU.out.1.later H1.out.2.2).later b2) (by omega))
  have H2 := hid_of' (And.intro ra (And.intro oa b2))
  clear ra oa b2 HR
  have hrl : (rd B).length ≤ 1000000 := by have := rd_len _ B (Nat.le_refl _); omega
  go_upto_region 6 with (first
    | (go_at_call 10; refine HI.out.mono ?_; rintro e w3 ⟨rfl, c3⟩; have b3 := (bgo H1.out.2.2 H2.out.2.2).trans (c3.below (n := w.heap.size) (fun s hs => by have := H1.out.2.1; omega) (Nat.le_trans H1.out.2.2.size H2.out.2.2.size)); have ra3 : RwT va (rd B) w3 := Rw.ch H2.out.1 c3 (fun k hk e => by have := H2.out.2.1 k hk; have := Rw.lt H1.out.1 G rfl; omega); have HF := hid_of' (refread_ok (HU.out.later b3) (by omega)))
    | (go_at_call 12; refine HF.out.mono ?_; rintro e w4 ⟨vb, rfl, rb, ob, b4⟩)
    | (go_at_call 11; refine (keepSteps_same (ra3.later b4).sl rb.sl hrl).mono ?_; rintro e w5 ⟨rfl, b5⟩))
  have ra5 := (ra3.later b4).later b5
  have bw5 := (bgo (bgo b3 b4) b5)
  have oa5 : ∀ k, va.ownBlock = some k → w.heap.size ≤ k := fun k hk => Nat.le_trans H1.out.2.2.size (H2.out.2.1 k hk)
  clear HF ra3 rb ob b3 b4 b5 HI
  obtain ⟨aa, ca, rfl, _, _⟩ := Rw.form ra5
  obtain ⟨n, hn⟩ : ∃ n, n = (rd B).length := ⟨_, rfl⟩
  rw [← hn] at ra5 oa5 ⊢
  have hnl : n ≤ 1000000 := by omega
  have H5 := hid_of' (And.intro ra5 (And.intro bw5 (And.intro oa5 hn)))
  clear ra5 bw5 oa5 hn
  go_upto_region 7 with fail
  go_loopw [5] (fun kv wr => ∃ k : Nat, kv = .int .i64 (k : Int) ∧ k ≤ n ∧ (∀ g, aa = some ⟨g, 0, none⟩ → 0 < n → BkAt g (n * 5) wr) ∧ Below w.heap.size w wr) (fun kv _ => n - (intOf kv).toNat)
  case atStart =>
    refine ⟨0, rfl, Nat.zero_le _, fun g hg hn0 => ?_, H5.out.2.1⟩
    obtain ⟨g', e, hb, _⟩ := RwT.bk H5.out.1 hn0
    rw [hg] at e
    cases e
    exact hb
  case round =>
    obtain ⟨k, rfl, hk, hbk, hB⟩ := hrel
    by_cases hkn : k < n
    · have hki : (k : Int) < (n : Int) := by omega
      obtain ⟨g, rfl, _, _⟩ := RwT.bk H5.out.1 (show 0 < n by omega)
      have hg := H5.out.2.2.1 g rfl
      have ht := (hbk g rfl (by omega)).there (o := k * 5) (m := 5) (by omega)
      have HX := hid_of' (And.intro (hbk g rfl (by omega)) (And.intro hB hg))
      clear hbk hB hg
      have m0 := (ht 0 (by decide)).1
      go_upto_region 8 with (first | (refine wpL_stMid (k := -1) (p := 0) (q := 0) (r := 0) (t := .empty) rfl _ _ rfl rfl rfl ht ?_))
      have HY := hid_of' (show BkAt g (n * 5) (wr.setCells g (k * 5) (stv (-1) 0 0 0 .empty).toList) ∧ Below w.heap.size w (wr.setCells g (k * 5) (stv (-1) 0 0 0 .empty).toList) from ⟨BkAt.put _ _ HX.out.1, (Ch.cells (S := fun s => w.heap.size ≤ s) (a := w) (.inl HX.out.2.2) _ _ wr (Ch.ofBelow HX.out.2.1)).below (fun s h1 h2 => by omega) (Nat.le_refl _)⟩)
      generalize wr.setCells g (k * 5) (stv (-1) 0 0 0 .empty).toList = w7 at HY ⊢
      clear m0 ht HX
      go_wp2
      refine ⟨⟨k + 1, by go_num, by omega, fun g' e _ => ?_, HY.out.2⟩, by simp [intOf]; omega⟩
      cases e
      exact HY.out.1
    · have hki : ¬ (k : Int) < (n : Int) := by omega
      have HB := hid_of' hB
      clear hbk hB
      have HR := hid_of' (read_ok (HU.out.later HB.out) (by omega))
      go_wp2_with (first
        | (go_at_call 9; refine HR.out.mono ?_; rintro e w6 ⟨vc, rfl, rc, oc, b6⟩; have HF := hid_of' (refread_ok ((HU.out.later HB.out).later b6) (by omega)))
        | (go_at_call 12; refine HF.out.mono ?_; rintro e w7 ⟨vd, rfl, rd7, od, b7⟩)
        | (go_at_call 11; refine (keepSteps_same (rc.later b7).sl rd7.sl hrl).mono ?_; rintro e w8 ⟨rfl, b8⟩)
        | (go_at_call 13; with_reducible refine (HK.out _).mono ?_; rintro e w9 ⟨rfl, b9⟩))
      go_ret
      exact ⟨rfl, (((HB.out.trans (b6.mono HB.out.size)).trans (b7.mono (Nat.le_trans HB.out.size b6.size))).trans (b8.mono (Nat.le_trans (Nat.le_trans HB.out.size b6.size) b7.size))).trans (b9.mono (Nat.le_trans (Nat.le_trans (Nat.le_trans HB.out.size b6.size) b7.size) b8.size))⟩
end Go.Proofs.Ytphdkniplhkkfaa
