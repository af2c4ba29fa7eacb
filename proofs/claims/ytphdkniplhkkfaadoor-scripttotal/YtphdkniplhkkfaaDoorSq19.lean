
/-
  barrowlaw18.ScriptTotal holds of any bytes.
-/
import Derived.Test.YtphdkniplhkkfaaDoorScX
import Derived.Test.YtphdkniplhkkfaaDoorSq8
import Derived.Test.YtphdkniplhkkfaaDoorSq15
namespace Go.Proofs.YtphdkniplhkkfaaDoor
open Go.RowKit Go.Extern.Stop Go.Stop Go.Extern
set_option maxRecDepth 100000

/-- clip: at most 2000 bytes. -/
theorem clip_is {w : World} {v : Value} {bs : List UInt8} (h : SlC w v bs) :
    Calls Tryd.prog 15 #[v] w fun e w' => ∃ u, e = .returned u ∧ SlC w u (bs.take 2000) ∧ w' = w := by
  obtain ⟨hb, a, c, rfl, hc⟩ := h
  by_cases hl : 2000 < bs.length
  · have hlz : (2000 : Int) < (bs.length : Int) := by omega
    have hcap : (2000 : Int) ≤ (c : Int) := by omega
    have hc0 : ¬ c = 0 := by omega
    have HB := hid_of' (And.intro (hb.take (show 2000 ≤ bs.length by omega)) (show 2000 ≤ c by omega))
    have hlt : (bs.take 2000).length = 2000 := by rw [List.length_take]; omega
    have HT := hid_of' hlt
    clear hb hc hlt
    go_enter Tryd.func15, Tryd.ntmps15
    go_wp2
    go_ret
    exact ⟨_, rfl, ⟨HB.out.1, a, c, by rw [HT.out]; rfl, by rw [HT.out]; exact HB.out.2⟩, rfl⟩
  · have hlz : ¬ (2000 : Int) < (bs.length : Int) := by omega
    have HB := hid_of' (show SlC w (.slice a bs.length c) (bs.take 2000) by rw [List.take_of_length_le (by omega)]; exact ⟨hb, a, c, rfl, hc⟩)
    clear hb hc
    go_enter Tryd.func15, Tryd.ntmps15
    go_wp2
    go_ret
    exact ⟨_, rfl, HB.out, rfl⟩
theorem nameB_pos {k : Int} (h0 : 0 ≤ k) (h1 : k < 14) : 0 < (nameB k).size := by
  unfold nameB
  rw [if_pos ⟨h0, h1⟩]
  obtain ⟨n, rfl⟩ : ∃ n : Nat, k = (n : Int) := ⟨k.toNat, by omega⟩
  have hn : n < 14 := by omega
  rw [Int.toNat_natCast]
  match n, hn with
  | 0, _ => decide
  | 1, _ => decide
  | 2, _ => decide
  | 3, _ => decide
  | 4, _ => decide
  | 5, _ => decide
  | 6, _ => decide
  | 7, _ => decide
  | 8, _ => decide
  | 9, _ => decide
  | 10, _ => decide
  | 11, _ => decide
  | 12, _ => decide
  | 13, _ => decide
  | n + 14, h => omega
theorem ne_of {t : ByteArray} (h : t.data.toList ≠ []) : t.toList.isEmpty = false := by
  rw [ByteArray.toList_eq]
  cases e : t.data.toList with
  | nil => exact absurd e h
  | cons x l => rfl
theorem nameB_ne {k : Int} (h0 : 0 ≤ k) (h1 : k < 14) : (nameB k).toList.isEmpty = false := by
  refine ne_of fun e => ?_
  have h := nameB_pos h0 h1
  have h2 : (nameB k).data.toList.length = (nameB k).size := by rw [Array.length_toList]; rfl
  rw [e] at h2
  simp at h2
  omega
theorem textB_ne {s : Stp} (h : pln s = true) : (textB s).toList.isEmpty = false := by
  obtain ⟨⟨h0, h1⟩, _⟩ := pln_is h
  have hn := nameB_pos h0 h1
  have e : textB s = ⟨(joinB spB (wordsB s)).toArray⟩ := if_pos h
  rw [e]
  refine ne_of fun e2 => ?_
  have h2 : (nameB s.k).data.toList.length = (nameB s.k).size := by rw [Array.length_toList]; rfl
  have h3 : joinB spB (wordsB s) = [] := by simpa using e2
  have h4 : ∃ r, wordsB s = nameB s.k :: r := ⟨_, rfl⟩
  obtain ⟨r, h4⟩ := h4
  rw [h4] at h3
  unfold joinB at h3
  rw [(List.append_eq_nil_iff.1 h3).1] at h2
  simp at h2
  omega
theorem RwB.slc {v : Value} {bs : List UInt8} {w : World} (h : RwB v bs w) : SlC w v bs := by
  obtain ⟨a, c, hv, hle, _⟩ := Rw.form h
  exact ⟨h.sl, a, c, hv, hle⟩
theorem rd_small : ∀ (n : Nat) (l : List UInt8), l.length ≤ n → ∀ s ∈ rd l, s.t.size ≤ 100
  | 0, l, h, s, hs => by
    have : l = [] := List.eq_nil_of_length_eq_zero (by omega)
    subst this
    cases hs
  | n + 1, l, h, s, hs => by
    by_cases h0 : l = []
    · subst h0
      cases hs
    · have h2 := rdR_len l h0
      rw [rd_step l h0] at hs
      rcases List.mem_cons.1 hs with rfl | hs
      · unfold rdS
        dsimp only
        split
        · have h3 := tx_size (rtC (l.drop 4))
          have h4 := (rtC_is (l.drop 4)).2
          omega
        · exact Nat.zero_le _
      · exact rd_small n (rdR l) (by omega) s hs
set_option maxHeartbeats 8000000 in
theorem scriptTotal_all {w : World} {v : Value} {bs : List UInt8} (hTab : TabOk w) (h : SlC w v bs) :
    Calls Tryd.prog 4 #[v] w fun e w' => e = .returned (.bool true) ∧ Below w.heap.size w w' := by
  have HC := hid_of' (clip_is h)
  have hB2 : (bs.take 2000).length ≤ 2000 := by rw [List.length_take]; omega
  generalize bs.take 2000 = B at HC hB2
  have HK := hid_of' (fun x => wakes_is x)
  have HTab := hid_of' hTab
  clear h hTab
  go_enter Tryd.func4, Tryd.ntmps4
  go_upto_region 2 with (go_at_call 15; refine HC.out.mono ?_; rintro e wx ⟨u, rfl, hu, hwx⟩; rw [hwx]; clear hwx)
  obtain ⟨ra, rc, huv, _⟩ := hu.2
  obtain ⟨nB, hnB⟩ : ∃ nB, nB = B.length := ⟨_, rfl⟩
  rw [← hnB] at huv hB2
  subst huv
  have HU := hid_of' (And.intro hu hnB)
  have HR := hid_of' (read_ok hu (by omega))
  clear hu hnB HC
  go_upto_region 3 with (go_at_call 16; refine HR.out.mono ?_; rintro e w1 ⟨va, rfl, r1, o1, b1⟩)
  obtain ⟨la, lc, hlv, _⟩ := Rw.form r1
  obtain ⟨n, hn⟩ : ∃ n, n = (rd B).length := ⟨_, rfl⟩
  rw [← hn] at hlv
  subst hlv
  have hrl : n ≤ 2000 := by
    have h1 := rd_len _ B (Nat.le_refl _)
    have h2 := HU.out.2
    omega
  have hiff : n = 0 ↔ nB = 0 := by
    have := rd_len0 B
    rw [← hn, ← HU.out.2] at this
    exact this
  have H1 := hid_of' (And.intro r1 (And.intro b1 (And.intro hn hiff)))
  clear r1 o1 b1 hn HR hiff
  go_upto_region 4 with fail
  go_loopw [4] (fun iv wr => ∃ k : Nat, iv = .int .i64 (k : Int) ∧ k ≤ n ∧ Below w1.heap.size w1 wr) (fun iv _ => n - (intOf iv).toNat)
  case atStart => exact ⟨0, rfl, Nat.zero_le _, Below.refl _ _⟩
  case round =>
    obtain ⟨k, rfl, hk, hB⟩ := hrel
    by_cases hkn : k < n
    · have hki : (k : Int) < (n : Int) := by omega
      obtain ⟨e, he⟩ : ∃ e, (rd B)[k]? = some e := ⟨_, List.getElem?_eq_getElem (by rw [← H1.out.2.2.1]; exact hkn)⟩
      have hpl := rd_pln _ B (Nat.le_refl _) e (List.mem_of_getElem? he)
      have hsm := rd_small _ B (Nat.le_refl _) e (List.mem_of_getElem? he)
      obtain ⟨g, o, rfl, hg, hcs⟩ := ((RwT.sl H1.out.1).later hB).at he
      obtain ⟨sk, sa, sb, sc, st⟩ := e
      unfold stE at hcs
      dsimp only at hcs hsm
      obtain ⟨⟨k0, k1⟩, _⟩ := pln_is hpl
      dsimp only at k0 k1
      have hTk := HTab.out.later (bgo H1.out.2.1 hB)
      have HPl := hid_of' (plain_is sk sa sb sc st (by omega) wr)
      have HTx := hid_of' (fun (x : World) (hx : Below wr.heap.size wr x) => text_pl hpl (by omega) (hTk.later hx))
      have HN := hid_of' (fun x => name_is sk x)
      have e1 := textB_ne hpl
      have e2 := nameB_ne k0 k1
      rw [hpl] at HPl
      have HCs := hid_of' (fun (x : World) (hx : Below wr.heap.size wr x) => hcs.later hx)
      have HB := hid_of' hB
      unfold stv at HPl HTx HCs hcs
      have m0 : wr.cell? ⟨g, o + k * 5, none⟩ = some (.int .i64 sk) := (hcs).2 0 _ rfl
      have m1 : wr.cell? ⟨g, o + k * 5 + 1, none⟩ = some (.int .i64 sa) := (hcs).2 1 _ rfl
      have m2 : wr.cell? ⟨g, o + k * 5 + 2, none⟩ = some (.int .i64 sb) := (hcs).2 2 _ rfl
      have m3 : wr.cell? ⟨g, o + k * 5 + 3, none⟩ = some (.int .i64 sc) := (hcs).2 3 _ rfl
      have m4 : wr.cell? ⟨g, o + k * 5 + 4, none⟩ = some (.string st) := (hcs).2 4 _ rfl
      clear hcs hB he hpl hTk
      go_wp2_with (first
        | (go_at_call 10; refine HPl.out.mono ?_; rintro e w3 ⟨rfl, hb3⟩; have n0 : w3.cell? ⟨g, o + k * 5, none⟩ = some (.int .i64 sk) := (HCs.out w3 hb3).2 0 _ rfl; have n1 : w3.cell? ⟨g, o + k * 5 + 1, none⟩ = some (.int .i64 sa) := (HCs.out w3 hb3).2 1 _ rfl; have n2 : w3.cell? ⟨g, o + k * 5 + 2, none⟩ = some (.int .i64 sb) := (HCs.out w3 hb3).2 2 _ rfl; have n3 : w3.cell? ⟨g, o + k * 5 + 3, none⟩ = some (.int .i64 sc) := (HCs.out w3 hb3).2 3 _ rfl; have n4 : w3.cell? ⟨g, o + k * 5 + 4, none⟩ = some (.string st) := (HCs.out w3 hb3).2 4 _ rfl; clear m0 m1 m2 m3 m4)
        | (go_at_call 12; refine (HTx.out _ hb3).mono ?_; rintro e w4 ⟨rfl, hb4⟩; have p0 : w4.cell? ⟨g, o + k * 5, none⟩ = some (.int .i64 sk) := (HCs.out w4 (bgo hb3 hb4)).2 0 _ rfl; have p1 : w4.cell? ⟨g, o + k * 5 + 1, none⟩ = some (.int .i64 sa) := (HCs.out w4 (bgo hb3 hb4)).2 1 _ rfl; have p2 : w4.cell? ⟨g, o + k * 5 + 2, none⟩ = some (.int .i64 sb) := (HCs.out w4 (bgo hb3 hb4)).2 2 _ rfl; have p3 : w4.cell? ⟨g, o + k * 5 + 3, none⟩ = some (.int .i64 sc) := (HCs.out w4 (bgo hb3 hb4)).2 3 _ rfl; have p4 : w4.cell? ⟨g, o + k * 5 + 4, none⟩ = some (.string st) := (HCs.out w4 (bgo hb3 hb4)).2 4 _ rfl; clear n0 n1 n2 n3 n4)
        | (go_at_call 17; refine (HN.out _).mono ?_; rintro e w5 ⟨rfl, hb5⟩))
      exact ⟨⟨k + 1, by go_num, by omega, bgo (bgo (bgo HB.out hb3) hb4) hb5⟩, by simp [intOf]; omega⟩
    · have hki : ¬ (k : Int) < (n : Int) := by omega
      have HB := hid_of' hB
      have HW := hid_of' (write_ok ((RwT.sl H1.out.1).later hB) (by rw [← H1.out.2.2.1]; omega) (fun e he => by have := rd_small _ B (Nat.le_refl _) e he; omega))
      have hwl : (wrL (rd B)).length ≤ nB + 5 := by
        rw [HU.out.2]
        exact wr_rd_len B
      obtain ⟨nw, hnw⟩ : ∃ nw, nw = (wrL (rd B)).length := ⟨_, rfl⟩
      rw [← hnw] at hwl
      have hwz : (nw : Int) ≤ (nB : Int) + 5 := by omega
      have HNW := hid_of' hnw
      clear hB hnw
      go_upto_region 9 with (go_at_call 6; refine HW.out.mono ?_; rintro e w2 ⟨vb, rfl, rb, ob, b2⟩)
      obtain ⟨wa, wc, hwv, _⟩ := Rw.form rb
      rw [← HNW.out] at hwv
      subst hwv
      have HRd := hid_of' (read_ok (RwB.slc rb) (by rw [← HNW.out]; omega))
      have H2 := hid_of' (And.intro rb b2)
      clear rb ob b2
      have hi2 := H1.out.2.2.2
      by_cases hn0 : n = 0
      · have e1 : ((n : Int) == 0) = true := by rw [hn0]; rfl
        have e2 : ((nB : Int) == 0) = true := by rw [hi2.1 hn0]; rfl
        clear hi2 hn0
        go_wp2_with (first
          | (go_at_call 16; refine HRd.out.mono ?_; rintro e w3 ⟨vc, rfl, rc9, oc, b3⟩; have rc9' : RwT vc (rd B) w3 := (by rw [← wr_rd B]; exact rc9); have HS := hid_of' (keepSteps_same rc9'.sl (((RwT.sl H1.out.1).later (bgo HB.out H2.out.2)).later b3) (by rw [← H1.out.2.2.1]; omega)))
          | (go_at_call 8; refine HS.out.mono ?_; rintro e w4 ⟨rfl, b4⟩)
          | (go_at_call 14; with_reducible refine (HK.out _).mono ?_; rintro e w5 ⟨rfl, b5⟩))
        go_ret
        exact ⟨rfl, bgo (bgo (bgo (bgo H1.out.2.1 (bgo HB.out H2.out.2)) b3) b4) b5⟩
      · have e1 : ((n : Int) == 0) = false := by simpa using hn0
        have e2 : ((nB : Int) == 0) = false := by simpa using fun e => hn0 (hi2.2 e)
        clear hi2 hn0
        go_wp2_with (first
          | (go_at_call 16; refine HRd.out.mono ?_; rintro e w3 ⟨vc, rfl, rc9, oc, b3⟩; have rc9' : RwT vc (rd B) w3 := (by rw [← wr_rd B]; exact rc9); have HS := hid_of' (keepSteps_same rc9'.sl (((RwT.sl H1.out.1).later (bgo HB.out H2.out.2)).later b3) (by rw [← H1.out.2.2.1]; omega)))
          | (go_at_call 8; refine HS.out.mono ?_; rintro e w4 ⟨rfl, b4⟩)
          | (go_at_call 14; with_reducible refine (HK.out _).mono ?_; rintro e w5 ⟨rfl, b5⟩))
        go_ret
        exact ⟨rfl, bgo (bgo (bgo (bgo H1.out.2.1 (bgo HB.out H2.out.2)) b3) b4) b5⟩
end Go.Proofs.YtphdkniplhkkfaaDoor
