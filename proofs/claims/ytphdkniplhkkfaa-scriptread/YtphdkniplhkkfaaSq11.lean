
/-
  Package script: the document's letter, texts, Read.
-/
import Derived.Test.YtphdkniplhkkfaaSq5
import Derived.Test.YtphdkniplhkkfaaScU
namespace Go.Proofs.Ytphdkniplhkkfaa
open Go.RowKit Go.Extern.Stop Go.Stop Go.Extern
set_option maxRecDepth 100000

theorem texts_at {k : Int} {b : Bool} (h : hasT k = b) (w : World) : Calls Try.prog 22 #[.int .i64 k] w fun e w' => e = .returned (.bool b) ∧ w' = w := by
  rw [← h]
  unfold hasT
  by_cases h0 : k = 0
  · subst h0
    go_enter Try.func22, Try.ntmps22
    go_wp2
    go_ret
    exact ⟨rfl, rfl⟩
  · by_cases h4 : k = 4
    · subst h4
      go_enter Try.func22, Try.ntmps22
      go_wp2
      go_ret
      exact ⟨rfl, rfl⟩
    · go_enter Try.func22, Try.ntmps22
      go_wp2
      go_ret
      exact ⟨by simp [h0, h4], rfl⟩
theorem letter_is (n : Nat) (hn : n < 256) (w : World) : Calls Try.prog 23 #[.int .u8 (n : Int)] w fun e w' => e = .returned (.int .i32 (chN n)) ∧ w' = w := by
  unfold chN
  by_cases h1 : n < 208
  · have hi : (n : Int) < 208 := by omega
    rw [if_neg (by omega), if_neg (by omega), if_neg (by omega)]
    go_enter Try.func23, Try.ntmps23
    go_wp2
    go_ret
    exact ⟨rfl, rfl⟩
  · have hi : ¬ (n : Int) < 208 := by omega
    by_cases h2 : n < 224
    · have hj : (n : Int) < 224 := by omega
      rw [if_neg (by omega), if_neg (by omega), if_pos (by omega)]
      go_enter Try.func23, Try.ntmps23
      go_wp2
      go_ret
      exact ⟨rfl, rfl⟩
    · have hj : ¬ (n : Int) < 224 := by omega
      by_cases h3 : n < 240
      · have hk : (n : Int) < 240 := by omega
        rw [if_neg (by omega), if_pos (by omega)]
        go_enter Try.func23, Try.ntmps23
        go_wp2
        go_ret
        exact ⟨rfl, rfl⟩
      · have hk : ¬ (n : Int) < 240 := by omega
        rw [if_pos (by omega)]
        go_enter Try.func23, Try.ntmps23
        go_wp2
        go_ret
        exact ⟨rfl, rfl⟩
/-- The head, so far. -/
def hdK (r : List UInt8) (k j : Nat) : Value := .int .i64 (if j < k then (hd r j : Int) else 0)
def hdV (r : List UInt8) (k : Nat) : Array Value := #[hdK r k 0, hdK r k 1, hdK r k 2, hdK r k 3]
theorem hdV_0 (r : List UInt8) : hdV r 0 = #[.int .i64 0, .int .i64 0, .int .i64 0, .int .i64 0] := rfl
theorem hdV_4 (r : List UInt8) : hdV r 4 = #[.int .i64 (hd r 0 : Int), .int .i64 (hd r 1 : Int), .int .i64 (hd r 2 : Int), .int .i64 (hd r 3 : Int)] := rfl
theorem hdV_step (r : List UInt8) {k : Nat} (hk : k < 4) : (hdV r k).setIfInBounds k (.int .i64 (hd r k : Int)) = hdV r (k + 1) := by
  match k, hk with
  | 0, _ => rfl
  | 1, _ => rfl
  | 2, _ => rfl
  | 3, _ => rfl
  | n + 4, h => omega
theorem hd_out {r : List UInt8} {k : Nat} (h : r.length ≤ k) : hd r k = 0 := by
  unfold hd
  rw [List.getD, List.getElem?_eq_none h]
  rfl
theorem hdV_out {r : List UInt8} {k : Nat} (hk : k < 4) (h : r.length ≤ k) : hdV r (k + 1) = hdV r k := by
  have h9 := hdV_step r hk
  rw [hd_out h] at h9
  rw [← h9]
  match k, hk with
  | 0, _ => rfl
  | 1, _ => rfl
  | 2, _ => rfl
  | 3, _ => rfl
  | n + 4, h => omega
theorem hdV_some (r : List UInt8) {k j : Nat} (hj : j < 4) : ∃ z, (hdV r k)[j]? = some (.int .i64 z) := by
  match j, hj with
  | 0, _ => exact ⟨_, rfl⟩
  | 1, _ => exact ⟨_, rfl⟩
  | 2, _ => exact ⟨_, rfl⟩
  | 3, _ => exact ⟨_, rfl⟩
  | n + 4, h => omega
set_option maxHeartbeats 4000000 in
theorem refread_ok {w : World} {v : Value} {bs : List UInt8} (h : SlC w v bs) (hl : bs.length ≤ 1000000) :
    Calls Try.prog 12 #[v] w fun e w' => ∃ u, e = .returned u ∧ RwT u (rd bs) w' ∧ (∀ k, u.ownBlock = some k → w.heap.size ≤ k) ∧ Below w.heap.size w w' := by
  obtain ⟨a, c, rfl, hc⟩ := h.2
  obtain ⟨N, hN⟩ : ∃ N, N = bs.length := ⟨_, rfl⟩
  have HH := hid_of' (And.intro h hN)
  rw [← hN] at hc hl ⊢
  clear h hN
  go_enter Try.func12, Try.ntmps12
  go_wp2
  go_loopw [3, 4] (fun tv iv wr => ∃ (i : Nat) (l : List Stp), iv = .int .i64 (i : Int) ∧ i ≤ N + 4 ∧ l ++ rd (bs.drop i) = rd bs ∧ l.length ≤ i ∧ RwT tv l wr ∧ (∀ k, tv.ownBlock = some k → w.heap.size ≤ k) ∧ Below w.heap.size w wr) (fun _ iv _ => N + 4 - (intOf iv).toNat)
  case atStart => exact ⟨0, [], rfl, by omega, rfl, Nat.le_refl _, RwT.nil _, (fun q hq => by cases hq), Below.refl _ _⟩
  case round =>
    obtain ⟨i, l, rfl, hi, hrd, hll, hR, hO, hB⟩ := hrel
    obtain ⟨wA, rfl⟩ : ∃ x, x = wr := ⟨_, rfl⟩
    obtain ⟨ta, tc, htv, _, _⟩ := Rw.form hR
    obtain ⟨tn, htn⟩ : ∃ tn, tn = l.length := ⟨_, rfl⟩
    rw [← htn] at htv
    subst htv
    by_cases hiN : i < N
    · have hiz : (i : Int) < (N : Int) := by omega
      have HR := hid_of' (And.intro hrd (And.intro hll (And.intro hR (And.intro hO (And.intro hB htn)))))
      have r1 : RowAt wA.heap.size (hdV (bs.drop i) 0) 41 (wA.alloc (.cells (hdV (bs.drop i) 0) 41)) := RowAt.new wA _ _
      have b1 := below_one wA (.cells (hdV (bs.drop i) 0) 41)
      clear hrd hll hR hO hB htn
      go_upto_region 5 with fail
      change Code.wp Try.prog _ _ _ (wA.alloc (.cells (hdV (bs.drop i) 0) 41))
      obtain ⟨P, hP⟩ : ∃ P, P = wA.heap.size := ⟨_, rfl⟩
      rw [← hP] at r1 ⊢
      generalize wA.alloc (.cells (hdV (bs.drop i) 0) 41) = w1 at r1 b1 ⊢
      have H1 := hid_of' (And.intro r1 (And.intro b1 hP))
      clear r1 b1 hP
      go_upto_region 6 with fail
      go_loopw [4, 6] (fun iv kv wr2 => ∃ k : Nat, kv = .int .i64 (k : Int) ∧ iv = .int .i64 ((i : Int) + k) ∧ k ≤ 4 ∧ RowAt P (hdV (bs.drop i) k) 41 wr2 ∧ Below wA.heap.size wA wr2) (fun _ kv _ => 4 - (intOf kv).toNat)
      case atStart => exact ⟨0, rfl, by simp, by omega, H1.out.1, H1.out.2.1⟩
      case round =>
        obtain ⟨k, rfl, rfl, hk, hrow, hB2⟩ := hrel
        by_cases hk4 : k < 4
        · have hkz : (k : Int) < 4 := by omega
          by_cases hin : i + k < N
          · have hinz : (i : Int) + (k : Int) < (N : Int) := by omega
            obtain ⟨b, hb⟩ : ∃ b, bs[i + k]? = some b := ⟨_, List.getElem?_eq_getElem (by rw [← HH.out.2]; exact hin)⟩
            obtain ⟨g, o, c', e, hg, hcell⟩ := HH.out.1.1.at (by rintro rfl; simp at hb)
            obtain ⟨z, hz⟩ := hdV_some (bs.drop i) (k := k) hk4
            have cz := hrow.is hz
            have fz := hrow.free k
            have hwi : wrap64 ((i : Int) + (k : Int) + 1) = (i : Int) + (k : Int) + 1 := by unfold wrap64; omega
            have cb : wr.cell? ⟨g, o + (i + k), none⟩ = some (.int .u8 (b.toNat : Int)) := by rw [(HR.out.2.2.2.2.1.trans (hB2.mono HR.out.2.2.2.2.1.size)).cell hg]; exact hcell _ b hb
            have hbl : b.toNat < 256 := b.toNat_lt
            have hbd : hd (bs.drop i) k = b.toNat := by
              unfold hd
              rw [List.getD, List.getElem?_drop, hb]
              rfl
            have ein : ((i : Int) + (k : Int)).toNat = i + k := by omega
            cases e
            have HX := hid_of' (And.intro hrow (And.intro hB2 hbd))
            clear hrow hB2 hbd hb hcell hz
            go_wp2
            refine ⟨⟨k + 1, by go_num, by go_num, by omega, ?_, HX.out.2.1.setCell (by rw [← H1.out.2.2]; exact Nat.le_refl _) _⟩, by simp [intOf]; omega⟩
            have h9 := HX.out.1.setc k (.int .i64 (hd (bs.drop i) k : Int))
            rw [hdV_step _ hk4, HX.out.2.2] at h9
            exact h9
          · have hinz : ¬ (i : Int) + (k : Int) < (N : Int) := by omega
            have hwi : wrap64 ((i : Int) + (k : Int) + 1) = (i : Int) + (k : Int) + 1 := by unfold wrap64; omega
            have HX := hid_of' (And.intro hrow hB2)
            clear hrow hB2
            go_wp2
            refine ⟨⟨k + 1, by go_num, by go_num, by omega, ?_, HX.out.2⟩, by simp [intOf]; omega⟩
            rw [hdV_out hk4 (by rw [List.length_drop, ← HH.out.2]; omega)]
            exact HX.out.1
        · have ek : k = 4 := by omega
          have ekz : (k : Int) = 4 := by omega
          rw [ek, hdV_4] at hrow
          clear ek
          have c0 : wr.cell? ⟨P, 0, none⟩ = some (.int .i64 (hd (bs.drop i) 0 : Int)) := hrow.is rfl
          have c1 : wr.cell? ⟨P, 1, none⟩ = some (.int .i64 (hd (bs.drop i) 1 : Int)) := hrow.is rfl
          have c2 : wr.cell? ⟨P, 2, none⟩ = some (.int .i64 (hd (bs.drop i) 2 : Int)) := hrow.is rfl
          have c3 : wr.cell? ⟨P, 3, none⟩ = some (.int .i64 (hd (bs.drop i) 3 : Int)) := hrow.is rfl
          obtain ⟨r, hr⟩ : ∃ r, r = bs.drop i := ⟨_, rfl⟩
          rw [← hr] at c0 c1 c2 c3
          have l0 := hd_lt r 0
          have hkd : ((hd r 0 : Int)) % 14 = kd r := by unfold kd; omega
          have HX := hid_of' hB2
          have HRr := hid_of' hr
          obtain ⟨h0, eh0⟩ : ∃ h0, h0 = hd r 0 := ⟨_, rfl⟩
          obtain ⟨h1, eh1⟩ : ∃ h1, h1 = hd r 1 := ⟨_, rfl⟩
          obtain ⟨h2, eh2⟩ : ∃ h2, h2 = hd r 2 := ⟨_, rfl⟩
          obtain ⟨h3, eh3⟩ : ∃ h3, h3 = hd r 3 := ⟨_, rfl⟩
          rw [← eh0] at c0 l0 hkd
          rw [← eh1] at c1
          rw [← eh2] at c2
          rw [← eh3] at c3
          have H3 := hid_of' (And.intro eh1 (And.intro eh2 eh3))
          clear hrow hB2 hr eh0 eh1 eh2 eh3
          go_upto_region 12 with fail
          have r5 : RowAt wr.heap.size (stv (kd r) h1 h2 h3 .empty) 29 (wr.alloc (.cells (stv (kd r) h1 h2 h3 .empty) 29)) := RowAt.new wr _ _
          have b5 := below_one wr (.cells (stv (kd r) h1 h2 h3 .empty) 29)
          change Code.wp Try.prog _ _ _ (wr.alloc (.cells (stv (kd r) h1 h2 h3 .empty) 29))
          obtain ⟨P5, hP5⟩ : ∃ P5, P5 = wr.heap.size := ⟨_, rfl⟩
          rw [← hP5] at r5 ⊢
          generalize wr.alloc (.cells (stv (kd r) h1 h2 h3 .empty) 29) = w5 at r5 b5 ⊢
          have ck5 : w5.cell? ⟨P5, 0, none⟩ = some (.int .i64 (kd r)) := r5.is rfl
          have H5 := hid_of' (And.intro r5 (And.intro (bgo HX.out b5) (show wA.heap.size ≤ P5 by rw [hP5]; exact HX.out.size)))
          clear r5 b5 hP5 c0 c1 c2 c3
          rw [ekz]
          clear ekz
          cases hT : hasT (kd r)
          · have HT := hid_of' (fun x => texts_at hT x)
            go_upto_region 24 with (go_at_call 22; with_reducible refine (HT.out _).mono ?_; rintro e wx ⟨rfl, hwx⟩; rw [hwx]; clear hwx)
            have HE := hid_of' (And.intro H5.out.1 H5.out.2.1)
            have hst := rd_step r (by rintro rfl; have e := congrArg List.length HRr.out; rw [List.length_drop, ← HH.out.2] at e; simp at e; omega)
            have hrs : rdS r = ⟨kd r, h1, h2, h3, .empty⟩ := by
              unfold rdS
              rw [H3.out.1, H3.out.2.1, H3.out.2.2]
              rw [if_neg (by rw [hT]; decide)]
            have HS := hid_of' (And.intro hst hrs)
            clear hst hrs
            go_upto_region 25 with (first | (refine wpL_ldT rfl _ rfl rfl HE.out.1.in ?_; unfold stv) | (at_builtin; refine wpL_appT (m := [⟨kd r, h1, h2, h3, .empty⟩]) rfl _ _ rfl rfl rfl ((HR.out.2.2.1.later HE.out.2).later (below_one _ _)) (so_t _ _ _ _ _ _) (by have := HR.out.2.1; simp only [List.length_cons, List.length_nil]; omega) ?_; intro u6 w6 q1 q2 q3))
            have hBE := bgo HR.out.2.2.2.2.1 HE.out.2
            have hB6 : Below w.heap.size w w6 := (bgo hBE (below_one _ _)).grown q2 (bgo hBE (below_one _ _)).size HR.out.2.2.2.1
            have hO6 : ∀ q, u6.ownBlock = some q → w.heap.size ≤ q := fun q hq => (q3 q hq).elim (fun e => HR.out.2.2.2.1 q e) (fun e => by have h2 := hBE.size; rw [World.size_alloc] at e; omega)
            refine ⟨⟨i + 4, l ++ [⟨kd r, h1, h2, h3, .empty⟩], by go_num, by omega, ?_, ?_, q1, hO6, hB6⟩, by simp [intOf]; omega⟩
            · rw [← HR.out.1, ← HRr.out, HS.out.1, HS.out.2, List.append_assoc]
              have e : rdR r = bs.drop (i + 4) := by
                unfold rdR
                rw [if_neg (by rw [hT]; decide), HRr.out, List.drop_drop]
              rw [e]
              rfl
            · have := HR.out.2.1
              simp only [List.length_append, List.length_cons, List.length_nil]
              omega
          · have HT := hid_of' (fun x => texts_at hT x)
            go_upto_region 14 with (go_at_call 22; with_reducible refine (HT.out _).mono ?_; rintro e wx ⟨rfl, hwx⟩; rw [hwx]; clear hwx)
            obtain ⟨r5, hr5⟩ : ∃ r5, r5 = r.drop 5 := ⟨_, rfl⟩
            obtain ⟨nT, hnT⟩ : ∃ nT, nT = hd (r.drop 4) 0 % 16 := ⟨_, rfl⟩
            have HR5 := hid_of' (show r5 = r.drop 5 ∧ nT = hd (r.drop 4) 0 % 16 from ⟨hr5, hnT⟩)
            clear hr5 hnT
            by_cases hi4 : i + 4 < N
            · have hi4z : (i : Int) + 4 < (N : Int) := by omega
              obtain ⟨b4, hb4⟩ : ∃ b, bs[i + 4]? = some b := ⟨_, List.getElem?_eq_getElem (by rw [← HH.out.2]; exact hi4)⟩
              obtain ⟨g, o, c', e, hg, hcell⟩ := HH.out.1.1.at (by rintro rfl; simp at hb4)
              cases e
              have bw : Below w.heap.size w w5 := HR.out.2.2.2.2.1.trans (H5.out.2.1.mono HR.out.2.2.2.2.1.size)
              have cb : w5.cell? ⟨g, o + (i + 4), none⟩ = some (.int .u8 (b4.toNat : Int)) := by rw [bw.cell hg]; exact hcell _ b4 hb4
              have hbl : b4.toNat < 256 := b4.toNat_lt
              have ein : ((i : Int) + 4).toNat = i + 4 := by omega
              have hn16 : (b4.toNat : Int) % 16 = (nT : Int) := by
                have : nT = b4.toNat % 16 := by
                  rw [HR5.out.2, HRr.out]
                  unfold hd
                  rw [List.getD, List.getElem?_drop, List.getElem?_drop, Nat.add_zero, hb4]
                  rfl
                omega
              clear bw hcell hb4
              go_upto_region 19 with fail
              rw [hn16, show (i : Int) + 4 + 1 = (i : Int) + 5 by omega]
              clear hn16
              go_loopw [4, 9, 10] (fun iv tv kv wr2 => ∃ k : Nat, kv = .int .i64 (k : Int) ∧ iv = .int .i64 ((i : Int) + 5 + k) ∧ k ≤ nT ∧ k ≤ r5.length ∧ RwR tv ((r5.take k).map fun b => chN b.toNat) wr2 ∧ (∀ q, tv.ownBlock = some q → w5.heap.size ≤ q) ∧ Below w5.heap.size w5 wr2) (fun _ _ kv _ => nT - (intOf kv).toNat)
              case atStart => exact ⟨0, rfl, by go_num, Nat.zero_le _, Nat.zero_le _, RwR.nil _, (fun q hq => by cases hq), Below.refl _ _⟩
              case round =>
                obtain ⟨k, rfl, rfl, hk, hk5, hT5, hO5, hB5⟩ := hrel
                obtain ⟨xa, xc, hxv, _, _⟩ := Rw.form hT5
                obtain ⟨xs, hxs⟩ : ∃ xs, xs = (r5.take k).map fun b => chN b.toNat := ⟨_, rfl⟩
                rw [← hxs] at hT5 hxv
                obtain ⟨xn, hxn⟩ : ∃ xn, xn = xs.length := ⟨_, rfl⟩
                rw [← hxn] at hxv
                subst hxv
                have hxl : xs.length ≤ k := by rw [hxs, List.length_map, List.length_take]; omega
                have hl5 : r5.length = N - (i + 5) := by rw [HR5.out.1, HRr.out, List.length_drop, List.length_drop, ← HH.out.2]; omega
                have hstop : (¬ k < nT ∨ ¬ (i : Int) + 5 + (k : Int) < (N : Int)) → k < nT → k = r5.length := fun h1 h2 => by omega
                by_cases hgo : k < nT ∧ (i : Int) + 5 + (k : Int) < (N : Int)
                · obtain ⟨hg1, hg2⟩ := hgo
                  have hg3 : (k : Int) < (nT : Int) := by omega
                  obtain ⟨b, hb5⟩ : ∃ b, r5[k]? = some b := ⟨_, List.getElem?_eq_getElem (by omega)⟩
                  have hb : bs[i + 5 + k]? = some b := by
                    rw [HR5.out.1, HRr.out, List.getElem?_drop, List.getElem?_drop] at hb5
                    rw [← hb5]
                    congr 1
                    omega
                  obtain ⟨g, o, c', e, hg, hcell⟩ := HH.out.1.1.at (by rintro rfl; simp at hb)
                  cases e
                  have bw : Below w.heap.size w wr := (HR.out.2.2.2.2.1.trans (H5.out.2.1.mono HR.out.2.2.2.2.1.size)).trans (hB5.mono (Nat.le_trans HR.out.2.2.2.2.1.size H5.out.2.1.size))
                  have cb : wr.cell? ⟨g, o + (i + 5 + k), none⟩ = some (.int .u8 (b.toNat : Int)) := by rw [bw.cell hg]; exact hcell _ b hb
                  have ein : ((i : Int) + 5 + (k : Int)).toNat = i + 5 + k := by omega
                  have HC := hid_of' (fun x => letter_is b.toNat b.toNat_lt x)
                  have H7 := hid_of' (And.intro hT5 (And.intro hO5 (And.intro hB5 (And.intro hxl (And.intro hb5 hxs)))))
                  clear hT5 hO5 hB5 hxl hb5 hb hxs hxn hcell bw hstop hl5
                  go_upto_region 22 with (first | (go_at_call 23; with_reducible refine (HC.out _).mono ?_; rintro e w3 ⟨rfl, hw3⟩; rw [hw3]; clear hw3) | (at_builtin; refine wpL_appR (m := [chN b.toNat]) rfl _ _ rfl rfl rfl (H7.out.1.later (below_one _ _)) (so_r _ _) (by have := H7.out.2.2.2.1; simp only [List.length_cons, List.length_nil]; omega) ?_; intro u8 w8 q1 q2 q3))
                  have hB8 : Below w5.heap.size w5 w8 := (bgo H7.out.2.2.1 (below_one _ _)).grown q2 (bgo H7.out.2.2.1 (below_one _ _)).size H7.out.2.1
                  have hO8 : ∀ q, u8.ownBlock = some q → w5.heap.size ≤ q := fun q hq => (q3 q hq).elim (fun e => H7.out.2.1 q e) (fun e => by have h2 := H7.out.2.2.1.size; rw [World.size_alloc] at e; omega)
                  have q4 : RwR u8 ((r5.take (k + 1)).map fun b => chN b.toNat) w8 := by rw [List.take_add_one, H7.out.2.2.2.2.1, List.map_append, ← H7.out.2.2.2.2.2]; exact q1
                  have H8 := hid_of' (And.intro q4 (And.intro hO8 hB8))
                  clear q1 q2 q3 q4 hO8 hB8 HC
                  go_wp2
                  refine ⟨⟨k + 1, by go_num, by go_num, by omega, ?_, H8.out.1, H8.out.2.1, H8.out.2.2⟩, by simp [intOf]; omega⟩
                  exact (List.getElem?_eq_some_iff.1 H7.out.2.2.2.2.1).1
                · have hru : ∀ x ∈ xs, Ru x := fun x hx => by
                    rw [hxs] at hx
                    obtain ⟨y, _, rfl⟩ := List.mem_map.1 hx
                    exact chN_ru _
                  have hend : xs = rtC (r.drop 4) ∧ (∀ j, bs.drop (i + 5 + k + j) = (rtR (r.drop 4)).drop j) := by
                    have e9 : (r.drop 4).drop 1 = r5 := by rw [List.drop_drop, HR5.out.1]
                    have e1 : rtC (r.drop 4) = (r5.take nT).map fun b => chN b.toNat := by
                      unfold rtC
                      rw [← HR5.out.2, e9]
                    have e2 : rtR (r.drop 4) = r5.drop nT := by
                      unfold rtR
                      rw [← HR5.out.2, e9]
                    have e3 : bs.drop (i + 5) = r5 := by rw [HR5.out.1, HRr.out, List.drop_drop]
                    by_cases h9 : k < nT
                    · have hkl := hstop (by omega) h9
                      refine ⟨by rw [e1, hxs, List.take_of_length_le (by omega), List.take_of_length_le (by omega)], fun j => ?_⟩
                      rw [e2, ← e3, List.drop_drop, List.drop_drop, List.drop_of_length_le (by rw [← HH.out.2]; omega), List.drop_of_length_le (by rw [← HH.out.2]; omega)]
                    · have hkn : k = nT := by omega
                      refine ⟨by rw [e1, hxs, hkn], fun j => ?_⟩
                      rw [e2, ← e3, hkn, List.drop_drop, List.drop_drop]
                      congr 1
                      omega
                  have HU := hid_of' (utf8_is hT5 hru (by omega))
                  have H7 := hid_of' (And.intro hB5 (And.intro hend (by rw [hl5] at hk5; exact hk5)))
                  clear hT5 hO5 hB5 hxl hxs hxn hru hstop hl5 hend hk5
                  have fin : ∀ (w6 : World), Below wr.heap.size wr w6 → RowAt P5 (stv (kd r) h1 h2 h3 .empty) 29 w6 := fun w6 hb6 => (H5.out.1.later H7.out.1).later hb6
                  have hcase : (k < nT ∧ ¬ (i : Int) + 5 + (k : Int) < (N : Int)) ∨ ¬ k < nT := by omega
                  rcases hcase with ⟨hg1, hg2⟩ | hg1
                  · have hg3 : (k : Int) < (nT : Int) := by omega
                    go_upto_region 24 with (go_at_call 24; refine HU.out.mono ?_; rintro e w6 ⟨rfl, hb6⟩; have r6 := fin w6 hb6; have f6 : w6.frozen? ⟨P5, 4, none⟩ = false := r6.free 4; have s6 : w6.cell? ⟨P5, 4, none⟩ = some (.string .empty) := r6.is rfl)
                    have r7 : RowAt P5 (stv (kd r) h1 h2 h3 (tx xs)) 29 (w6.setCell ⟨P5, 4, none⟩ (.string (tx xs))) := r6.setc 4 _
                    have b7 : Below wA.heap.size wA (w6.setCell ⟨P5, 4, none⟩ (.string (tx xs))) := (bgo (bgo H5.out.2.1 H7.out.1) hb6).setCell H5.out.2.2 _
                    generalize w6.setCell ⟨P5, 4, none⟩ (.string (tx xs)) = w7 at r7 b7 ⊢
                    have HE := hid_of' (And.intro r7 b7)
                    clear r7 b7 r6 f6 s6 hb6 fin
                    have hst := rd_step r (by rintro rfl; have e := congrArg List.length HRr.out; rw [List.length_drop, ← HH.out.2] at e; simp at e; omega)
                    have hrs : rdS r = ⟨kd r, h1, h2, h3, tx xs⟩ := by
                      unfold rdS
                      rw [H3.out.1, H3.out.2.1, H3.out.2.2]
                      rw [if_pos hT, H7.out.2.1.1]
                    have HS := hid_of' (And.intro hst hrs)
                    clear hst hrs
                    go_upto_region 25 with (first | (refine wpL_ldT rfl _ rfl rfl HE.out.1.in ?_; unfold stv) | (at_builtin; refine wpL_appT (m := [⟨kd r, h1, h2, h3, tx xs⟩]) rfl _ _ rfl rfl rfl ((HR.out.2.2.1.later HE.out.2).later (below_one _ _)) (so_t _ _ _ _ _ _) (by have := HR.out.2.1; simp only [List.length_cons, List.length_nil]; omega) ?_; intro u6 w6 q1 q2 q3))
                    have hBE := bgo HR.out.2.2.2.2.1 HE.out.2
                    have hB6 : Below w.heap.size w w6 := (bgo hBE (below_one _ _)).grown q2 (bgo hBE (below_one _ _)).size HR.out.2.2.2.1
                    have hO6 : ∀ q, u6.ownBlock = some q → w.heap.size ≤ q := fun q hq => (q3 q hq).elim (fun e => HR.out.2.2.2.1 q e) (fun e => by have h2 := hBE.size; rw [World.size_alloc] at e; omega)
                    refine ⟨⟨i + 5 + k, l ++ [⟨kd r, h1, h2, h3, tx xs⟩], by go_num, by have := H7.out.2.2; omega, ?_, ?_, q1, hO6, hB6⟩, by simp [intOf]; omega⟩
                    · rw [← HR.out.1, ← HRr.out, HS.out.1, HS.out.2, List.append_assoc]
                      have e : rdR r = bs.drop (i + 5 + k) := by
                        unfold rdR
                        rw [if_pos hT]
                        have := H7.out.2.1.2 0
                        rw [Nat.add_zero, List.drop_zero] at this
                        exact this.symm
                      rw [e]
                      rfl
                    · have := HR.out.2.1
                      simp only [List.length_append, List.length_cons, List.length_nil]
                      omega
                  · have hg3 : ¬ (k : Int) < (nT : Int) := by omega
                    go_upto_region 24 with (go_at_call 24; refine HU.out.mono ?_; rintro e w6 ⟨rfl, hb6⟩; have r6 := fin w6 hb6; have f6 : w6.frozen? ⟨P5, 4, none⟩ = false := r6.free 4; have s6 : w6.cell? ⟨P5, 4, none⟩ = some (.string .empty) := r6.is rfl)
                    have r7 : RowAt P5 (stv (kd r) h1 h2 h3 (tx xs)) 29 (w6.setCell ⟨P5, 4, none⟩ (.string (tx xs))) := r6.setc 4 _
                    have b7 : Below wA.heap.size wA (w6.setCell ⟨P5, 4, none⟩ (.string (tx xs))) := (bgo (bgo H5.out.2.1 H7.out.1) hb6).setCell H5.out.2.2 _
                    generalize w6.setCell ⟨P5, 4, none⟩ (.string (tx xs)) = w7 at r7 b7 ⊢
                    have HE := hid_of' (And.intro r7 b7)
                    clear r7 b7 r6 f6 s6 hb6 fin
                    have hst := rd_step r (by rintro rfl; have e := congrArg List.length HRr.out; rw [List.length_drop, ← HH.out.2] at e; simp at e; omega)
                    have hrs : rdS r = ⟨kd r, h1, h2, h3, tx xs⟩ := by
                      unfold rdS
                      rw [H3.out.1, H3.out.2.1, H3.out.2.2]
                      rw [if_pos hT, H7.out.2.1.1]
                    have HS := hid_of' (And.intro hst hrs)
                    clear hst hrs
                    go_upto_region 25 with (first | (refine wpL_ldT rfl _ rfl rfl HE.out.1.in ?_; unfold stv) | (at_builtin; refine wpL_appT (m := [⟨kd r, h1, h2, h3, tx xs⟩]) rfl _ _ rfl rfl rfl ((HR.out.2.2.1.later HE.out.2).later (below_one _ _)) (so_t _ _ _ _ _ _) (by have := HR.out.2.1; simp only [List.length_cons, List.length_nil]; omega) ?_; intro u6 w6 q1 q2 q3))
                    have hBE := bgo HR.out.2.2.2.2.1 HE.out.2
                    have hB6 : Below w.heap.size w w6 := (bgo hBE (below_one _ _)).grown q2 (bgo hBE (below_one _ _)).size HR.out.2.2.2.1
                    have hO6 : ∀ q, u6.ownBlock = some q → w.heap.size ≤ q := fun q hq => (q3 q hq).elim (fun e => HR.out.2.2.2.1 q e) (fun e => by have h2 := hBE.size; rw [World.size_alloc] at e; omega)
                    refine ⟨⟨i + 5 + k, l ++ [⟨kd r, h1, h2, h3, tx xs⟩], by go_num, by have := H7.out.2.2; omega, ?_, ?_, q1, hO6, hB6⟩, by simp [intOf]; omega⟩
                    · rw [← HR.out.1, ← HRr.out, HS.out.1, HS.out.2, List.append_assoc]
                      have e : rdR r = bs.drop (i + 5 + k) := by
                        unfold rdR
                        rw [if_pos hT]
                        have := H7.out.2.1.2 0
                        rw [Nat.add_zero, List.drop_zero] at this
                        exact this.symm
                      rw [e]
                      rfl
                    · have := HR.out.2.1
                      simp only [List.length_append, List.length_cons, List.length_nil]
                      omega
            · have hi4z : ¬ (i : Int) + 4 < (N : Int) := by omega
              have hn0 : nT = 0 := by
                rw [HR5.out.2, hd_out (by rw [HRr.out, List.length_drop, List.length_drop, ← HH.out.2]; omega)]
              have HN0 := hid_of' hn0
              clear hn0
              go_upto_region 19 with fail
              rw [show (i : Int) + 4 + 1 = (i : Int) + 5 by omega]
              go_loopw [4, 9, 10] (fun iv tv kv wr2 => ∃ k : Nat, kv = .int .i64 (k : Int) ∧ iv = .int .i64 ((i : Int) + 5 + k) ∧ k ≤ nT ∧ k ≤ r5.length ∧ RwR tv ((r5.take k).map fun b => chN b.toNat) wr2 ∧ (∀ q, tv.ownBlock = some q → w5.heap.size ≤ q) ∧ Below w5.heap.size w5 wr2) (fun _ _ kv _ => nT - (intOf kv).toNat)
              case atStart => exact ⟨0, rfl, by go_num, Nat.zero_le _, Nat.zero_le _, RwR.nil _, (fun q hq => by cases hq), Below.refl _ _⟩
              case round =>
                obtain ⟨k, rfl, rfl, hk, hk5, hT5, hO5, hB5⟩ := hrel
                obtain ⟨xa, xc, hxv, _, _⟩ := Rw.form hT5
                obtain ⟨xs, hxs⟩ : ∃ xs, xs = (r5.take k).map fun b => chN b.toNat := ⟨_, rfl⟩
                rw [← hxs] at hT5 hxv
                obtain ⟨xn, hxn⟩ : ∃ xn, xn = xs.length := ⟨_, rfl⟩
                rw [← hxn] at hxv
                subst hxv
                have hxl : xs.length ≤ k := by rw [hxs, List.length_map, List.length_take]; omega
                have hl5 : r5.length = N - (i + 5) := by rw [HR5.out.1, HRr.out, List.length_drop, List.length_drop, ← HH.out.2]; omega
                have hstop : (¬ k < nT ∨ ¬ (i : Int) + 5 + (k : Int) < (N : Int)) → k < nT → k = r5.length := fun h1 h2 => by omega
                by_cases hgo : k < nT ∧ (i : Int) + 5 + (k : Int) < (N : Int)
                · exact absurd hgo.1 (by have := HN0.out; omega)
                · have hru : ∀ x ∈ xs, Ru x := fun x hx => by
                    rw [hxs] at hx
                    obtain ⟨y, _, rfl⟩ := List.mem_map.1 hx
                    exact chN_ru _
                  have hend : xs = rtC (r.drop 4) ∧ (∀ j, bs.drop (i + 5 + k + j) = (rtR (r.drop 4)).drop j) := by
                    have e9 : (r.drop 4).drop 1 = r5 := by rw [List.drop_drop, HR5.out.1]
                    have e1 : rtC (r.drop 4) = (r5.take nT).map fun b => chN b.toNat := by
                      unfold rtC
                      rw [← HR5.out.2, e9]
                    have e2 : rtR (r.drop 4) = r5.drop nT := by
                      unfold rtR
                      rw [← HR5.out.2, e9]
                    have e3 : bs.drop (i + 5) = r5 := by rw [HR5.out.1, HRr.out, List.drop_drop]
                    by_cases h9 : k < nT
                    · have hkl := hstop (by omega) h9
                      refine ⟨by rw [e1, hxs, List.take_of_length_le (by omega), List.take_of_length_le (by omega)], fun j => ?_⟩
                      rw [e2, ← e3, List.drop_drop, List.drop_drop, List.drop_of_length_le (by rw [← HH.out.2]; omega), List.drop_of_length_le (by rw [← HH.out.2]; omega)]
                    · have hkn : k = nT := by omega
                      refine ⟨by rw [e1, hxs, hkn], fun j => ?_⟩
                      rw [e2, ← e3, hkn, List.drop_drop, List.drop_drop]
                      congr 1
                      omega
                  have HU := hid_of' (utf8_is hT5 hru (by omega))
                  have H7 := hid_of' (And.intro hB5 (And.intro hend (by rw [hl5] at hk5; exact hk5)))
                  clear hT5 hO5 hB5 hxl hxs hxn hru hstop hl5 hend hk5
                  have fin : ∀ (w6 : World), Below wr.heap.size wr w6 → RowAt P5 (stv (kd r) h1 h2 h3 .empty) 29 w6 := fun w6 hb6 => (H5.out.1.later H7.out.1).later hb6
                  · have hg3 : ¬ (k : Int) < 0 := by omega
                    go_upto_region 24 with (go_at_call 24; refine HU.out.mono ?_; rintro e w6 ⟨rfl, hb6⟩; have r6 := fin w6 hb6; have f6 : w6.frozen? ⟨P5, 4, none⟩ = false := r6.free 4; have s6 : w6.cell? ⟨P5, 4, none⟩ = some (.string .empty) := r6.is rfl)
                    have r7 : RowAt P5 (stv (kd r) h1 h2 h3 (tx xs)) 29 (w6.setCell ⟨P5, 4, none⟩ (.string (tx xs))) := r6.setc 4 _
                    have b7 : Below wA.heap.size wA (w6.setCell ⟨P5, 4, none⟩ (.string (tx xs))) := (bgo (bgo H5.out.2.1 H7.out.1) hb6).setCell H5.out.2.2 _
                    generalize w6.setCell ⟨P5, 4, none⟩ (.string (tx xs)) = w7 at r7 b7 ⊢
                    have HE := hid_of' (And.intro r7 b7)
                    clear r7 b7 r6 f6 s6 hb6 fin
                    have hst := rd_step r (by rintro rfl; have e := congrArg List.length HRr.out; rw [List.length_drop, ← HH.out.2] at e; simp at e; omega)
                    have hrs : rdS r = ⟨kd r, h1, h2, h3, tx xs⟩ := by
                      unfold rdS
                      rw [H3.out.1, H3.out.2.1, H3.out.2.2]
                      rw [if_pos hT, H7.out.2.1.1]
                    have HS := hid_of' (And.intro hst hrs)
                    clear hst hrs
                    go_upto_region 25 with (first | (refine wpL_ldT rfl _ rfl rfl HE.out.1.in ?_; unfold stv) | (at_builtin; refine wpL_appT (m := [⟨kd r, h1, h2, h3, tx xs⟩]) rfl _ _ rfl rfl rfl ((HR.out.2.2.1.later HE.out.2).later (below_one _ _)) (so_t _ _ _ _ _ _) (by have := HR.out.2.1; simp only [List.length_cons, List.length_nil]; omega) ?_; intro u6 w6 q1 q2 q3))
                    have hBE := bgo HR.out.2.2.2.2.1 HE.out.2
                    have hB6 : Below w.heap.size w w6 := (bgo hBE (below_one _ _)).grown q2 (bgo hBE (below_one _ _)).size HR.out.2.2.2.1
                    have hO6 : ∀ q, u6.ownBlock = some q → w.heap.size ≤ q := fun q hq => (q3 q hq).elim (fun e => HR.out.2.2.2.1 q e) (fun e => by have h2 := hBE.size; rw [World.size_alloc] at e; omega)
                    refine ⟨⟨i + 5 + k, l ++ [⟨kd r, h1, h2, h3, tx xs⟩], by go_num, by have := H7.out.2.2; omega, ?_, ?_, q1, hO6, hB6⟩, by simp [intOf]; omega⟩
                    · rw [← HR.out.1, ← HRr.out, HS.out.1, HS.out.2, List.append_assoc]
                      have e : rdR r = bs.drop (i + 5 + k) := by
                        unfold rdR
                        rw [if_pos hT]
                        have := H7.out.2.1.2 0
                        rw [Nat.add_zero, List.drop_zero] at this
                        exact this.symm
                      rw [e]
                      rfl
                    · have := HR.out.2.1
                      simp only [List.length_append, List.length_cons, List.length_nil]
                      omega
    · have hiz : ¬ (i : Int) < (N : Int) := by omega
      have e : bs.drop i = [] := List.drop_of_length_le (by rw [← HH.out.2]; omega)
      rw [e, rd_nil, List.append_nil] at hrd
      have HR := hid_of' (And.intro hrd (And.intro hR (And.intro hO hB)))
      clear hrd hR hO hB hll e htn
      go_wp2
      go_ret
      refine ⟨_, rfl, ?_, HR.out.2.2.1, HR.out.2.2.2⟩
      rw [← HR.out.1]
      exact HR.out.2.1
end Go.Proofs.Ytphdkniplhkkfaa
