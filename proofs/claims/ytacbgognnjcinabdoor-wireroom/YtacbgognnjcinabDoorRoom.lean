/-
  barrowlaw02.WireRoom answers true.
-/
import Derived.Test.YtacbgognnjcinabDoorClip
import Derived.Test.YtacbgognnjcinabDoorChain1
namespace Go.Proofs.YtacbgognnjcinabDoor
open Go.RowKit
set_option maxRecDepth 100000

theorem txtR_ok {bs : List UInt8} {most : Int} {s : ByteArray} {K : Nat} (h : txtR bs most = .ok (s, K)) : ∃ n k, numR bs most = .ok (n, k) ∧ n ≤ bs.length - k ∧ s = ⟨((bs.drop k).take n).toArray⟩ ∧ K = k + n := by
  unfold txtR at h
  split at h
  · cases h
  · rename_i n k hn
    split at h
    · cases h
    · rename_i hf
      cases h
      exact ⟨n, k, hn, by omega, rfl, rfl⟩
theorem txtR_err {bs : List UInt8} {most : Int} {c : Nat} (h : txtR bs most = .error c) : c < 14 := by
  unfold txtR at h
  split at h
  · rename_i c' hc
    cases h
    have := numR_err hc
    omega
  · split at h
    · cases h; omega
    · cases h
theorem cntR_ok {bs : List UInt8} {least most : Int} {n k : Nat} (h : cntR bs least most = .ok (n, k)) : numR bs most = .ok (n, k) ∧ ¬ ((bs.length - k : Nat) : Int) / (if least < 1 then 1 else least) < (n : Int) := by
  unfold cntR at h
  cases hn : numR bs most with
  | error c => rw [hn] at h; cases h
  | ok x =>
    obtain ⟨n', k'⟩ := x
    rw [hn] at h
    simp only at h
    by_cases hf : ((bs.length - k' : Nat) : Int) / (if least < 1 then 1 else least) < (n' : Int)
    · rw [if_pos hf] at h; cases h
    · rw [if_neg hf] at h
      cases h
      exact ⟨rfl, hf⟩
theorem wrap_small (n : Int) (h1 : 0 ≤ n) (h2 : n ≤ 8000000) : wrap64 n = n := by unfold wrap64; omega
theorem take_len (l : List UInt8) (k n : Nat) (h : n ≤ l.length - k) : ((l.drop k).take n).length = n := by simp; omega
theorem txt_arith (k n L c : Nat) (h1 : 1 ≤ k) (h2 : k ≤ L) (h3 : n ≤ L - k) (h4 : L ≤ c) (h5 : L ≤ 1000000) :
    k + n ≤ c ∧ (n : Int) + 1 ≤ (k : Int) + (n : Int) ∧ ((0 : Int) ≤ (k : Int) ∧ (k : Int) ≤ (k : Int) + (n : Int)) ∧ (k : Int) + (n : Int) ≤ (c : Int) ∧ (0 ≤ (n : Int) + 1 ∧ (n : Int) + 1 ≤ 8000000) ∧ (0 ≤ (k : Int) ∧ (k : Int) ≤ 8000000) := by omega
theorem ne_of_room {k n c j : Nat} (h : k + n ≤ c) (hj : j < n) : ¬ c = k := by omega
/-- There is room for n things of d bytes or more in X. -/
theorem room_div (X n : Nat) (d : Int) (hd : 1 ≤ d) (hn : 0 < n) (h : ¬ (X : Int) / d < (n : Int)) : ¬ (X : Int) / (n : Int) < d := by
  have h1 : (n : Int) ≤ (X : Int) / d := by omega
  have h2 : (n : Int) * d ≤ (X : Int) := (Int.le_ediv_iff_mul_le (by omega)).1 h1
  have h3 : d ≤ (X : Int) / (n : Int) := (Int.le_ediv_iff_mul_le (by omega)).2 (by rw [Int.mul_comm]; exact h2)
  omega

theorem left_b {rb g : Nat} {bs : List UInt8} {pl : Nat} {br : Value} {w : World} (h : RdAt rb g bs pl br w) :
    Calls Tryd.prog 11 #[.pointer (some ⟨rb, 0, none⟩)] w fun e w' => e = .returned (.int .i64 ((bs.length - pl : Nat) : Int)) ∧ Below w.heap.size w w' :=
  (left_any h).mono fun _ _ ⟨he, n, hw⟩ => ⟨he, hw ▸ below_drewN w n⟩

/-- What stays until the second Reader is made. -/
structure RmInv (ad : Nat → Addr) (u : Value) (bs : List UInt8) (w wr : World) : Prop where
  lw : Lw ad wr
  et : EtAt wr
  sl : SlB wr u bs
  bel : Below w.heap.size w wr

theorem RmInv.go {ad : Nat → Addr} {u : Value} {bs : List UInt8} {w wr wx : World} (h : RmInv ad u bs w wr) (hb : Below wr.heap.size wr wx) : RmInv ad u bs w wx :=
  ⟨h.lw.kept (S := []) (.of hb) (by simp), h.et.below hb h.et.lt, h.sl.grow hb, h.bel.trans (hb.mono h.bel.size)⟩

theorem RmInv.kept {ad : Nat → Addr} {u : Value} {bs : List UInt8} {w wr wx : World} {rb : Nat} (h : RmInv ad u bs w wr) (hk : Kept [rb] wr wx) (hrb : w.heap.size ≤ rb) (hE : EtAt w) (hS : SlB w u bs) (hlo : 7 ≤ rb) : RmInv ad u bs w wx := by
  have hb : Below w.heap.size w wx := h.bel.trans (hk.below (by simpa using hrb) h.bel.size)
  exact ⟨h.lw.kept hk (by simpa using hlo), hE.below hb hE.lt, hS.grow hb, hb⟩

/-- The tail: a text is read off the same bytes. -/
def RmFault (ad : Nat → Addr) (f c : Nat) (w : World) : Prop := w.heap[f]? = some (.cells #[.string ⟨#[119, 105, 114, 101]⟩, .string ⟨#[84, 101, 120, 116]⟩, .int .i64 ((0 : Nat) : Int), rsn ad c] 68 (0, 0))

theorem room_chain {ad : Nat → Addr} {w : World} (L : EtAt w) {f c : Nat} (hc : c < 14) (h : RmFault ad f c w) :
    Calls Tryd.prog 15 #[refv f] w fun ev w' => ∃ r, ev = .returned r ∧ w'.ownsRow w.heap.size 37 3 r 1 (lcells [⟨⟨#[119, 105, 114, 101]⟩, ⟨#[84, 101, 120, 116]⟩, 0⟩]) ∧ Below w.heap.size w w' :=
  chain_plain (ad := ad) L (.fault f ⟨#[119, 105, 114, 101]⟩ ⟨#[84, 101, 120, 116]⟩ 0 (.rsn c)) (by intro b g c k h; cases h) ⟨lt_of_heap h, h, (by intro h; cases h), hc⟩ (by simp [deep])

theorem room_links {w : World} {B : Nat} {r : Value} (h : w.ownsRow B 37 3 r 1 (lcells [⟨⟨#[119, 105, 114, 101]⟩, ⟨#[84, 101, 120, 116]⟩, 0⟩])) :
    Calls Tryd.prog 14 #[r, .slice (some ⟨w.heap.size, 0, none⟩) 1 1] (w.alloc (.cells #[.string ⟨#[119, 105, 114, 101]⟩, .string ⟨#[84, 101, 120, 116]⟩, .int .i64 0] 37)) fun e w' => e = .returned (.bool true) ∧ Below w.heap.size w w' := by
  have h1 : SlAt (w.alloc (.cells #[.string ⟨#[119, 105, 114, 101]⟩, .string ⟨#[84, 101, 120, 116]⟩, .int .i64 0] 37)) r 3 1 (lcells [⟨⟨#[119, 105, 114, 101]⟩, ⟨#[84, 101, 120, 116]⟩, 0⟩]) := SlAt.of_owns (h.alloc _)
  have h2 : SlAt (w.alloc (.cells #[.string ⟨#[119, 105, 114, 101]⟩, .string ⟨#[84, 101, 120, 116]⟩, .int .i64 0] 37)) (.slice (some ⟨w.heap.size, 0, none⟩) 1 1) 3 1 (lcells [⟨⟨#[119, 105, 114, 101]⟩, ⟨#[84, 101, 120, 116]⟩, 0⟩]) := ⟨rfl, .inr ⟨w.heap.size, 0, 1, rfl, by simp, fun j x hx => by
    match j, hx with
    | 0, hx => simp [lcells] at hx; subst hx; simp
    | 1, hx => simp [lcells] at hx; subst hx; simp
    | 2, hx => simp [lcells] at hx; subst hx; simp
    | n + 3, hx => simp [lcells] at hx⟩⟩
  refine (links_eq (xs := [⟨⟨#[119, 105, 114, 101]⟩, ⟨#[84, 101, 120, 116]⟩, 0⟩]) h1 h2 (by decide)).mono ?_
  rintro e w' ⟨he, hb⟩
  exact ⟨he, ((Below.refl _ w).alloc (Nat.le_refl _) _).trans (hb.mono (by simp))⟩

theorem rdOut_fault {ad : Nat → Addr} {rb g : Nat} {bs : List UInt8} {pl : Nat} {name : ByteArray} {w : World} {tup : Value → Value → Value} {z : Value} {res : Except Nat (Value × Nat)} {c : Nat} {e : Ending} {w' : World} (h : RdOut ad rb g bs pl name w tup z res e w') (hr : res = .error c) : ∃ f, e = .returned (tup z (refv f)) ∧ RdAt rb g bs pl (refv f) w' ∧ w'.heap[f]? = some (.cells #[.string ⟨#[119, 105, 114, 101]⟩, .string name, .int .i64 pl, rsn ad c] 68 (0, 0)) ∧ Kept [rb] w w' := by
  subst hr
  obtain ⟨hk, f, h1, h2, h3, h4⟩ := h
  exact ⟨f, h2, h3, h4, hk⟩

set_option maxHeartbeats 4000000 in
theorem room_ok {ad : Nat → Addr} {w : World} (L : Lw ad w) (E : EtAt w) (v0 : Value) (bs : List UInt8) (least most : Int) (h0 : SlB w v0 bs) (hc0 : ∀ a n c, v0 = .slice a n c → n ≤ c) (hl1 : -9223372036854775808 ≤ least) (hl2 : least ≤ 9223372036854775807) :
    Calls Tryd.prog 3 #[v0, .int .i64 least, .int .i64 most] w fun e w' => e = .returned (.bool true) ∧ Below w.heap.size w w' := by
  have HL : Aside (Lw ad w ∧ SlB w v0 bs ∧ (∀ a n c, v0 = .slice a n c → n ≤ c) ∧ EtAt w) := ⟨L, h0, hc0, E⟩
  have HB : Aside (-9223372036854775808 ≤ least ∧ least ≤ 9223372036854775807) := ⟨hl1, hl2⟩
  have HT : Aside ((bs.take 4000).length ≤ 1000000) := by show _ ≤ _; simp; omega
  clear L h0 hc0 hl1 hl2 E
  go_enter Tryd.func3, Tryd.ntmps3
  go_wp2_with (go_at_call 8; refine (clip_cap HL.out.2.1 HL.out.2.2.1).mono ?_; rintro e w0 ⟨u, rfl, hu, hcap, h0⟩; obtain rfl := h0.symm)
  obtain ⟨a, c, rfl⟩ : ∃ a c, u = .slice a (bs.take 4000).length c := by
    rcases hu with ⟨h0, a, c, rfl⟩ | ⟨g, o, c, rfl, _⟩
    · exact ⟨a, c, by rw [h0]; rfl⟩
    · exact ⟨_, c, rfl⟩
  have HE : Aside (EtAt w ∧ SlB w (.slice a (bs.take 4000).length c) (bs.take 4000)) := ⟨HL.out.2.2.2, hu⟩
  have HCap : Aside ((bs.take 4000).length ≤ c) := hcap _ _ _ rfl
  have HLw : Aside (Lw ad w) := HL.out.1
  clear hu hcap HL
  generalize bs.take 4000 = bs' at *
  go_wp2_with (go_at_call 9; refine (newReader_any HE.out.2 HT.out HLw.out.size).mono ?_; rintro e w2 ⟨rb, rfl, hr2, hlt2, hb2⟩)
  have I2 : RmInv ad (.slice a bs'.length c) bs' w w2 := ⟨HLw.out.kept (S := []) (.of hb2) (by simp), HE.out.1.below hb2 HE.out.1.lt, HE.out.2.grow hb2, hb2⟩
  have HI : Aside (RmInv ad (.slice a bs'.length c) bs' w w2 ∧ w.heap.size ≤ rb ∧ RdAt rb w.heap.size bs' 0 .nilIface w2) := ⟨I2, Nat.le_of_lt hlt2, hr2⟩
  clear I2 hr2 hlt2 hb2
  cases hres : cntR (bs'.drop 0) least most with
  | error c0 =>
    have HR : Aside (cntR (bs'.drop 0) least most = .error c0) := hres
    clear hres
    go_wp2_with (first | (go_at_call 10; refine (Count_any HI.out.1.lw HI.out.2.2 least most HB.out.1 HB.out.2).mono ?_; intro e w3 h3; obtain ⟨f3, he3, hr3, _, hk3⟩ := rdOut_fault (c := c0) h3 (by rw [HR.out]; rfl); subst he3; have I3 : RmInv ad (.slice a bs'.length c) bs' w w3 := HI.out.1.kept hk3 HI.out.2.1 HE.out.1 HE.out.2 HI.out.2.2.lo; have HI2 : Aside (∀ wx, Below w3.heap.size w3 wx → RmInv ad (.slice a bs'.length c) bs' w wx) := fun wx hb => I3.go hb) | (go_at_call 12; refine (at_any hr3).mono ?_; rintro e wA ⟨rfl, hA⟩; obtain rfl := hA.symm) | (go_at_call 11; refine (left_b hr3).mono ?_; rintro e w4 ⟨rfl, hb4⟩) | (go_at_call 9; refine (newReader_any (HI2.out _ hb4).sl HT.out (HI2.out _ hb4).lw.size).mono ?_; rintro e w5 ⟨rb5, rfl, hr5, hlt5, hb5⟩; have I5 : RmInv ad (.slice a bs'.length c) bs' w w5 := (HI2.out _ hb4).go hb5; have hrb5 : w.heap.size ≤ rb5 := Nat.le_of_lt (Nat.lt_of_le_of_lt (HI2.out _ hb4).bel.size hlt5)))
    have HI5 : Aside (RmInv ad (.slice a bs'.length c) bs' w w5 ∧ w.heap.size ≤ rb5 ∧ 7 ≤ rb5) := ⟨I5, hrb5, hr5.lo⟩
    have HR5 : Aside (RdAt rb5 _ bs' 0 .nilIface w5) := hr5
    clear I5 hrb5 hr5 HI2 HB hb5 hlt5
    cases htx : txtR (bs'.drop 0) most with
    | error ct =>
      have HX : Aside (txtR (bs'.drop 0) most = .error ct ∧ ct < 14) := ⟨htx, txtR_err htx⟩
      clear htx
      go_wp2_with (first | (go_at_call 13; refine (Text_any HI5.out.1.lw HR5.out most).mono ?_; intro e w6 h6; obtain ⟨f6, he6, hr6, hf6, hk6⟩ := rdOut_fault (c := ct) h6 (by rw [HX.out.1]; rfl); subst he6; have I6 : RmInv ad (.slice a bs'.length c) bs' w w6 := HI5.out.1.kept hk6 HI5.out.2.1 HE.out.1 HE.out.2 HI5.out.2.2) | (go_at_call 12; refine (at_any hr6).mono ?_; rintro e wA ⟨rfl, hA⟩; obtain rfl := hA.symm) | (go_at_call 15; refine (room_chain I6.et HX.out.2 hf6).mono ?_; rintro e w7 ⟨r7, rfl, ho7, hb7⟩; have I7 : RmInv ad (.slice a bs'.length c) bs' w w7 := I6.go hb7) | (go_at_call 14; refine (room_links ho7).mono ?_; rintro e w8 ⟨rfl, hb8⟩; have I8 : RmInv ad (.slice a bs'.length c) bs' w w8 := I7.go hb8) | (go_at_call 16; refine (wakes_ok I8.lw).mono ?_; rintro e w9 ⟨rfl, hb9⟩))
      go_ret
      exact ⟨rfl, (I8.go hb9).bel⟩
    | ok y =>
      obtain ⟨s, K⟩ := y
      obtain ⟨n, k, hnum, hfit, hs, hK⟩ := txtR_ok htx
      have hnk := numR_ok hnum
      rw [List.drop_zero] at hnk hfit hs hnum
      have hsz : s.size = n := by rw [hs]; exact take_len bs' k n hfit
      have hmost0 : (n : Int) ≤ most := hnk.2.2.2.2.1
      have hk1 : 1 ≤ k ∧ k ≤ bs'.length := ⟨hnk.1, hnk.2.2.1⟩
      obtain ⟨gu, ou, hga, hgl, hgc⟩ : ∃ gu ou, a = some ⟨gu, ou, none⟩ ∧ gu < w.heap.size ∧ (∀ i b, bs'[i]? = some b → w.cell? ⟨gu, ou + i, none⟩ = some (.int .u8 b.toNat)) := by
        rcases HE.out.2 with ⟨hnil, _⟩ | ⟨g, o, c', he, hg, hc⟩
        · rw [hnil] at hk1; exact absurd (Nat.le_trans hk1.1 hk1.2) (by decide)
        · simp only [Value.slice.injEq, true_and] at he
          exact ⟨g, o, he.1, hg, hc⟩
      subst hga
      have hcapn := HCap.out
      have hkn : k + n ≤ c := (txt_arith k n bs'.length c hk1.1 hk1.2 hfit hcapn HT.out).1
      have HCV : Aside (∀ wx : World, Below w.heap.size w wx → (convert 22 9 (.slice (some ⟨gu, if c = k then ou else ou + k, none⟩) n (c - k))).run Tryd.prog wx = .ok (.string s) wx) := fun wx hb => by
        have hl : ((bs'.drop k).take n).length = n := take_len bs' k n hfit
        have := run_convert_bytes_back (P := Tryd.prog) wx 22 9 5 ⟨gu, if c = k then ou else ou + k, none⟩ (c - k) ((bs'.drop k).take n) Tryd.underlying22 Tryd.underlying5 Tryd.underlying9 (fun j hj => by
          have hne : ¬ c = k := ne_of_room hkn (by rwa [hl] at hj)
          rw [if_neg hne, Addr.add_lit, hb.cell (p := ⟨gu, ou + k + j, none⟩) hgl, Nat.add_assoc]
          refine hgc (k + j) _ ?_
          rw [List.getElem_take, List.getElem_drop]
          exact List.getElem?_eq_getElem _)
        rw [hl] at this
        rw [hs]; exact this
      have HX : Aside (txtR (bs'.drop 0) most = .ok (s, K)) := htx
      clear htx hnum hs hnk hgc
      subst hK
      subst hsz
      obtain ⟨hkc, hK3, s1, s2, b1, b2⟩ := txt_arith k s.size bs'.length c hk1.1 hk1.2 hfit hcapn HT.out
      have hK2 : wrap64 ((s.size : Int) + 1) = (s.size : Int) + 1 := wrap_small _ b1.1 b1.2
      have hK4 : wrap64 ((k : Int) + (s.size : Int) - (s.size : Int)) = (k : Int) := by rw [Int.add_sub_cancel]; exact wrap_small _ b2.1 b2.2
      have hK5 : wrap64 (k : Int) = (k : Int) := wrap_small _ b2.1 b2.2
      clear hfit hk1 hcapn hkn hkc b1 b2
      go_wp2_with (go_at_call 13; refine (Text_any HI5.out.1.lw HR5.out most).mono ?_; intro e w6 h6; obtain ⟨he6, hr6, hk6⟩ := rdOut_ok (v := .string s) (k := k + s.size) h6 (by rw [HX.out]; rfl); subst he6; rw [Nat.zero_add] at hr6; have I6 : RmInv ad (.slice (some ⟨gu, ou, none⟩) bs'.length c) bs' w w6 := HI5.out.1.kept hk6 HI5.out.2.1 HE.out.1 HE.out.2 HI5.out.2.2; have q1 := HCV.out w6 I6.bel)
      by_cases hck : c = k
      · have q2 : (convert 22 9 (.slice (some ⟨gu, ou, none⟩) s.size 0)).run Tryd.prog w6 = .ok (.string s) w6 := by rw [if_pos hck, show c - k = 0 from by rw [hck]; exact Nat.sub_self _] at q1; exact q1
        clear q1
        go_wp2_with (first | (go_at_call 12; refine (at_any hr6).mono ?_; rintro e wA ⟨rfl, hA⟩; obtain rfl := hA.symm) | (go_at_call 16; refine (wakes_ok I6.lw).mono ?_; rintro e w9 ⟨rfl, hb9⟩))
        go_ret
        exact ⟨rfl, (I6.go hb9).bel⟩
      · have q2 : (convert 22 9 (.slice (some ⟨gu, ou + k, none⟩) s.size (c - k))).run Tryd.prog w6 = .ok (.string s) w6 := by rw [if_neg hck] at q1; exact q1
        clear q1
        go_wp2_with (first | (go_at_call 12; refine (at_any hr6).mono ?_; rintro e wA ⟨rfl, hA⟩; obtain rfl := hA.symm) | (go_at_call 16; refine (wakes_ok I6.lw).mono ?_; rintro e w9 ⟨rfl, hb9⟩))
        go_ret
        exact ⟨rfl, (I6.go hb9).bel⟩
  | ok y0 =>
    obtain ⟨n0, k0⟩ := y0
    obtain ⟨hnum0, hroom⟩ := cntR_ok hres
    have hnk0 := numR_ok hnum0
    rw [List.drop_zero] at hnk0 hroom
    have HR : Aside (cntR (bs'.drop 0) least most = .ok (n0, k0)) := hres
    have hneg : ¬ (n0 : Int) < 0 := by omega
    have hmo : ¬ most < (n0 : Int) := by have := hnk0.2.2.2.2.1; omega
    have HK0 : Aside (k0 ≤ bs'.length ∧ n0 < 9223372036854775808 ∧ ¬ ((bs'.length - k0 : Nat) : Int) / (if least < 1 then 1 else least) < (n0 : Int)) := ⟨hnk0.2.2.1, hnk0.2.2.2.2.2, hroom⟩
    clear hres hnum0 hnk0 hroom
    by_cases hz : n0 = 0
    · subst hz
      by_cases hls : least < 1
      · go_wp2_with (first | (go_at_call 10; refine (Count_any HI.out.1.lw HI.out.2.2 least most HB.out.1 HB.out.2).mono ?_; intro e w3 h3; obtain ⟨he3, hr3, hk3⟩ := rdOut_ok (v := .int .i64 ((0 : Nat) : Int)) (k := k0) h3 (by rw [HR.out]; rfl); subst he3; have I3 : RmInv ad (.slice a bs'.length c) bs' w w3 := HI.out.1.kept hk3 HI.out.2.1 HE.out.1 HE.out.2 HI.out.2.2.lo; have HI2 : Aside (∀ wx, Below w3.heap.size w3 wx → RmInv ad (.slice a bs'.length c) bs' w wx) := fun wx hb => I3.go hb) | (go_at_call 9; refine (newReader_any (HI2.out _ (Below.refl _ _)).sl HT.out (HI2.out _ (Below.refl _ _)).lw.size).mono ?_; rintro e w5 ⟨rb5, rfl, hr5, hlt5, hb5⟩; have I5 : RmInv ad (.slice a bs'.length c) bs' w w5 := (HI2.out _ (Below.refl _ _)).go hb5; have hrb5 : w.heap.size ≤ rb5 := Nat.le_of_lt (Nat.lt_of_le_of_lt (HI2.out _ (Below.refl _ _)).bel.size hlt5)))
        have HI5 : Aside (RmInv ad (.slice a bs'.length c) bs' w w5 ∧ w.heap.size ≤ rb5 ∧ 7 ≤ rb5) := ⟨I5, hrb5, hr5.lo⟩
        have HR5 : Aside (RdAt rb5 _ bs' 0 .nilIface w5) := hr5
        clear I5 hrb5 hr5 HI2 HB hb5 hlt5
        cases htx : txtR (bs'.drop 0) most with
        | error ct =>
          have HX : Aside (txtR (bs'.drop 0) most = .error ct ∧ ct < 14) := ⟨htx, txtR_err htx⟩
          clear htx
          go_wp2_with (first | (go_at_call 13; refine (Text_any HI5.out.1.lw HR5.out most).mono ?_; intro e w6 h6; obtain ⟨f6, he6, hr6, hf6, hk6⟩ := rdOut_fault (c := ct) h6 (by rw [HX.out.1]; rfl); subst he6; have I6 : RmInv ad (.slice a bs'.length c) bs' w w6 := HI5.out.1.kept hk6 HI5.out.2.1 HE.out.1 HE.out.2 HI5.out.2.2) | (go_at_call 12; refine (at_any hr6).mono ?_; rintro e wA ⟨rfl, hA⟩; obtain rfl := hA.symm) | (go_at_call 15; refine (room_chain I6.et HX.out.2 hf6).mono ?_; rintro e w7 ⟨r7, rfl, ho7, hb7⟩; have I7 : RmInv ad (.slice a bs'.length c) bs' w w7 := I6.go hb7) | (go_at_call 14; refine (room_links ho7).mono ?_; rintro e w8 ⟨rfl, hb8⟩; have I8 : RmInv ad (.slice a bs'.length c) bs' w w8 := I7.go hb8) | (go_at_call 16; refine (wakes_ok I8.lw).mono ?_; rintro e w9 ⟨rfl, hb9⟩))
          go_ret
          exact ⟨rfl, (I8.go hb9).bel⟩
        | ok y =>
          obtain ⟨s, K⟩ := y
          obtain ⟨n, k, hnum, hfit, hs, hK⟩ := txtR_ok htx
          have hnk := numR_ok hnum
          rw [List.drop_zero] at hnk hfit hs hnum
          have hsz : s.size = n := by rw [hs]; exact take_len bs' k n hfit
          have hmost0 : (n : Int) ≤ most := hnk.2.2.2.2.1
          have hk1 : 1 ≤ k ∧ k ≤ bs'.length := ⟨hnk.1, hnk.2.2.1⟩
          obtain ⟨gu, ou, hga, hgl, hgc⟩ : ∃ gu ou, a = some ⟨gu, ou, none⟩ ∧ gu < w.heap.size ∧ (∀ i b, bs'[i]? = some b → w.cell? ⟨gu, ou + i, none⟩ = some (.int .u8 b.toNat)) := by
            rcases HE.out.2 with ⟨hnil, _⟩ | ⟨g, o, c', he, hg, hc⟩
            · rw [hnil] at hk1; exact absurd (Nat.le_trans hk1.1 hk1.2) (by decide)
            · simp only [Value.slice.injEq, true_and] at he
              exact ⟨g, o, he.1, hg, hc⟩
          subst hga
          have hcapn := HCap.out
          have hkn : k + n ≤ c := (txt_arith k n bs'.length c hk1.1 hk1.2 hfit hcapn HT.out).1
          have HCV : Aside (∀ wx : World, Below w.heap.size w wx → (convert 22 9 (.slice (some ⟨gu, if c = k then ou else ou + k, none⟩) n (c - k))).run Tryd.prog wx = .ok (.string s) wx) := fun wx hb => by
            have hl : ((bs'.drop k).take n).length = n := take_len bs' k n hfit
            have := run_convert_bytes_back (P := Tryd.prog) wx 22 9 5 ⟨gu, if c = k then ou else ou + k, none⟩ (c - k) ((bs'.drop k).take n) Tryd.underlying22 Tryd.underlying5 Tryd.underlying9 (fun j hj => by
              have hne : ¬ c = k := ne_of_room hkn (by rwa [hl] at hj)
              rw [if_neg hne, Addr.add_lit, hb.cell (p := ⟨gu, ou + k + j, none⟩) hgl, Nat.add_assoc]
              refine hgc (k + j) _ ?_
              rw [List.getElem_take, List.getElem_drop]
              exact List.getElem?_eq_getElem _)
            rw [hl] at this
            rw [hs]; exact this
          have HX : Aside (txtR (bs'.drop 0) most = .ok (s, K)) := htx
          clear htx hnum hs hnk hgc
          subst hK
          subst hsz
          obtain ⟨hkc, hK3, s1, s2, b1, b2⟩ := txt_arith k s.size bs'.length c hk1.1 hk1.2 hfit hcapn HT.out
          have hK2 : wrap64 ((s.size : Int) + 1) = (s.size : Int) + 1 := wrap_small _ b1.1 b1.2
          have hK4 : wrap64 ((k : Int) + (s.size : Int) - (s.size : Int)) = (k : Int) := by rw [Int.add_sub_cancel]; exact wrap_small _ b2.1 b2.2
          have hK5 : wrap64 (k : Int) = (k : Int) := wrap_small _ b2.1 b2.2
          clear hfit hk1 hcapn hkn hkc b1 b2
          go_wp2_with (go_at_call 13; refine (Text_any HI5.out.1.lw HR5.out most).mono ?_; intro e w6 h6; obtain ⟨he6, hr6, hk6⟩ := rdOut_ok (v := .string s) (k := k + s.size) h6 (by rw [HX.out]; rfl); subst he6; rw [Nat.zero_add] at hr6; have I6 : RmInv ad (.slice (some ⟨gu, ou, none⟩) bs'.length c) bs' w w6 := HI5.out.1.kept hk6 HI5.out.2.1 HE.out.1 HE.out.2 HI5.out.2.2; have q1 := HCV.out w6 I6.bel)
          by_cases hck : c = k
          · have q2 : (convert 22 9 (.slice (some ⟨gu, ou, none⟩) s.size 0)).run Tryd.prog w6 = .ok (.string s) w6 := by rw [if_pos hck, show c - k = 0 from by rw [hck]; exact Nat.sub_self _] at q1; exact q1
            clear q1
            go_wp2_with (first | (go_at_call 12; refine (at_any hr6).mono ?_; rintro e wA ⟨rfl, hA⟩; obtain rfl := hA.symm) | (go_at_call 16; refine (wakes_ok I6.lw).mono ?_; rintro e w9 ⟨rfl, hb9⟩))
            go_ret
            exact ⟨rfl, (I6.go hb9).bel⟩
          · have q2 : (convert 22 9 (.slice (some ⟨gu, ou + k, none⟩) s.size (c - k))).run Tryd.prog w6 = .ok (.string s) w6 := by rw [if_neg hck] at q1; exact q1
            clear q1
            go_wp2_with (first | (go_at_call 12; refine (at_any hr6).mono ?_; rintro e wA ⟨rfl, hA⟩; obtain rfl := hA.symm) | (go_at_call 16; refine (wakes_ok I6.lw).mono ?_; rintro e w9 ⟨rfl, hb9⟩))
            go_ret
            exact ⟨rfl, (I6.go hb9).bel⟩
      · go_wp2_with (first | (go_at_call 10; refine (Count_any HI.out.1.lw HI.out.2.2 least most HB.out.1 HB.out.2).mono ?_; intro e w3 h3; obtain ⟨he3, hr3, hk3⟩ := rdOut_ok (v := .int .i64 ((0 : Nat) : Int)) (k := k0) h3 (by rw [HR.out]; rfl); subst he3; have I3 : RmInv ad (.slice a bs'.length c) bs' w w3 := HI.out.1.kept hk3 HI.out.2.1 HE.out.1 HE.out.2 HI.out.2.2.lo; have HI2 : Aside (∀ wx, Below w3.heap.size w3 wx → RmInv ad (.slice a bs'.length c) bs' w wx) := fun wx hb => I3.go hb) | (go_at_call 9; refine (newReader_any (HI2.out _ (Below.refl _ _)).sl HT.out (HI2.out _ (Below.refl _ _)).lw.size).mono ?_; rintro e w5 ⟨rb5, rfl, hr5, hlt5, hb5⟩; have I5 : RmInv ad (.slice a bs'.length c) bs' w w5 := (HI2.out _ (Below.refl _ _)).go hb5; have hrb5 : w.heap.size ≤ rb5 := Nat.le_of_lt (Nat.lt_of_le_of_lt (HI2.out _ (Below.refl _ _)).bel.size hlt5)))
        have HI5 : Aside (RmInv ad (.slice a bs'.length c) bs' w w5 ∧ w.heap.size ≤ rb5 ∧ 7 ≤ rb5) := ⟨I5, hrb5, hr5.lo⟩
        have HR5 : Aside (RdAt rb5 _ bs' 0 .nilIface w5) := hr5
        clear I5 hrb5 hr5 HI2 HB hb5 hlt5
        cases htx : txtR (bs'.drop 0) most with
        | error ct =>
          have HX : Aside (txtR (bs'.drop 0) most = .error ct ∧ ct < 14) := ⟨htx, txtR_err htx⟩
          clear htx
          go_wp2_with (first | (go_at_call 13; refine (Text_any HI5.out.1.lw HR5.out most).mono ?_; intro e w6 h6; obtain ⟨f6, he6, hr6, hf6, hk6⟩ := rdOut_fault (c := ct) h6 (by rw [HX.out.1]; rfl); subst he6; have I6 : RmInv ad (.slice a bs'.length c) bs' w w6 := HI5.out.1.kept hk6 HI5.out.2.1 HE.out.1 HE.out.2 HI5.out.2.2) | (go_at_call 12; refine (at_any hr6).mono ?_; rintro e wA ⟨rfl, hA⟩; obtain rfl := hA.symm) | (go_at_call 15; refine (room_chain I6.et HX.out.2 hf6).mono ?_; rintro e w7 ⟨r7, rfl, ho7, hb7⟩; have I7 : RmInv ad (.slice a bs'.length c) bs' w w7 := I6.go hb7) | (go_at_call 14; refine (room_links ho7).mono ?_; rintro e w8 ⟨rfl, hb8⟩; have I8 : RmInv ad (.slice a bs'.length c) bs' w w8 := I7.go hb8) | (go_at_call 16; refine (wakes_ok I8.lw).mono ?_; rintro e w9 ⟨rfl, hb9⟩))
          go_ret
          exact ⟨rfl, (I8.go hb9).bel⟩
        | ok y =>
          obtain ⟨s, K⟩ := y
          obtain ⟨n, k, hnum, hfit, hs, hK⟩ := txtR_ok htx
          have hnk := numR_ok hnum
          rw [List.drop_zero] at hnk hfit hs hnum
          have hsz : s.size = n := by rw [hs]; exact take_len bs' k n hfit
          have hmost0 : (n : Int) ≤ most := hnk.2.2.2.2.1
          have hk1 : 1 ≤ k ∧ k ≤ bs'.length := ⟨hnk.1, hnk.2.2.1⟩
          obtain ⟨gu, ou, hga, hgl, hgc⟩ : ∃ gu ou, a = some ⟨gu, ou, none⟩ ∧ gu < w.heap.size ∧ (∀ i b, bs'[i]? = some b → w.cell? ⟨gu, ou + i, none⟩ = some (.int .u8 b.toNat)) := by
            rcases HE.out.2 with ⟨hnil, _⟩ | ⟨g, o, c', he, hg, hc⟩
            · rw [hnil] at hk1; exact absurd (Nat.le_trans hk1.1 hk1.2) (by decide)
            · simp only [Value.slice.injEq, true_and] at he
              exact ⟨g, o, he.1, hg, hc⟩
          subst hga
          have hcapn := HCap.out
          have hkn : k + n ≤ c := (txt_arith k n bs'.length c hk1.1 hk1.2 hfit hcapn HT.out).1
          have HCV : Aside (∀ wx : World, Below w.heap.size w wx → (convert 22 9 (.slice (some ⟨gu, if c = k then ou else ou + k, none⟩) n (c - k))).run Tryd.prog wx = .ok (.string s) wx) := fun wx hb => by
            have hl : ((bs'.drop k).take n).length = n := take_len bs' k n hfit
            have := run_convert_bytes_back (P := Tryd.prog) wx 22 9 5 ⟨gu, if c = k then ou else ou + k, none⟩ (c - k) ((bs'.drop k).take n) Tryd.underlying22 Tryd.underlying5 Tryd.underlying9 (fun j hj => by
              have hne : ¬ c = k := ne_of_room hkn (by rwa [hl] at hj)
              rw [if_neg hne, Addr.add_lit, hb.cell (p := ⟨gu, ou + k + j, none⟩) hgl, Nat.add_assoc]
              refine hgc (k + j) _ ?_
              rw [List.getElem_take, List.getElem_drop]
              exact List.getElem?_eq_getElem _)
            rw [hl] at this
            rw [hs]; exact this
          have HX : Aside (txtR (bs'.drop 0) most = .ok (s, K)) := htx
          clear htx hnum hs hnk hgc
          subst hK
          subst hsz
          obtain ⟨hkc, hK3, s1, s2, b1, b2⟩ := txt_arith k s.size bs'.length c hk1.1 hk1.2 hfit hcapn HT.out
          have hK2 : wrap64 ((s.size : Int) + 1) = (s.size : Int) + 1 := wrap_small _ b1.1 b1.2
          have hK4 : wrap64 ((k : Int) + (s.size : Int) - (s.size : Int)) = (k : Int) := by rw [Int.add_sub_cancel]; exact wrap_small _ b2.1 b2.2
          have hK5 : wrap64 (k : Int) = (k : Int) := wrap_small _ b2.1 b2.2
          clear hfit hk1 hcapn hkn hkc b1 b2
          go_wp2_with (go_at_call 13; refine (Text_any HI5.out.1.lw HR5.out most).mono ?_; intro e w6 h6; obtain ⟨he6, hr6, hk6⟩ := rdOut_ok (v := .string s) (k := k + s.size) h6 (by rw [HX.out]; rfl); subst he6; rw [Nat.zero_add] at hr6; have I6 : RmInv ad (.slice (some ⟨gu, ou, none⟩) bs'.length c) bs' w w6 := HI5.out.1.kept hk6 HI5.out.2.1 HE.out.1 HE.out.2 HI5.out.2.2; have q1 := HCV.out w6 I6.bel)
          by_cases hck : c = k
          · have q2 : (convert 22 9 (.slice (some ⟨gu, ou, none⟩) s.size 0)).run Tryd.prog w6 = .ok (.string s) w6 := by rw [if_pos hck, show c - k = 0 from by rw [hck]; exact Nat.sub_self _] at q1; exact q1
            clear q1
            go_wp2_with (first | (go_at_call 12; refine (at_any hr6).mono ?_; rintro e wA ⟨rfl, hA⟩; obtain rfl := hA.symm) | (go_at_call 16; refine (wakes_ok I6.lw).mono ?_; rintro e w9 ⟨rfl, hb9⟩))
            go_ret
            exact ⟨rfl, (I6.go hb9).bel⟩
          · have q2 : (convert 22 9 (.slice (some ⟨gu, ou + k, none⟩) s.size (c - k))).run Tryd.prog w6 = .ok (.string s) w6 := by rw [if_neg hck] at q1; exact q1
            clear q1
            go_wp2_with (first | (go_at_call 12; refine (at_any hr6).mono ?_; rintro e wA ⟨rfl, hA⟩; obtain rfl := hA.symm) | (go_at_call 16; refine (wakes_ok I6.lw).mono ?_; rintro e w9 ⟨rfl, hb9⟩))
            go_ret
            exact ⟨rfl, (I6.go hb9).bel⟩
    · have hpos : (0 : Int) < (n0 : Int) := by omega
      have hnz : ¬ (n0 : Int) = 0 := by omega
      have hdl : (0 : Nat) + k0 = k0 := Nat.zero_add _
      have hd1 : 0 ≤ ((bs'.length - k0 : Nat) : Int) / (n0 : Int) := Int.ediv_nonneg (by omega) (by omega)
      have hd2 : ((bs'.length - k0 : Nat) : Int) / (n0 : Int) ≤ ((bs'.length - k0 : Nat) : Int) := Int.ediv_le_self _ (by omega)
      have hd3 : ((bs'.length - k0 : Nat) : Int) / (n0 : Int) ≤ 8000000 := by have := HT.out; omega
      by_cases hls : least < 1
      · have hq : ¬ ((bs'.length - k0 : Nat) : Int) / (n0 : Int) < 1 := room_div _ _ 1 (by omega) (by omega) (by have := HK0.out.2.2; rwa [if_pos hls] at this)
        have hwr : wrap64 (((bs'.length - k0 : Nat) : Int) / (n0 : Int)) = ((bs'.length - k0 : Nat) : Int) / (n0 : Int) := wrap_small _ hd1 hd3
        clear hd1 hd2 hd3
        go_wp2_with (first | (go_at_call 10; refine (Count_any HI.out.1.lw HI.out.2.2 least most HB.out.1 HB.out.2).mono ?_; intro e w3 h3; obtain ⟨he3, hr3, hk3⟩ := rdOut_ok (v := .int .i64 n0) (k := k0) h3 (by rw [HR.out]; rfl); subst he3; rw [Nat.zero_add] at hr3; have I3 : RmInv ad (.slice a bs'.length c) bs' w w3 := HI.out.1.kept hk3 HI.out.2.1 HE.out.1 HE.out.2 HI.out.2.2.lo; have HI2 : Aside (∀ wx, Below w3.heap.size w3 wx → RmInv ad (.slice a bs'.length c) bs' w wx) := fun wx hb => I3.go hb) | (go_at_call 11; refine (left_b hr3).mono ?_; rintro e w4 ⟨rfl, hb4⟩) | (go_at_call 9; refine (newReader_any (HI2.out _ hb4).sl HT.out (HI2.out _ hb4).lw.size).mono ?_; rintro e w5 ⟨rb5, rfl, hr5, hlt5, hb5⟩; have I5 : RmInv ad (.slice a bs'.length c) bs' w w5 := (HI2.out _ hb4).go hb5; have hrb5 : w.heap.size ≤ rb5 := Nat.le_of_lt (Nat.lt_of_le_of_lt (HI2.out _ hb4).bel.size hlt5)))
        rename_i hx1 hx2 K1 hK1 K2 hK2
        clear hwr hq hx1 hx2 hpos hnz hneg hmo hls HK0 hz
        have HI5 : Aside (RmInv ad (.slice a bs'.length c) bs' w w5 ∧ w.heap.size ≤ rb5 ∧ 7 ≤ rb5) := ⟨I5, hrb5, hr5.lo⟩
        have HR5 : Aside (RdAt rb5 _ bs' 0 .nilIface w5) := hr5
        clear I5 hrb5 hr5 HI2 HB hb5 hlt5
        cases htx : txtR (bs'.drop 0) most with
        | error ct =>
          have HX : Aside (txtR (bs'.drop 0) most = .error ct ∧ ct < 14) := ⟨htx, txtR_err htx⟩
          clear htx
          go_wp2_with (first | (go_at_call 13; refine (Text_any HI5.out.1.lw HR5.out most).mono ?_; intro e w6 h6; obtain ⟨f6, he6, hr6, hf6, hk6⟩ := rdOut_fault (c := ct) h6 (by rw [HX.out.1]; rfl); subst he6; have I6 : RmInv ad (.slice a bs'.length c) bs' w w6 := HI5.out.1.kept hk6 HI5.out.2.1 HE.out.1 HE.out.2 HI5.out.2.2) | (go_at_call 12; refine (at_any hr6).mono ?_; rintro e wA ⟨rfl, hA⟩; obtain rfl := hA.symm) | (go_at_call 15; refine (room_chain I6.et HX.out.2 hf6).mono ?_; rintro e w7 ⟨r7, rfl, ho7, hb7⟩; have I7 : RmInv ad (.slice a bs'.length c) bs' w w7 := I6.go hb7) | (go_at_call 14; refine (room_links ho7).mono ?_; rintro e w8 ⟨rfl, hb8⟩; have I8 : RmInv ad (.slice a bs'.length c) bs' w w8 := I7.go hb8) | (go_at_call 16; refine (wakes_ok I8.lw).mono ?_; rintro e w9 ⟨rfl, hb9⟩))
          go_ret
          exact ⟨rfl, (I8.go hb9).bel⟩
        | ok y =>
          obtain ⟨s, K⟩ := y
          obtain ⟨n, k, hnum, hfit, hs, hK⟩ := txtR_ok htx
          have hnk := numR_ok hnum
          rw [List.drop_zero] at hnk hfit hs hnum
          have hsz : s.size = n := by rw [hs]; exact take_len bs' k n hfit
          have hmost0 : (n : Int) ≤ most := hnk.2.2.2.2.1
          have hk1 : 1 ≤ k ∧ k ≤ bs'.length := ⟨hnk.1, hnk.2.2.1⟩
          obtain ⟨gu, ou, hga, hgl, hgc⟩ : ∃ gu ou, a = some ⟨gu, ou, none⟩ ∧ gu < w.heap.size ∧ (∀ i b, bs'[i]? = some b → w.cell? ⟨gu, ou + i, none⟩ = some (.int .u8 b.toNat)) := by
            rcases HE.out.2 with ⟨hnil, _⟩ | ⟨g, o, c', he, hg, hc⟩
            · rw [hnil] at hk1; exact absurd (Nat.le_trans hk1.1 hk1.2) (by decide)
            · simp only [Value.slice.injEq, true_and] at he
              exact ⟨g, o, he.1, hg, hc⟩
          subst hga
          have hcapn := HCap.out
          have hkn : k + n ≤ c := (txt_arith k n bs'.length c hk1.1 hk1.2 hfit hcapn HT.out).1
          have HCV : Aside (∀ wx : World, Below w.heap.size w wx → (convert 22 9 (.slice (some ⟨gu, if c = k then ou else ou + k, none⟩) n (c - k))).run Tryd.prog wx = .ok (.string s) wx) := fun wx hb => by
            have hl : ((bs'.drop k).take n).length = n := take_len bs' k n hfit
            have := run_convert_bytes_back (P := Tryd.prog) wx 22 9 5 ⟨gu, if c = k then ou else ou + k, none⟩ (c - k) ((bs'.drop k).take n) Tryd.underlying22 Tryd.underlying5 Tryd.underlying9 (fun j hj => by
              have hne : ¬ c = k := ne_of_room hkn (by rwa [hl] at hj)
              rw [if_neg hne, Addr.add_lit, hb.cell (p := ⟨gu, ou + k + j, none⟩) hgl, Nat.add_assoc]
              refine hgc (k + j) _ ?_
              rw [List.getElem_take, List.getElem_drop]
              exact List.getElem?_eq_getElem _)
            rw [hl] at this
            rw [hs]; exact this
          have HX : Aside (txtR (bs'.drop 0) most = .ok (s, K)) := htx
          clear htx hnum hs hnk hgc
          subst hK
          subst hsz
          obtain ⟨hkc, hK3, s1, s2, b1, b2⟩ := txt_arith k s.size bs'.length c hk1.1 hk1.2 hfit hcapn HT.out
          have hK2 : wrap64 ((s.size : Int) + 1) = (s.size : Int) + 1 := wrap_small _ b1.1 b1.2
          have hK4 : wrap64 ((k : Int) + (s.size : Int) - (s.size : Int)) = (k : Int) := by rw [Int.add_sub_cancel]; exact wrap_small _ b2.1 b2.2
          have hK5 : wrap64 (k : Int) = (k : Int) := wrap_small _ b2.1 b2.2
          clear hfit hk1 hcapn hkn hkc b1 b2
          go_wp2_with (go_at_call 13; refine (Text_any HI5.out.1.lw HR5.out most).mono ?_; intro e w6 h6; obtain ⟨he6, hr6, hk6⟩ := rdOut_ok (v := .string s) (k := k + s.size) h6 (by rw [HX.out]; rfl); subst he6; rw [Nat.zero_add] at hr6; have I6 : RmInv ad (.slice (some ⟨gu, ou, none⟩) bs'.length c) bs' w w6 := HI5.out.1.kept hk6 HI5.out.2.1 HE.out.1 HE.out.2 HI5.out.2.2; have q1 := HCV.out w6 I6.bel)
          by_cases hck : c = k
          · have q2 : (convert 22 9 (.slice (some ⟨gu, ou, none⟩) s.size 0)).run Tryd.prog w6 = .ok (.string s) w6 := by rw [if_pos hck, show c - k = 0 from by rw [hck]; exact Nat.sub_self _] at q1; exact q1
            clear q1
            go_wp2_with (first | (go_at_call 12; refine (at_any hr6).mono ?_; rintro e wA ⟨rfl, hA⟩; obtain rfl := hA.symm) | (go_at_call 16; refine (wakes_ok I6.lw).mono ?_; rintro e w9 ⟨rfl, hb9⟩))
            go_ret
            exact ⟨rfl, (I6.go hb9).bel⟩
          · have q2 : (convert 22 9 (.slice (some ⟨gu, ou + k, none⟩) s.size (c - k))).run Tryd.prog w6 = .ok (.string s) w6 := by rw [if_neg hck] at q1; exact q1
            clear q1
            go_wp2_with (first | (go_at_call 12; refine (at_any hr6).mono ?_; rintro e wA ⟨rfl, hA⟩; obtain rfl := hA.symm) | (go_at_call 16; refine (wakes_ok I6.lw).mono ?_; rintro e w9 ⟨rfl, hb9⟩))
            go_ret
            exact ⟨rfl, (I6.go hb9).bel⟩
      · have hq : ¬ ((bs'.length - k0 : Nat) : Int) / (n0 : Int) < least := room_div _ _ least (by omega) (by omega) (by have := HK0.out.2.2; rwa [if_neg hls] at this)
        have hwr : wrap64 (((bs'.length - k0 : Nat) : Int) / (n0 : Int)) = ((bs'.length - k0 : Nat) : Int) / (n0 : Int) := wrap_small _ hd1 hd3
        clear hd1 hd2 hd3
        go_wp2_with (first | (go_at_call 10; refine (Count_any HI.out.1.lw HI.out.2.2 least most HB.out.1 HB.out.2).mono ?_; intro e w3 h3; obtain ⟨he3, hr3, hk3⟩ := rdOut_ok (v := .int .i64 n0) (k := k0) h3 (by rw [HR.out]; rfl); subst he3; rw [Nat.zero_add] at hr3; have I3 : RmInv ad (.slice a bs'.length c) bs' w w3 := HI.out.1.kept hk3 HI.out.2.1 HE.out.1 HE.out.2 HI.out.2.2.lo; have HI2 : Aside (∀ wx, Below w3.heap.size w3 wx → RmInv ad (.slice a bs'.length c) bs' w wx) := fun wx hb => I3.go hb) | (go_at_call 11; refine (left_b hr3).mono ?_; rintro e w4 ⟨rfl, hb4⟩) | (go_at_call 9; refine (newReader_any (HI2.out _ hb4).sl HT.out (HI2.out _ hb4).lw.size).mono ?_; rintro e w5 ⟨rb5, rfl, hr5, hlt5, hb5⟩; have I5 : RmInv ad (.slice a bs'.length c) bs' w w5 := (HI2.out _ hb4).go hb5; have hrb5 : w.heap.size ≤ rb5 := Nat.le_of_lt (Nat.lt_of_le_of_lt (HI2.out _ hb4).bel.size hlt5)))
        rename_i hx0 hx1 hx2 K1 hK1 K2 hK2
        clear hwr hq hx0 hx1 hx2 hpos hnz hneg hmo hls HK0 hz
        have HI5 : Aside (RmInv ad (.slice a bs'.length c) bs' w w5 ∧ w.heap.size ≤ rb5 ∧ 7 ≤ rb5) := ⟨I5, hrb5, hr5.lo⟩
        have HR5 : Aside (RdAt rb5 _ bs' 0 .nilIface w5) := hr5
        clear I5 hrb5 hr5 HI2 HB hb5 hlt5
        cases htx : txtR (bs'.drop 0) most with
        | error ct =>
          have HX : Aside (txtR (bs'.drop 0) most = .error ct ∧ ct < 14) := ⟨htx, txtR_err htx⟩
          clear htx
          go_wp2_with (first | (go_at_call 13; refine (Text_any HI5.out.1.lw HR5.out most).mono ?_; intro e w6 h6; obtain ⟨f6, he6, hr6, hf6, hk6⟩ := rdOut_fault (c := ct) h6 (by rw [HX.out.1]; rfl); subst he6; have I6 : RmInv ad (.slice a bs'.length c) bs' w w6 := HI5.out.1.kept hk6 HI5.out.2.1 HE.out.1 HE.out.2 HI5.out.2.2) | (go_at_call 12; refine (at_any hr6).mono ?_; rintro e wA ⟨rfl, hA⟩; obtain rfl := hA.symm) | (go_at_call 15; refine (room_chain I6.et HX.out.2 hf6).mono ?_; rintro e w7 ⟨r7, rfl, ho7, hb7⟩; have I7 : RmInv ad (.slice a bs'.length c) bs' w w7 := I6.go hb7) | (go_at_call 14; refine (room_links ho7).mono ?_; rintro e w8 ⟨rfl, hb8⟩; have I8 : RmInv ad (.slice a bs'.length c) bs' w w8 := I7.go hb8) | (go_at_call 16; refine (wakes_ok I8.lw).mono ?_; rintro e w9 ⟨rfl, hb9⟩))
          go_ret
          exact ⟨rfl, (I8.go hb9).bel⟩
        | ok y =>
          obtain ⟨s, K⟩ := y
          obtain ⟨n, k, hnum, hfit, hs, hK⟩ := txtR_ok htx
          have hnk := numR_ok hnum
          rw [List.drop_zero] at hnk hfit hs hnum
          have hsz : s.size = n := by rw [hs]; exact take_len bs' k n hfit
          have hmost0 : (n : Int) ≤ most := hnk.2.2.2.2.1
          have hk1 : 1 ≤ k ∧ k ≤ bs'.length := ⟨hnk.1, hnk.2.2.1⟩
          obtain ⟨gu, ou, hga, hgl, hgc⟩ : ∃ gu ou, a = some ⟨gu, ou, none⟩ ∧ gu < w.heap.size ∧ (∀ i b, bs'[i]? = some b → w.cell? ⟨gu, ou + i, none⟩ = some (.int .u8 b.toNat)) := by
            rcases HE.out.2 with ⟨hnil, _⟩ | ⟨g, o, c', he, hg, hc⟩
            · rw [hnil] at hk1; exact absurd (Nat.le_trans hk1.1 hk1.2) (by decide)
            · simp only [Value.slice.injEq, true_and] at he
              exact ⟨g, o, he.1, hg, hc⟩
          subst hga
          have hcapn := HCap.out
          have hkn : k + n ≤ c := (txt_arith k n bs'.length c hk1.1 hk1.2 hfit hcapn HT.out).1
          have HCV : Aside (∀ wx : World, Below w.heap.size w wx → (convert 22 9 (.slice (some ⟨gu, if c = k then ou else ou + k, none⟩) n (c - k))).run Tryd.prog wx = .ok (.string s) wx) := fun wx hb => by
            have hl : ((bs'.drop k).take n).length = n := take_len bs' k n hfit
            have := run_convert_bytes_back (P := Tryd.prog) wx 22 9 5 ⟨gu, if c = k then ou else ou + k, none⟩ (c - k) ((bs'.drop k).take n) Tryd.underlying22 Tryd.underlying5 Tryd.underlying9 (fun j hj => by
              have hne : ¬ c = k := ne_of_room hkn (by rwa [hl] at hj)
              rw [if_neg hne, Addr.add_lit, hb.cell (p := ⟨gu, ou + k + j, none⟩) hgl, Nat.add_assoc]
              refine hgc (k + j) _ ?_
              rw [List.getElem_take, List.getElem_drop]
              exact List.getElem?_eq_getElem _)
            rw [hl] at this
            rw [hs]; exact this
          have HX : Aside (txtR (bs'.drop 0) most = .ok (s, K)) := htx
          clear htx hnum hs hnk hgc
          subst hK
          subst hsz
          obtain ⟨hkc, hK3, s1, s2, b1, b2⟩ := txt_arith k s.size bs'.length c hk1.1 hk1.2 hfit hcapn HT.out
          have hK2 : wrap64 ((s.size : Int) + 1) = (s.size : Int) + 1 := wrap_small _ b1.1 b1.2
          have hK4 : wrap64 ((k : Int) + (s.size : Int) - (s.size : Int)) = (k : Int) := by rw [Int.add_sub_cancel]; exact wrap_small _ b2.1 b2.2
          have hK5 : wrap64 (k : Int) = (k : Int) := wrap_small _ b2.1 b2.2
          clear hfit hk1 hcapn hkn hkc b1 b2
          go_wp2_with (go_at_call 13; refine (Text_any HI5.out.1.lw HR5.out most).mono ?_; intro e w6 h6; obtain ⟨he6, hr6, hk6⟩ := rdOut_ok (v := .string s) (k := k + s.size) h6 (by rw [HX.out]; rfl); subst he6; rw [Nat.zero_add] at hr6; have I6 : RmInv ad (.slice (some ⟨gu, ou, none⟩) bs'.length c) bs' w w6 := HI5.out.1.kept hk6 HI5.out.2.1 HE.out.1 HE.out.2 HI5.out.2.2; have q1 := HCV.out w6 I6.bel)
          by_cases hck : c = k
          · have q2 : (convert 22 9 (.slice (some ⟨gu, ou, none⟩) s.size 0)).run Tryd.prog w6 = .ok (.string s) w6 := by rw [if_pos hck, show c - k = 0 from by rw [hck]; exact Nat.sub_self _] at q1; exact q1
            clear q1
            go_wp2_with (first | (go_at_call 12; refine (at_any hr6).mono ?_; rintro e wA ⟨rfl, hA⟩; obtain rfl := hA.symm) | (go_at_call 16; refine (wakes_ok I6.lw).mono ?_; rintro e w9 ⟨rfl, hb9⟩))
            go_ret
            exact ⟨rfl, (I6.go hb9).bel⟩
          · have q2 : (convert 22 9 (.slice (some ⟨gu, ou + k, none⟩) s.size (c - k))).run Tryd.prog w6 = .ok (.string s) w6 := by rw [if_neg hck] at q1; exact q1
            clear q1
            go_wp2_with (first | (go_at_call 12; refine (at_any hr6).mono ?_; rintro e wA ⟨rfl, hA⟩; obtain rfl := hA.symm) | (go_at_call 16; refine (wakes_ok I6.lw).mono ?_; rintro e w9 ⟨rfl, hb9⟩))
            go_ret
            exact ⟨rfl, (I6.go hb9).bel⟩
end Go.Proofs.YtacbgognnjcinabDoor
