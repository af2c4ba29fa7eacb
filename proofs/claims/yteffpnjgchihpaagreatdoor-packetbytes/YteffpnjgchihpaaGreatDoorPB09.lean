
/-
  (*Reader).number, count.
-/
import Derived.Test.YteffpnjgchihpaaGreatDoorPB08
import Derived.Laws.BitsAllLaws
namespace Go.Proofs.YteffpnjgchihpaaGreatDoor
open Go.RowKit
set_option maxRecDepth 100000

/-- What number leaves. -/
def NumPost (ad : Nat → Addr) (rb g : Nat) (bs : List UInt8) (pl : Nat) (br : Value) (w : World) (most : Int) (e : Ending) (w' : World) : Prop := Kept [rb] w w' ∧ match numR (bs.drop pl) most with
  | .ok (n, k) => e = .returned (.int .i64 n) ∧ RdAt rb g bs (pl + k) br w'
  | .error c => e = gaveUp ad c ∧ ∃ q, RdAt rb g bs q br w'
theorem NumPost.ok {ad : Nat → Addr} {rb g : Nat} {bs : List UInt8} {pl : Nat} {br : Value} {w : World} {most : Int} {n k : Nat} {w' : World} (h : numR (bs.drop pl) most = .ok (n, k)) (hk : Kept [rb] w w') (hr : RdAt rb g bs (pl + k) br w') : NumPost ad rb g bs pl br w most (.returned (.int .i64 n)) w' := by
  unfold NumPost; rw [h]; exact ⟨hk, rfl, hr⟩
theorem NumPost.err {ad : Nat → Addr} {rb g : Nat} {bs : List UInt8} {pl : Nat} {br : Value} {w : World} {most : Int} {c : Nat} {w' : World} (h : numR (bs.drop pl) most = .error c) (hk : Kept [rb] w w') {q : Nat} (hr : RdAt rb g bs q br w') : NumPost ad rb g bs pl br w most (gaveUp ad c) w' := by
  unfold NumPost; rw [h]; exact ⟨hk, rfl, q, hr⟩

theorem RdAt.drewN {rb g : Nat} {bs : List UInt8} {pl : Nat} {br : Value} {w : World} (h : RdAt rb g bs pl br w) (n : Nat) : RdAt rb g bs pl br (w.drewN n) := h.kept (S := []) (.of (below_drewN w n)) (by simp) (by simp)
theorem Kept.drewN {S : List Nat} {a w : World} (h : Kept S a w) (n : Nat) : Kept S a (w.drewN n) := h.trans (.of (below_drewN w n))

theorem number_short {ad : Nat → Addr} {rb g : Nat} {bs : List UInt8} {pl : Nat} {br : Value} {w : World} (L : Lw ad w) (h : RdAt rb g bs pl br w) (most : Int) (c : Nat) (hs : spanFrom 0 (bs.drop pl) = .error c) :
    Calls Tryz.prog 104 #[.pointer (some ⟨rb, 0, none⟩), .int .i64 most] w (NumPost ad rb g bs pl br w most) := by
  have hn : numR (bs.drop pl) most = .error c := by unfold numR; rw [hs]
  have HA : Aside (Lw ad w ∧ RdAt rb g bs pl br w ∧ numR (bs.drop pl) most = .error c ∧ spanFrom 0 (bs.drop pl) = .error c) := ⟨L, h, hn, hs⟩
  clear h L hn hs
  go_enter Tryz.func104, Tryz.ntmps104
  go_wp2_with (go_at_call 110; refine (digits_any HA.out.1 HA.out.2.1).mono ?_; intro e w2 h2; unfold DigPost at h2; rw [HA.out.2.2.2] at h2; obtain ⟨rfl, m, rfl⟩ := h2)
  exact ⟨rfl, NumPost.err HA.out.2.2.1 ((Kept.refl _ _).drewN _) (HA.out.2.1.drewN _)⟩

theorem numv_at (l : List UInt8) (j : Nat) (b : UInt8) (h : l[j]? = some b) : numv (l.drop j) = b.toNat % 128 + 128 * numv (l.drop (j + 1)) := by
  obtain ⟨hl, rfl⟩ := List.getElem?_eq_some_iff.1 h
  rw [List.drop_eq_getElem_cons hl]
  rfl
theorem or_digit (x d : Nat) (hx : x * 128 < 9223372036854775808) (hd : d < 128) : bits .or .i64 (wrap64 ((x : Int) * 128)) (d : Int) = ((d + 128 * x : Nat) : Int) := by
  have e : wrap64 ((x : Int) * 128) = ((x * 128 : Nat) : Int) := by unfold wrap64; omega
  have h0 : bits .or .i64 ((x * 128 : Nat) : Int) (d : Int) = ((x * 128 ||| d : Nat) : Int) := by
    show IntKind.i64.wrap ((BitVec.ofInt 64 ((x * 128 : Nat) : Int) ||| BitVec.ofInt 64 (d : Int)).toNat : Int) = _
    have hx2 : x * 128 ||| d < 2 ^ 63 := Nat.or_lt_two_pow (by omega) (by omega)
    rw [BitVec.toNat_or, ofInt_u64 _ (by omega), ofInt_u64 _ (by omega)]
    simp only [IntKind.wrap, IntKind.bits, IntKind.signed]
    simp
    omega
  rw [e, h0]
  have h := Nat.shiftLeft_add_eq_or_of_lt (i := 7) (b := d) (by simpa using hd) x
  rw [Nat.shiftLeft_eq] at h
  have h' : x * 128 + d = x * 128 ||| d := by simpa using h
  rw [← h']
  congr 1; omega

theorem digits_ok {ad : Nat → Addr} {rb g : Nat} {bs : List UInt8} {pl : Nat} {br : Value} {w : World} (L : Lw ad w) (h : RdAt rb g bs pl br w) (k : Nat) (hs : spanFrom 0 (bs.drop pl) = .ok k) :
    Calls Tryz.prog 110 #[.pointer (some ⟨rb, 0, none⟩)] w fun e w' => e = .returned (.slice (some ⟨g, pl, none⟩) k (bs.length - pl)) ∧ RdAt rb g bs (pl + k) br w' ∧ Kept [rb] w w' ∧ Lw ad w' := by
  refine (digits_any L h).mono ?_
  intro e w2 h2
  unfold DigPost at h2
  rw [hs] at h2
  obtain ⟨m, m', rfl, rfl⟩ := h2
  obtain ⟨_, _, hkl, _⟩ := span_ok _ _ _ hs
  rw [List.length_drop] at hkl
  have hk : Kept [rb] w (((w.drewN m).setCell ⟨rb, 1, none⟩ (.int .i64 (pl + k : Nat))).drewN m') := (((Kept.refl _ w).drewN m).set (p := ⟨rb, 1, none⟩) (.inl (by simp)) _).drewN m'
  exact ⟨rfl, ((h.drewN m).place (pl + k) (by have := h.le; omega)).drewN m', hk, L.kept hk (by simpa using h.lo)⟩

set_option maxHeartbeats 1000000 in
theorem number_ok {ad : Nat → Addr} {rb g : Nat} {bs : List UInt8} {pl : Nat} {br : Value} {w : World} (L : Lw ad w) (h : RdAt rb g bs pl br w) (most : Int) (k : Nat) (hs : spanFrom 0 (bs.drop pl) = .ok k) :
    Calls Tryz.prog 104 #[.pointer (some ⟨rb, 0, none⟩), .int .i64 most] w (NumPost ad rb g bs pl br w most) := by
  obtain ⟨hk0, hk9, hkl, _⟩ := span_ok _ _ _ hs
  have hk9 := hk9 (by decide)
  rw [List.length_drop] at hkl
  have hle := h.le
  have HA : Aside (Lw ad w ∧ RdAt rb g bs pl br w ∧ spanFrom 0 (bs.drop pl) = .ok k ∧ bs.length ≤ 1000000) := ⟨L, h, hs, h.lim⟩
  have hl : wrap64 ((k : Int) - 1) = (k : Int) - 1 := by unfold wrap64; omega
  have hlk : (0 : Int) ≤ (k : Int) - 1 ∧ (k : Int) - 1 < (k : Int) := by omega
  obtain ⟨bl, hbl⟩ : ∃ b, bs[pl + (k - 1)]? = some b := ⟨bs[pl + (k - 1)]'(by omega), by simp⟩
  clear h L hs
  by_cases hk1 : 1 < k
  · have hk1' : (0 : Int) < (k : Int) - 1 := by omega
    by_cases hz : bl = 0
    · have HN : Aside (numR (bs.drop pl) most = .error 5) := by
        show _ = _
        unfold numR; rw [HA.out.2.2.1]
        simp only
        rw [if_pos ⟨hk1, by rw [List.getElem?_drop]; rw [hbl, hz]⟩]
      subst hz
      go_enter Tryz.func104, Tryz.ntmps104
      go_wp2_with (first | (go_at_call 110; refine (digits_ok HA.out.1 HA.out.2.1 k HA.out.2.2.1).mono ?_; rintro e w2 ⟨rfl, hr2, hk2, L2⟩; have cb : w2.cell? ⟨g, pl + (k - 1), none⟩ = some (.int .u8 0) := hr2.byte _ _ hbl; have h5 : w2.cell? ⟨0, 0, none⟩ = some (rsn ad 5) := L2.var 5 (by decide)) | (go_at_call 88; refine (giveUp_any _ _).mono ?_; rintro e w3 ⟨rfl, rfl⟩))
      exact ⟨rfl, NumPost.err HN.out hk2 hr2⟩
    · have hz' : ((bl.toNat : Int) == 0) = false := by
        have : bl.toNat ≠ 0 := fun e => hz (UInt8.toNat_inj.1 (by simpa using e))
        simp; omega
      have HN : Aside (¬ (1 < k ∧ (bs.drop pl)[k - 1]? = some 0)) := by
        rintro ⟨_, h0⟩
        rw [List.getElem?_drop, hbl] at h0
        exact hz (Option.some.inj h0)
      go_enter Tryz.func104, Tryz.ntmps104
      go_wp2_with (go_at_call 110; refine (digits_ok HA.out.1 HA.out.2.1 k HA.out.2.2.1).mono ?_; rintro e w2 ⟨rfl, hr2, hk2, L2⟩; have cb := hr2.byte _ _ hbl; have h1 : w2.cell? ⟨3, 0, none⟩ = some (rsn ad 1) := L2.var 1 (by decide))
      go_loopw [7, 8] (fun nv iv wr => ∃ j : Nat, j ≤ k ∧ nv = .int .i64 (numv (((bs.drop pl).take k).drop j) : Nat) ∧ iv = .int .i64 ((j : Int) - 1) ∧ wr = w2) (fun _ iv _ => (intOf iv + 1).toNat)
      case atStart => exact ⟨k, Nat.le_refl _, by rw [List.drop_of_length_le (by simp; omega)]; rfl, rfl, rfl⟩
      case round =>
        obtain ⟨j, hj, rfl, rfl, rfl⟩ := hrel
        cases j with
        | zero =>
          have hneg : ¬ (0 : Int) ≤ ((0 : Nat) : Int) - 1 := by decide
          rw [List.drop_zero]
          by_cases hm : most < (numv ((bs.drop pl).take k) : Int)
          · have HM : Aside (numR (bs.drop pl) most = .error 1) := by
              show _ = _
              unfold numR; rw [HA.out.2.2.1]
              simp only
              rw [if_neg HN.out, if_pos hm]
            go_wp2_with (go_at_call 88; refine (giveUp_any _ _).mono ?_; rintro e w3 ⟨rfl, rfl⟩)
            exact ⟨rfl, NumPost.err HM.out hk2 hr2⟩
          · have HM : Aside (numR (bs.drop pl) most = .ok (numv ((bs.drop pl).take k), k)) := by
              show _ = _
              unfold numR; rw [HA.out.2.2.1]
              simp only
              rw [if_neg HN.out, if_neg hm]
            go_wp2
            go_ret
            exact NumPost.ok HM.out hk2 hr2
        | succ j =>
          obtain ⟨b, hb⟩ : ∃ b, bs[pl + j]? = some b := ⟨bs[pl + j]'(by omega), by simp⟩
          have cj := hr2.byte _ _ hb
          have hji : (((j + 1 : Nat) : Int) - 1) = (j : Int) := by omega
          have hjk : (0 : Int) ≤ (j : Int) ∧ (j : Int) < (k : Int) := by omega
          have hjp : (0 : Int) ≤ (j : Int) := by omega
          have HV : Aside (bits .or .i64 (wrap64 ((numv (((bs.drop pl).take k).drop (j + 1)) : Int) * 128)) ((b.toNat : Int) % 128) = ((numv (((bs.drop pl).take k).drop j) : Nat) : Int)) := by
            show _ = _
            have hlt := numv_lt (((bs.drop pl).take k).drop (j + 1))
            have hle2 : 128 ^ (((bs.drop pl).take k).drop (j + 1)).length ≤ 128 ^ 8 := Nat.pow_le_pow_right (by decide) (by simp; omega)
            have := or_digit (numv (((bs.drop pl).take k).drop (j + 1))) (b.toNat % 128) (by omega) (Nat.mod_lt _ (by decide))
            rw [numv_at _ j b (by rw [List.getElem?_take, if_pos (by omega), List.getElem?_drop]; exact hb), ← this]
            simp
          rw [hji]
          go_wp2
          go_roundw
          case rel => exact ⟨j, by omega, congrArg (Value.int .i64 ·) HV.out, rfl, trivial⟩
          case measure => simp [intOf]
  · have hk1' : ¬ (0 : Int) < (k : Int) - 1 := by omega
    have HN : Aside (¬ (1 < k ∧ (bs.drop pl)[k - 1]? = some 0)) := fun h => hk1 h.1
    go_enter Tryz.func104, Tryz.ntmps104
    go_wp2_with (go_at_call 110; refine (digits_ok HA.out.1 HA.out.2.1 k HA.out.2.2.1).mono ?_; rintro e w2 ⟨rfl, hr2, hk2, L2⟩; have h1 : w2.cell? ⟨3, 0, none⟩ = some (rsn ad 1) := L2.var 1 (by decide))
    go_loopw [7, 8] (fun nv iv wr => ∃ j : Nat, j ≤ k ∧ nv = .int .i64 (numv (((bs.drop pl).take k).drop j) : Nat) ∧ iv = .int .i64 ((j : Int) - 1) ∧ wr = w2) (fun _ iv _ => (intOf iv + 1).toNat)
    case atStart => exact ⟨k, Nat.le_refl _, by rw [List.drop_of_length_le (by simp; omega)]; rfl, rfl, rfl⟩
    case round =>
      obtain ⟨j, hj, rfl, rfl, rfl⟩ := hrel
      cases j with
      | zero =>
        have hneg : ¬ (0 : Int) ≤ ((0 : Nat) : Int) - 1 := by decide
        rw [List.drop_zero]
        by_cases hm : most < (numv ((bs.drop pl).take k) : Int)
        · have HM : Aside (numR (bs.drop pl) most = .error 1) := by
            show _ = _
            unfold numR; rw [HA.out.2.2.1]
            simp only
            rw [if_neg HN.out, if_pos hm]
          go_wp2_with (go_at_call 88; refine (giveUp_any _ _).mono ?_; rintro e w3 ⟨rfl, rfl⟩)
          exact ⟨rfl, NumPost.err HM.out hk2 hr2⟩
        · have HM : Aside (numR (bs.drop pl) most = .ok (numv ((bs.drop pl).take k), k)) := by
            show _ = _
            unfold numR; rw [HA.out.2.2.1]
            simp only
            rw [if_neg HN.out, if_neg hm]
          go_wp2
          go_ret
          exact NumPost.ok HM.out hk2 hr2
      | succ j =>
        obtain ⟨b, hb⟩ : ∃ b, bs[pl + j]? = some b := ⟨bs[pl + j]'(by omega), by simp⟩
        have cj := hr2.byte _ _ hb
        have hji : (((j + 1 : Nat) : Int) - 1) = (j : Int) := by omega
        have hjk : (0 : Int) ≤ (j : Int) ∧ (j : Int) < (k : Int) := by omega
        have hjp : (0 : Int) ≤ (j : Int) := by omega
        have HV : Aside (bits .or .i64 (wrap64 ((numv (((bs.drop pl).take k).drop (j + 1)) : Int) * 128)) ((b.toNat : Int) % 128) = ((numv (((bs.drop pl).take k).drop j) : Nat) : Int)) := by
          show _ = _
          have hlt := numv_lt (((bs.drop pl).take k).drop (j + 1))
          have hle2 : 128 ^ (((bs.drop pl).take k).drop (j + 1)).length ≤ 128 ^ 8 := Nat.pow_le_pow_right (by decide) (by simp; omega)
          have := or_digit (numv (((bs.drop pl).take k).drop (j + 1))) (b.toNat % 128) (by omega) (Nat.mod_lt _ (by decide))
          rw [numv_at _ j b (by rw [List.getElem?_take, if_pos (by omega), List.getElem?_drop]; exact hb), ← this]
          simp
        rw [hji]
        go_wp2
        go_roundw
        case rel => exact ⟨j, by omega, congrArg (Value.int .i64 ·) HV.out, rfl, trivial⟩
        case measure => simp [intOf]

theorem number_any {ad : Nat → Addr} {rb g : Nat} {bs : List UInt8} {pl : Nat} {br : Value} {w : World} (L : Lw ad w) (h : RdAt rb g bs pl br w) (most : Int) :
    Calls Tryz.prog 104 #[.pointer (some ⟨rb, 0, none⟩), .int .i64 most] w (NumPost ad rb g bs pl br w most) := by
  cases hs : spanFrom 0 (bs.drop pl) with
  | error c => exact number_short L h most c hs
  | ok k => exact number_ok L h most k hs

/-- P2.4: how many things: the number, where there is room for so many. -/
def cntR (bs : List UInt8) (least most : Int) : Except Nat (Nat × Nat) :=
  match numR bs most with
  | .error c => .error c
  | .ok (n, k) => if ((bs.length - k : Nat) : Int) / (if least < 1 then 1 else least) < (n : Int) then .error 6 else .ok (n, k)

/-- What a reading leaves: a value and how many bytes it took, or a reason. -/
def RdPost (ad : Nat → Addr) (rb g : Nat) (bs : List UInt8) (pl : Nat) (br : Value) (w : World) (res : Except Nat (Value × Nat)) (e : Ending) (w' : World) : Prop := Kept [rb] w w' ∧ match res with
  | .ok (v, k) => e = .returned v ∧ RdAt rb g bs (pl + k) br w'
  | .error c => e = gaveUp ad c ∧ ∃ q, RdAt rb g bs q br w'

theorem take_at_ok {ad : Nat → Addr} {rb g : Nat} {bs : List UInt8} {pl : Nat} {br : Value} {w : World} (L : Lw ad w) (h : RdAt rb g bs pl br w) (n : Nat) (hn : n ≤ bs.length - pl) :
    Calls Tryz.prog 102 #[.pointer (some ⟨rb, 0, none⟩), .int .i64 n] w fun e w' => ∃ o, e = .returned (.slice (some ⟨g, o, none⟩) n (bs.length - pl)) ∧ (0 < n → o = pl) ∧ RdAt rb g bs (pl + n) br w' ∧ Kept [rb] w w' ∧ Lw ad w' := by
  refine (take_ok h n hn).mono ?_
  rintro e w' ⟨o, rfl, ho, m, m', rfl⟩
  have hk : Kept [rb] w (((w.drewN m).setCell ⟨rb, 1, none⟩ (.int .i64 (pl + n : Nat))).drewN m') := (((Kept.refl _ w).drewN m).set (p := ⟨rb, 1, none⟩) (.inl (by simp)) _).drewN m'
  exact ⟨o, rfl, ho, ((h.drewN m).place (pl + n) (by have := h.le; omega)).drewN m', hk, L.kept hk (by simpa using h.lo)⟩

theorem take_at_short {ad : Nat → Addr} {rb g : Nat} {bs : List UInt8} {pl : Nat} {br : Value} {w : World} (L : Lw ad w) (h : RdAt rb g bs pl br w) (n : Int) (hn : ((bs.length - pl : Nat) : Int) < n) :
    Calls Tryz.prog 102 #[.pointer (some ⟨rb, 0, none⟩), .int .i64 n] w fun e w' => e = gaveUp ad 6 ∧ RdAt rb g bs pl br w' ∧ Kept [rb] w w' := by
  refine (take_short L h n hn).mono ?_
  rintro e w' ⟨rfl, m, rfl⟩
  exact ⟨rfl, h.drewN m, (Kept.refl _ w).drewN m⟩

theorem numPost_ok {ad : Nat → Addr} {rb g : Nat} {bs : List UInt8} {pl : Nat} {br : Value} {w : World} {most : Int} {n k : Nat} {e : Ending} {w' : World} (L : Lw ad w) (hlo : 8 ≤ rb) (h : NumPost ad rb g bs pl br w most e w') (hn : numR (bs.drop pl) most = .ok (n, k)) : e = .returned (.int .i64 n) ∧ RdAt rb g bs (pl + k) br w' ∧ Kept [rb] w w' ∧ Lw ad w' := by
  unfold NumPost at h; rw [hn] at h
  exact ⟨h.2.1, h.2.2, h.1, L.kept h.1 (by simpa using hlo)⟩
theorem numPost_err {ad : Nat → Addr} {rb g : Nat} {bs : List UInt8} {pl : Nat} {br : Value} {w : World} {most : Int} {c : Nat} {e : Ending} {w' : World} (h : NumPost ad rb g bs pl br w most e w') (hn : numR (bs.drop pl) most = .error c) : e = gaveUp ad c ∧ Kept [rb] w w' ∧ ∃ q, RdAt rb g bs q br w' := by
  unfold NumPost at h; rw [hn] at h
  exact ⟨h.2.1, h.1, h.2.2⟩

set_option maxHeartbeats 1000000 in
theorem count_any {ad : Nat → Addr} {rb g : Nat} {bs : List UInt8} {pl : Nat} {br : Value} {w : World} (L : Lw ad w) (h : RdAt rb g bs pl br w) (least most : Int) (hl1 : -9223372036854775808 ≤ least) (hl2 : least ≤ 9223372036854775807) :
    Calls Tryz.prog 112 #[.pointer (some ⟨rb, 0, none⟩), .int .i64 least, .int .i64 most] w (RdPost ad rb g bs pl br w ((cntR (bs.drop pl) least most).map fun x => (.int .i64 x.1, x.2))) := by
  have HA : Aside (Lw ad w ∧ RdAt rb g bs pl br w) := ⟨L, h⟩
  have HL : Aside (-9223372036854775808 ≤ least ∧ least ≤ 9223372036854775807 ∧ bs.length ≤ 1000000) := ⟨hl1, hl2, h.lim⟩
  clear L h hl1 hl2
  cases hn : numR (bs.drop pl) most with
  | error c =>
    have HN : Aside (numR (bs.drop pl) most = .error c ∧ cntR (bs.drop pl) least most = .error c) := ⟨hn, by unfold cntR; rw [hn]⟩
    clear hn
    go_enter Tryz.func112, Tryz.ntmps112
    go_wp2_with (go_at_call 104; refine (number_any HA.out.1 HA.out.2 most).mono ?_; intro e w2 h2; obtain ⟨rfl, hk2, q, hr2⟩ := numPost_err h2 HN.out.1)
    refine ⟨rfl, ?_⟩
    unfold RdPost
    rw [HN.out.2]
    exact ⟨hk2, rfl, q, hr2⟩
  | ok x =>
    obtain ⟨n, k⟩ := x
    have hkl : k ≤ bs.length - pl := by have := (numR_ok hn).2.2.1; rwa [List.length_drop] at this
    have hn63 : n < 9223372036854775808 := (numR_ok hn).2.2.2.2.2
    have hle := HA.out.2.le
    have hd1 : 1 ≤ (if least < 1 then 1 else least) := by split <;> omega
    have hd0 : ¬ (if least < 1 then 1 else least) = 0 := by omega
    have hrm : (((bs.drop pl).length - k : Nat) : Int) = ((bs.length - (pl + k) : Nat) : Int) := by rw [List.length_drop]; omega
    have hw : wrap64 (((bs.length - (pl + k) : Nat) : Int) / (if least < 1 then 1 else least)) = ((bs.length - (pl + k) : Nat) : Int) / (if least < 1 then 1 else least) := by
      have h1 : 0 ≤ ((bs.length - (pl + k) : Nat) : Int) / (if least < 1 then 1 else least) := Int.ediv_nonneg (by omega) (by omega)
      have h2 : ((bs.length - (pl + k) : Nat) : Int) / (if least < 1 then 1 else least) ≤ ((bs.length - (pl + k) : Nat) : Int) := Int.ediv_le_self _ (by omega)
      have := HL.out.2.2
      unfold wrap64; omega
    have HN : Aside (numR (bs.drop pl) most = .ok (n, k) ∧ cntR (bs.drop pl) least most = (if ((bs.length - (pl + k) : Nat) : Int) / (if least < 1 then 1 else least) < (n : Int) then .error 6 else .ok (n, k))) := ⟨hn, by unfold cntR; rw [hn]; simp only; rw [hrm]⟩
    clear hn hrm
    by_cases hgt : ((bs.length - (pl + k) : Nat) : Int) / (if least < 1 then 1 else least) < (n : Int)
    · have HG : Aside (((bs.length - (pl + k) : Nat) : Int) / (if least < 1 then 1 else least) < (n : Int)) := hgt
      go_enter Tryz.func112, Tryz.ntmps112
      go_wp2_with (first | (go_at_call 104; refine (number_any HA.out.1 HA.out.2 most).mono ?_; intro e w2 h2; obtain ⟨rfl, hr2, hk2, L2⟩ := numPost_ok HA.out.1 HA.out.2.lo h2 HN.out.1; have h6 : w2.cell? ⟨7, 0, none⟩ = some (rsn ad 6) := L2.var 6 (by decide)) | (go_at_call 87; refine (left_any hr2).mono ?_; rintro e w3 ⟨rfl, m, rfl⟩) | (go_at_call 88; refine (giveUp_any _ _).mono ?_; rintro e w4 ⟨rfl, rfl⟩))
      all_goals
        refine ⟨rfl, ?_⟩
        unfold RdPost
        rw [HN.out.2, if_pos HG.out]
        exact ⟨hk2.drewN m, rfl, _, hr2.drewN m⟩
    · have HG : Aside (¬ ((bs.length - (pl + k) : Nat) : Int) / (if least < 1 then 1 else least) < (n : Int)) := hgt
      go_enter Tryz.func112, Tryz.ntmps112
      go_wp2_with (first | (go_at_call 104; refine (number_any HA.out.1 HA.out.2 most).mono ?_; intro e w2 h2; obtain ⟨rfl, hr2, hk2, L2⟩ := numPost_ok HA.out.1 HA.out.2.lo h2 HN.out.1) | (go_at_call 87; refine (left_any hr2).mono ?_; rintro e w3 ⟨rfl, m, rfl⟩))
      all_goals
        go_ret
        unfold RdPost
        rw [HN.out.2, if_neg (Int.not_lt.2 HG.out)]
        exact ⟨hk2.drewN m, rfl, hr2.drewN m⟩
end Go.Proofs.YteffpnjgchihpaaGreatDoor
