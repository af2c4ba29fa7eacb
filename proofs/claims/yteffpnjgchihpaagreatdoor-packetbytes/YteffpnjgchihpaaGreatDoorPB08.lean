
/-
  (*Reader).Left, At, take, digits; giveUp.
-/
import Derived.Test.YteffpnjgchihpaaGreatDoorPB07
namespace Go.Proofs.YteffpnjgchihpaaGreatDoor
open Go.RowKit
set_option maxRecDepth 100000

/-- The reason at a place, as an error. -/
abbrev rsn (ad : Nat → Addr) (c : Nat) : Value := .iface 195 (.pointer (some (ad c)))
/-- What a reading that gives up ends in. -/
abbrev gaveUp (ad : Nat → Addr) (c : Nat) : Ending := .panicked [{ v := .iface 183 (.agg #[rsn ad c]), recovered := false }]

theorem giveUp_any (v : Value) (w : World) :
    Calls Tryz.prog 88 #[.iface 195 v] w fun e w' => e = .panicked [{ v := .iface 183 (.agg #[.iface 195 v]), recovered := false }] ∧ w' = w := by
  go_enter Tryz.func88, Tryz.ntmps88
  go_wp2
  exact ⟨rfl, rfl, rfl⟩

theorem at_any {rb g : Nat} {bs : List UInt8} {pl : Nat} {br : Value} {w : World} (h : RdAt rb g bs pl br w) :
    Calls Tryz.prog 84 #[.pointer (some ⟨rb, 0, none⟩)] w fun e w' => e = .returned (.int .i64 pl) ∧ w' = w := by
  have c1 := h.c1
  clear h
  go_enter Tryz.func84, Tryz.ntmps84
  go_wp2
  go_ret
  exact ⟨rfl, rfl⟩

theorem below_drewN (w : World) (n : Nat) : Below w.heap.size w (w.drewN n) := ⟨rfl, rfl, rfl, Nat.le_refl _, fun _ _ => rfl⟩

theorem left_any {rb g : Nat} {bs : List UInt8} {pl : Nat} {br : Value} {w : World} (h : RdAt rb g bs pl br w) :
    Calls Tryz.prog 87 #[.pointer (some ⟨rb, 0, none⟩)] w fun e w' => e = .returned (.int .i64 ((bs.length - pl : Nat) : Int)) ∧ ∃ n, w' = w.drewN n := by
  have c0 := h.c0
  have c1 := h.c1
  have he : wrap64 ((bs.length : Int) - (pl : Int)) = ((bs.length - pl : Nat) : Int) := by
    have hle := h.le
    have hlim := h.lim
    unfold wrap64; omega
  clear h
  go_enter Tryz.func87, Tryz.ntmps87
  go_wp2
  go_quiet (fail)
  go_wp2
  go_ret
  exact ⟨congrArg (fun x => Ending.returned (.int .i64 x)) he, _, rfl⟩

theorem take_short {ad : Nat → Addr} {rb g : Nat} {bs : List UInt8} {pl : Nat} {br : Value} {w : World} (L : Lw ad w) (h : RdAt rb g bs pl br w) (n : Int) (hn : ((bs.length - pl : Nat) : Int) < n) :
    Calls Tryz.prog 102 #[.pointer (some ⟨rb, 0, none⟩), .int .i64 n] w fun e w' => e = gaveUp ad 6 ∧ ∃ m, w' = w.drewN m := by
  have h6 : w.cell? ⟨7, 0, none⟩ = some (rsn ad 6) := L.var 6 (by decide)
  have HR : Aside (RdAt rb g bs pl br w) := h
  clear h L
  go_enter Tryz.func102, Tryz.ntmps102
  go_wp2_with (first | (go_at_call 87; refine (left_any HR.out).mono ?_; rintro e w1 ⟨rfl, m, rfl⟩) | (go_at_call 88; refine (giveUp_any _ _).mono ?_; rintro e w2 ⟨rfl, rfl⟩))
  exact ⟨rfl, rfl, _, rfl⟩

theorem take_ok {rb g : Nat} {bs : List UInt8} {pl : Nat} {br : Value} {w : World} (h : RdAt rb g bs pl br w) (n : Nat) (hn : n ≤ bs.length - pl) :
    Calls Tryz.prog 102 #[.pointer (some ⟨rb, 0, none⟩), .int .i64 n] w fun e w' => ∃ o, e = .returned (.slice (some ⟨g, o, none⟩) n (bs.length - pl)) ∧ (0 < n → o = pl) ∧ ∃ m m', w' = ((w.drewN m).setCell ⟨rb, 1, none⟩ (.int .i64 (pl + n : Nat))).drewN m' := by
  have HR : Aside (RdAt rb g bs pl br w) := h
  have c0 := h.c0
  have c1 := h.c1
  have hfz := h.frozen 1
  have hg : ¬ ((bs.length - pl : Nat) : Int) < (n : Int) := by omega
  have he : wrap64 ((pl : Int) + (n : Int)) = ((pl + n : Nat) : Int) := by
    have hle := h.le
    have hlim := h.lim
    unfold wrap64; omega
  have e1 : (0:Int) ≤ (pl : Int) ∧ (pl : Int) ≤ ((pl + n : Nat) : Int) := by omega
  have e2 : ((pl + n : Nat) : Int) ≤ (bs.length : Int) := by have := h.le; omega
  clear h
  go_enter Tryz.func102, Tryz.ntmps102
  go_wp2_with (first | (go_at_call 87; refine (left_any HR.out).mono ?_; rintro e w1 ⟨rfl, m, rfl⟩))
  go_quiet (fail)
  go_wp2
  case inl hbp =>
    go_ret
    exact ⟨0, by simp, fun h0 => by omega, _, _, rfl⟩
  case inr hbp =>
    go_ret
    exact ⟨pl, rfl, fun _ => rfl, _, _, rfl⟩

theorem span_cons (i : Nat) (b : UInt8) (r : List UInt8) : spanFrom i (b :: r) = if b < 128 then .ok (i + 1) else if i + 1 = 9 then .error 5 else spanFrom (i + 1) r := rfl

/-- What digits leaves. -/
def DigPost (ad : Nat → Addr) (rb g : Nat) (bs : List UInt8) (pl : Nat) (w : World) (e : Ending) (w' : World) : Prop := match spanFrom 0 (bs.drop pl) with
  | .ok k => ∃ m m', e = .returned (.slice (some ⟨g, pl, none⟩) k (bs.length - pl)) ∧ w' = ((w.drewN m).setCell ⟨rb, 1, none⟩ (.int .i64 (pl + k : Nat))).drewN m'
  | .error c => e = gaveUp ad c ∧ ∃ m, w' = w.drewN m
theorem DigPost.ok {ad : Nat → Addr} {rb g : Nat} {bs : List UInt8} {pl : Nat} {w : World} {k : Nat} (h : spanFrom 0 (bs.drop pl) = .ok k) (m m' : Nat) : DigPost ad rb g bs pl w (.returned (.slice (some ⟨g, pl, none⟩) k (bs.length - pl))) (((w.drewN m).setCell ⟨rb, 1, none⟩ (.int .i64 (pl + k : Nat))).drewN m') := by
  unfold DigPost; rw [h]; exact ⟨m, m', rfl, rfl⟩
theorem DigPost.err {ad : Nat → Addr} {rb g : Nat} {bs : List UInt8} {pl : Nat} {w : World} {c : Nat} (h : spanFrom 0 (bs.drop pl) = .error c) (m : Nat) : DigPost ad rb g bs pl w (gaveUp ad c) (w.drewN m) := by
  unfold DigPost; rw [h]; exact ⟨rfl, m, rfl⟩

/-- How many bytes a number has, in memory. -/
theorem digits_any {ad : Nat → Addr} {rb g : Nat} {bs : List UInt8} {pl : Nat} {br : Value} {w : World} (L : Lw ad w) (h : RdAt rb g bs pl br w) :
    Calls Tryz.prog 110 #[.pointer (some ⟨rb, 0, none⟩)] w (DigPost ad rb g bs pl w) := by
  have h6 : w.cell? ⟨7, 0, none⟩ = some (rsn ad 6) := L.var 6 (by decide)
  have h5 : w.cell? ⟨0, 0, none⟩ = some (rsn ad 5) := L.var 5 (by decide)
  have HR : Aside (RdAt rb g bs pl br w) := h
  have c0 := h.c0
  have c1 := h.c1
  have e1 : (0:Int) ≤ (pl : Int) ∧ (pl : Int) ≤ (bs.length : Int) := by have := h.le; omega
  clear h L
  by_cases hbp : bs.length = pl
  · have hd : spanFrom 0 (bs.drop pl) = .error 6 := by rw [List.drop_of_length_le (by omega)]; rfl
    have HD : Aside (spanFrom 0 (bs.drop pl) = .error 6) := hd
    clear hd
    go_enter Tryz.func110, Tryz.ntmps110
    go_wp2
    go_quiet (fail)
    go_wp2
    refine wp_loop_rounds 1 ?_
    rw [rounds_succ]
    go_wp2_with (go_at_call 88; refine (giveUp_any _ _).mono ?_; rintro e w2 ⟨rfl, rfl⟩)
    exact ⟨rfl, DigPost.err HD.out _⟩
  · go_enter Tryz.func110, Tryz.ntmps110
    go_wp2
    go_quiet (fail)
    go_wp2
    go_loopw [15] (fun i wr => ∃ k n : Nat, i = .int .i64 (k : Int) ∧ pl + k ≤ bs.length ∧ k < 9 ∧ wr = w.drewN n ∧ Aside (spanFrom k (bs.drop (pl + k)) = spanFrom 0 (bs.drop pl))) (fun i _ => bs.length - (intOf i).toNat)
    case atStart => exact ⟨0, _, rfl, by omega, by decide, rfl, rfl⟩
    case round =>
      obtain ⟨k, n, rfl, hk, hk9, rfl, hsp⟩ := hrel
      by_cases hlt : k < bs.length - pl
      · have hi : pl + k < bs.length := by omega
        have hcons : bs.drop (pl + k) = bs[pl + k] :: bs.drop (pl + k + 1) := List.drop_eq_getElem_cons hi
        have cb : w.cell? ⟨g, pl + k, none⟩ = some (.int .u8 (bs[pl + k]).toNat) := HR.out.byte _ _ (by simp [hi])
        have hki : (k : Int) < ((bs.length - pl : Nat) : Int) := by omega
        have hsp' := hsp.out
        clear hsp
        rw [hcons] at hsp'
        rw [span_cons] at hsp'
        generalize bs[pl + k] = b at *
        by_cases hb : b < 128
        · have hbn : b.toNat < 128 := by simpa [UInt8.lt_iff_toNat_lt] using hb
          have hb' : (b.toNat : Int) < 128 := by omega
          rw [if_pos hb] at hsp'
          have HS : Aside (spanFrom 0 (bs.drop pl) = .ok (k + 1)) := hsp'.symm
          clear hsp' hcons
          have HR2 : Aside (∀ n, RdAt rb g bs pl br (w.drewN n)) := fun n => HR.out.kept (S := []) (.of (below_drewN w n)) (by simp) (by simp)
          go_wp2_with (go_at_call 102; refine (take_ok (HR2.out n) (k + 1) (by omega)).mono ?_; rintro e w2 ⟨o, rfl, ho, m, m', rfl⟩)
          go_ret
          exact DigPost.ok HS.out _ _
        · have hbn : ¬ b.toNat < 128 := by simpa [UInt8.lt_iff_toNat_lt] using hb
          have hb' : ¬ (b.toNat : Int) < 128 := by omega
          rw [if_neg hb] at hsp'
          by_cases h9 : k + 1 = 9
          · rw [if_pos h9] at hsp'
            obtain rfl : k = 8 := by omega
            have HS : Aside (spanFrom 0 (bs.drop pl) = .error 5) := hsp'.symm
            clear hsp' hcons h9
            go_wp2_with (go_at_call 88; refine (giveUp_any _ _).mono ?_; rintro e w2 ⟨rfl, rfl⟩)
            exact ⟨rfl, DigPost.err HS.out _⟩
          · rw [if_neg h9] at hsp'
            have HS : Aside (spanFrom (k + 1) (bs.drop (pl + k + 1)) = spanFrom 0 (bs.drop pl)) := hsp'
            have h9' : (((k : Int) + 1) == 9) = false := by simp; omega
            clear hsp' hcons
            go_wp2
            go_roundw
            case rel => exact ⟨k + 1, n, by go_num, by omega, by omega, rfl, HS⟩
            case measure => simp [intOf]; omega
      · have hki : ¬ (k : Int) < ((bs.length - pl : Nat) : Int) := by omega
        have HS : Aside (spanFrom 0 (bs.drop pl) = .error 6) := by rw [← hsp.out, List.drop_of_length_le (by omega)]; rfl
        clear hsp
        go_wp2_with (go_at_call 88; refine (giveUp_any _ _).mono ?_; rintro e w2 ⟨rfl, rfl⟩)
        exact ⟨rfl, DigPost.err HS.out _⟩
end Go.Proofs.YteffpnjgchihpaaGreatDoor
