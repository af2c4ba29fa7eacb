
/-
  barrowref09.Reader: Count, form, Byte. barrowref09.Reader: Byte.
-/
import Derived.Test.YtpkblfhkblllhaaGreatDoorRP40
namespace Go.Proofs.YtpkblfhkblllhaaGreatDoor
open Go.RowKit
set_option maxRecDepth 100000

def PS.count (bs : List UInt8) (s : PS) (least : Int) : Int × PS :=
  if s.bad then (0, s) else match cntR (bs.drop s.pl) least 2147483647 with
    | .ok (n, k) => ((n : Int), { s with pl := s.pl + k })
    | .error c => (0, { s with st := some (⟨#[67, 111, 117, 110, 116]⟩, s.pl, c) })
/-- What wire's Count leaves, as the layer above tells it. -/
theorem cnt_out {xb : Nat} {v : Value} {bs : List UInt8} {s : PS} {least : Int} {w w' : World} {e : Ending} (hb : s.bad = false) (h : XOut xb v bs tp w (resS (.int .i64 0) ⟨#[67, 111, 117, 110, 116]⟩ s.pl ((cntR (bs.drop s.pl) least 2147483647).map fun x => (.int .i64 x.1, x.2)) none) e w') :
    ∃ m0 m1 m2, e = .returned (.tuple #[.int .i64 (s.count bs least).1, .agg #[m0, m1, m2]]) ∧ XsAt xb v bs (s.count bs least).2.pl (s.count bs least).2.st m0 m1 m2 w' ∧ Kept [xb] w w' ∧ (s.count bs least).2.wf = s.wf := by
  obtain ⟨m0, m1, m2, h1, h2, h3⟩ := h
  refine ⟨m0, m1, m2, ?_⟩
  unfold PS.count
  rw [hb]
  have hg := (PS.good hb).1
  cases hr : cntR (bs.drop s.pl) least 2147483647 with
  | error c =>
    rw [hr] at h1 h2
    exact ⟨h1, h2, h3, rfl⟩
  | ok x =>
    obtain ⟨n, k⟩ := x
    rw [hr] at h1 h2
    refine ⟨h1, ?_, h3, rfl⟩
    show XsAt xb v bs (s.pl + k) s.st m0 m1 m2 w'
    rw [hg]
    exact h2
set_option maxHeartbeats 1000000 in
theorem count_px {pb xb : Nat} {v : Value} {bs : List UInt8} {s : PS} {w : World} (h : PxAt pb xb v bs s w) (least : Int) :
    Calls Tryz.prog 38 #[.pointer (some ⟨pb, 0, none⟩), .int .i64 least] w fun e w' => e = .returned (.int .i64 (s.count bs least).1) ∧ PxAt pb xb v bs (s.count bs least).2 w' ∧ Kept [pb, xb] w w' := by
  have p0 := h.p0
  have hB := bad_is h
  cases hb : s.bad with
  | true =>
    rw [hb] at hB
    have HB := hid_of' (And.intro hB h)
    have HN : Hid (s.count bs least = (0, s)) := by unfold PS.count; rw [hb]; rfl
    clear hB h
    go_enter Tryz.func38, Tryz.ntmps38
    go_wp2_with (go_at_call 34; refine HB.out.1.mono ?_; rintro e w1 ⟨rfl, hz⟩; obtain rfl := hz.symm)
    go_ret
    rw [HN.out]
    exact ⟨rfl, HB.out.2, Kept.refl _ _⟩
  | false =>
    rw [hb] at hB
    obtain ⟨n0, n1, n2, hx⟩ := h.xs
    rw [(PS.good hb).1] at hx
    have hX := (xo_Count hx least 2147483647).mono (fun e w' h => cnt_out hb h)
    have HB := hid_of' (And.intro hB (And.intro h hX))
    clear hB h hX hx
    obtain ⟨z, hz⟩ : ∃ z, z = (s.count bs least).1 := ⟨_, rfl⟩
    rw [← hz] at HB
    have HZ := hid_of' hz
    clear hz
    go_enter Tryz.func38, Tryz.ntmps38
    go_wp2_with (first
      | (go_at_call 34; refine HB.out.1.mono ?_; rintro e w1 ⟨rfl, hz⟩; obtain rfl := hz.symm)
      | (go_at_call 62; refine HB.out.2.2.mono ?_; rintro e w1 ⟨m0, m1, m2, rfl, hx, hk, hw⟩; have HK := hid_of' (And.intro hx (And.intro hk hw)); clear hx hk hw)
      | (refine wpL_stNew rfl 37 _ _ rfl rfl rfl (cs := #[m0, m1, m2]) rfl size_No rfl (by have := HK.out.1.no.one; simpa using this) ?_))
    go_ret
    have hb1 := below_one w1 (.cells #[m0, m1, m2] 37)
    refine ⟨by rw [← HZ.out]; rfl, ?_, ?_⟩
    · have := (HB.out.2.1.next HK.out.2.1 HK.out.1).later hb1
      rw [← HK.out.2.2] at this
      exact this
    · exact (HK.out.2.1.mono (by simp)).trans (.of hb1)

theorem XsAt.keptPx {pb xb pl : Nat} {v n0 n1 n2 : Value} {bs : List UInt8} {st : StO} {a : Addr} {w w' : World} (h : XsAt xb v bs pl st n0 n1 n2 w) (hp : w.cell? ⟨pb, 0, none⟩ = some (.pointer (some a))) (ap : ∀ g o n c, v = .slice (some ⟨g, o, none⟩) n c → 0 < n → g ≠ pb) (hn : pb ≠ xb) (k : Kept [pb] w w') : XsAt xb v bs pl st n0 n1 n2 w' :=
  ⟨⟨h.at_.row.kept k (by simpa using fun e => hn e.symm), h.at_.raw.keptX k (fun g o n c e h0 => by simpa using ap g o n c e h0), h.at_.le, h.at_.lim⟩, h.no.keptX k (h.no.nePx hp), h.ap⟩
theorem PxAt.formed {pb xb : Nat} {v : Value} {bs : List UInt8} {s : PS} {w : World} (h : PxAt pb xb v bs s w) (at_ : Nat) :
    PxAt pb xb v bs { s with wf := some at_ } ((w.setCell ⟨pb, 1, none⟩ (.bool true)).setCell ⟨pb, 2, none⟩ (.int .i64 (at_ : Int))) ∧ Kept [pb] w ((w.setCell ⟨pb, 1, none⟩ (.bool true)).setCell ⟨pb, 2, none⟩ (.int .i64 (at_ : Int))) := by
  have k : Kept [pb] w ((w.setCell ⟨pb, 1, none⟩ (.bool true)).setCell ⟨pb, 2, none⟩ (.int .i64 (at_ : Int))) := ((Kept.refl _ w).set (p := ⟨pb, 1, none⟩) (.inl (by simp)) _).set (p := ⟨pb, 2, none⟩) (.inl (by simp)) _
  obtain ⟨n0, n1, n2, hx⟩ := h.xs
  exact ⟨⟨heap_setCell_at (heap_setCell_at h.row 1 (.bool true)) 2 (.int .i64 (at_ : Int)), ⟨n0, n1, n2, hx.keptPx h.p0 h.ap h.ne k⟩, h.ap⟩, k⟩
set_option maxHeartbeats 1000000 in
theorem form_px {pb xb : Nat} {v : Value} {bs : List UInt8} {s : PS} {w : World} (h : PxAt pb xb v bs s w) (at_ : Nat) (no : Bool) :
    Calls Tryz.prog 36 #[.pointer (some ⟨pb, 0, none⟩), .int .i64 (at_ : Int), .bool no] w fun e w' => e = .returned (.tuple #[]) ∧ PxAt pb xb v bs (s.form at_ no) w' ∧ Kept [pb] w w' := by
  have hB := bad_is h
  cases no with
  | false =>
    have HB := hid_of' h
    clear hB h
    go_enter Tryz.func36, Tryz.ntmps36
    go_wp2
    go_end0
    exact ⟨rfl, HB.out, Kept.refl _ _⟩
  | true =>
    cases hb : s.bad with
    | true =>
      rw [hb] at hB
      have HB := hid_of' (And.intro hB h)
      have HF : Hid (s.form at_ true = s) := by unfold PS.form; rw [hb]; rfl
      clear hB h
      go_enter Tryz.func36, Tryz.ntmps36
      go_wp2_with (go_at_call 34; refine HB.out.1.mono ?_; rintro e w1 ⟨rfl, hz⟩; obtain rfl := hz.symm)
      go_end0
      exact ⟨rfl, by rw [HF.out]; exact HB.out.2, Kept.refl _ _⟩
    | false =>
      rw [hb] at hB
      have p1 := h.row.cell 1
      have p2 := h.row.cell 2
      have f1 : w.frozen? ⟨pb, 1, none⟩ = false := frozenW_of h.row 1
      have f2 : w.frozen? ⟨pb, 2, none⟩ = false := frozenW_of h.row 2
      have q1 : w.cell? ⟨pb, 1, none⟩ = some (.bool s.wf.isSome) := p1
      have q2 : w.cell? ⟨pb, 2, none⟩ = some (.int .i64 ((s.wf.getD 0 : Nat) : Int)) := p2
      have HB := hid_of' (And.intro hB (h.formed at_))
      have HF : Hid (s.form at_ true = { s with wf := some at_ }) := by unfold PS.form; rw [hb]; rfl
      clear hB h p1 p2
      go_enter Tryz.func36, Tryz.ntmps36
      go_wp2_with (go_at_call 34; refine HB.out.1.mono ?_; rintro e w1 ⟨rfl, hz⟩; obtain rfl := hz.symm)
      go_end0
      exact ⟨rfl, by rw [HF.out]; exact HB.out.2.1, HB.out.2.2⟩
end Go.Proofs.YtpkblfhkblllhaaGreatDoor
namespace Go.Proofs.YtpkblfhkblllhaaGreatDoor
open Go.RowKit
set_option maxRecDepth 100000

def PS.byte0 (bs : List UInt8) (s : PS) : Int × PS := match bs.drop s.pl with
  | [] => (0, { s with st := some (⟨#[66, 121, 116, 101]⟩, s.pl, 6) })
  | b :: _ => ((b.toNat : Int), { s with pl := s.pl + 1 })
def PS.byte (bs : List UInt8) (s : PS) (lo hi : Int) : Int × PS :=
  if s.bad then (0, s) else ((s.byte0 bs).1, (s.byte0 bs).2.form s.pl (decide ((s.byte0 bs).1 < lo) || decide (hi < (s.byte0 bs).1)))
theorem byte0_fit (bs : List UInt8) (s : PS) : 0 ≤ (s.byte0 bs).1 ∧ (s.byte0 bs).1 ≤ 255 := by
  unfold PS.byte0
  split
  · exact ⟨Int.le_refl 0, (by decide : (0 : Int) ≤ 255)⟩
  · rename_i b _ _
    have := b.toNat_lt
    dsimp only
    omega
theorem byte_out {xb : Nat} {v : Value} {bs : List UInt8} {s : PS} {w w' : World} {e : Ending} (hb : s.bad = false) (h : XOut xb v bs tp w (resS (.int .u8 0) ⟨#[66, 121, 116, 101]⟩ s.pl ((byteR (bs.drop s.pl)).map fun x => (.int .u8 x.1, x.2)) none) e w') :
    ∃ m0 m1 m2, e = .returned (.tuple #[.int .u8 (s.byte0 bs).1, .agg #[m0, m1, m2]]) ∧ XsAt xb v bs (s.byte0 bs).2.pl (s.byte0 bs).2.st m0 m1 m2 w' ∧ Kept [xb] w w' ∧ (s.byte0 bs).2.wf = s.wf := by
  obtain ⟨m0, m1, m2, h1, h2, h3⟩ := h
  refine ⟨m0, m1, m2, ?_⟩
  unfold PS.byte0
  have hg := (PS.good hb).1
  cases hr : bs.drop s.pl with
  | nil =>
    rw [hr] at h1 h2
    exact ⟨h1, h2, h3, rfl⟩
  | cons b r =>
    rw [hr] at h1 h2
    refine ⟨h1, ?_, h3, rfl⟩
    show XsAt xb v bs (s.pl + 1) s.st m0 m1 m2 w'
    rw [hg]
    exact h2
set_option maxHeartbeats 2000000 in
theorem byte_px {pb xb : Nat} {v : Value} {bs : List UInt8} {s : PS} {w : World} (h : PxAt pb xb v bs s w) (lo hi : Int) :
    Calls Tryz.prog 15 #[.pointer (some ⟨pb, 0, none⟩), .int .i64 lo, .int .i64 hi] w fun e w' => e = .returned (.int .i64 (s.byte bs lo hi).1) ∧ PxAt pb xb v bs (s.byte bs lo hi).2 w' ∧ Kept [pb, xb] w w' := by
  have p0 := h.p0
  have hB := bad_is h
  cases hb : s.bad with
  | true =>
    rw [hb] at hB
    have HB := hid_of' (And.intro hB h)
    have HN : Hid (s.byte bs lo hi = (0, s)) := by unfold PS.byte; rw [hb]; rfl
    clear hB h
    go_enter Tryz.func15, Tryz.ntmps15
    go_wp2_with (go_at_call 34; refine HB.out.1.mono ?_; rintro e w1 ⟨rfl, hz⟩; obtain rfl := hz.symm)
    go_ret
    rw [HN.out]
    exact ⟨rfl, HB.out.2, Kept.refl _ _⟩
  | false =>
    rw [hb] at hB
    obtain ⟨n0, n1, n2, hx⟩ := h.xs
    have x1 : w.cell? ⟨xb, 1, none⟩ = some (.int .i64 (s.pl : Int)) := hx.at_.row.cell 1
    rw [(PS.good hb).1] at hx
    have hX := (xo_Byte hx).mono (fun e w' h => byte_out hb h)
    have HN : Hid (s.byte bs lo hi = ((s.byte0 bs).1, (s.byte0 bs).2.form s.pl (decide ((s.byte0 bs).1 < lo) || decide (hi < (s.byte0 bs).1)))) := by unfold PS.byte; rw [hb]; rfl
    have hfit := byte0_fit bs s
    generalize s.byte0 bs = zs at hX HN hfit
    obtain ⟨z, s1⟩ := zs
    dsimp only at hX hfit
    have HB := hid_of' (And.intro hB (And.intro h hX))
    have hw : IntKind.i64.wrap z = z := by rw [IntKind.wrap_i64]; omega
    have HE : Hid ((s.byte bs lo hi).1 = z) := congrArg Prod.fst HN.out
    clear hB h hX hx hfit
    have key : ∀ no : Bool, ((decide (z < lo) || decide (hi < z)) = no) → ∀ w1 w2 : World, ∀ m0 m1 m2, XsAt xb v bs s1.pl s1.st m0 m1 m2 w1 → Kept [xb] w w1 → s1.wf = s.wf → Calls Tryz.prog 36 #[.pointer (some ⟨pb, 0, none⟩), .int .i64 (s.pl : Int), .bool no] (w1.alloc (.cells #[m0, m1, m2] 37)) (fun e w' => e = .returned (.tuple #[]) ∧ PxAt pb xb v bs (s.byte bs lo hi).2 w' ∧ Kept [pb, xb] w w') := fun no hno w1 _ m0 m1 m2 hx hk hwf => by
      have hb1 := below_one w1 (.cells #[m0, m1, m2] 37)
      have h1 := (HB.out.2.1.next hk hx).later hb1
      rw [← hwf] at h1
      refine (form_px h1 s.pl no).mono ?_
      rintro e w' ⟨rfl, h2, h3⟩
      refine ⟨rfl, ?_, ((hk.mono (by simp)).trans (.of hb1)).trans (h3.mono (by simp))⟩
      rw [HN.out, hno]
      exact h2
    have HK := hid_of' key
    clear key
    by_cases h1 : z < lo
    · have HC := hid_of' (HK.out true (by simp [h1]))
      go_enter Tryz.func15, Tryz.ntmps15
      go_wp2_with (first
        | (go_at_call 34; refine HB.out.1.mono ?_; rintro e w1 ⟨rfl, hz⟩; obtain rfl := hz.symm)
        | (go_at_call 35; refine HB.out.2.2.mono ?_; rintro e w1 ⟨m0, m1, m2, rfl, hx, hk, hwf⟩; have HX := hid_of' (And.intro hx (And.intro hk hwf)); clear hx hk hwf)
        | (refine wpL_stNew rfl 37 _ _ rfl rfl rfl (cs := #[m0, m1, m2]) rfl size_No rfl (by have := HX.out.1.no.one; simpa using this) ?_)
        | (go_at_call 36; refine (HC.out w1 w1 m0 m1 m2 HX.out.1 HX.out.2.1 HX.out.2.2).mono ?_; rintro e w2 ⟨rfl, h8, h9⟩; have HP := hid_of' (And.intro h8 h9); clear h8 h9))
      go_ret
      refine ⟨?_, HP.out⟩
      rw [HE.out]
      rfl
    · by_cases h2 : hi < z
      · have HC := hid_of' (HK.out true (by simp [h2]))
        go_enter Tryz.func15, Tryz.ntmps15
        go_wp2_with (first
          | (go_at_call 34; refine HB.out.1.mono ?_; rintro e w1 ⟨rfl, hz⟩; obtain rfl := hz.symm)
          | (go_at_call 35; refine HB.out.2.2.mono ?_; rintro e w1 ⟨m0, m1, m2, rfl, hx, hk, hwf⟩; have HX := hid_of' (And.intro hx (And.intro hk hwf)); clear hx hk hwf)
          | (refine wpL_stNew rfl 37 _ _ rfl rfl rfl (cs := #[m0, m1, m2]) rfl size_No rfl (by have := HX.out.1.no.one; simpa using this) ?_)
          | (go_at_call 36; refine (HC.out w1 w1 m0 m1 m2 HX.out.1 HX.out.2.1 HX.out.2.2).mono ?_; rintro e w2 ⟨rfl, h8, h9⟩; have HP := hid_of' (And.intro h8 h9); clear h8 h9))
        go_ret
        refine ⟨?_, HP.out⟩
        rw [HE.out]
        rfl
      · have HC := hid_of' (HK.out _ rfl)
        go_enter Tryz.func15, Tryz.ntmps15
        go_wp2_with (first
          | (go_at_call 34; refine HB.out.1.mono ?_; rintro e w1 ⟨rfl, hz⟩; obtain rfl := hz.symm)
          | (go_at_call 35; refine HB.out.2.2.mono ?_; rintro e w1 ⟨m0, m1, m2, rfl, hx, hk, hwf⟩; have HX := hid_of' (And.intro hx (And.intro hk hwf)); clear hx hk hwf)
          | (refine wpL_stNew rfl 37 _ _ rfl rfl rfl (cs := #[m0, m1, m2]) rfl size_No rfl (by have := HX.out.1.no.one; simpa using this) ?_)
          | (go_at_call 36; refine (HC.out w1 w1 m0 m1 m2 HX.out.1 HX.out.2.1 HX.out.2.2).mono ?_; rintro e w2 ⟨rfl, h8, h9⟩; have HP := hid_of' (And.intro h8 h9); clear h8 h9))
        go_ret
        refine ⟨?_, HP.out⟩
        rw [HE.out]
        rfl
end Go.Proofs.YtpkblfhkblllhaaGreatDoor
