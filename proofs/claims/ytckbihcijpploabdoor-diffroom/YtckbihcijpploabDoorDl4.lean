
/-
  barrowlaw15.DiffRoom holds of any two numbers.
-/
import Derived.Test.YtckbihcijpploabDoorDl3
namespace Go.Proofs.YtckbihcijpploabDoor
open Go.RowKit Go.Extern.Stop Go.Stop Go.Extern
set_option maxRecDepth 100000

theorem chW_room {a b : ByteArray} (va : Lib.validD a.data.toList = true) (vb : Lib.validD b.data.toList = true) (h0 : 0 < (rn a.data.toList).length) (h : 4194304 / (rn a.data.toList).length < (rn b.data.toList).length) : chW a b = some (-1, 12) := by
  unfold chW
  rw [if_neg (by rw [va]; decide), if_neg (by rw [vb]; decide), if_pos ⟨h0, h⟩]
theorem chW_none {b : ByteArray} (vb : Lib.validD b.data.toList = true) : chW ⟨#[]⟩ b = none := by
  unfold chW
  rw [if_neg (show ¬ Lib.validD (⟨#[]⟩ : ByteArray).data.toList = false by decide), if_neg (by rw [vb]; decide), if_neg]
  intro ⟨h1, _⟩
  exact absurd h1 (by decide)
theorem manyN (w : World) (n : Nat) (hn : n ≤ 1000000) : Calls Tryd.prog 6 #[.int .i64 (n : Int), .int .u8 97] w (fun e w' => e = .returned (.string (rpt n 97)) ∧ Below w.heap.size w w') ∧ Calls Tryd.prog 6 #[.int .i64 (n : Int), .int .u8 98] w (fun e w' => e = .returned (.string (rpt n 98)) ∧ Below w.heap.size w w') := ⟨many_is w n 97 hn, many_is w n 98 hn⟩
/-- Common's refusal, as it is told. -/
def TcR (ad : Nat → Addr) (v : Value) (w : World) : Prop := ∃ u, v = .tuple #[.string .empty, u] ∧ ErrR ad 0 (some (bCommon, -1, 12)) u w
theorem TcR.later {ad : Nat → Addr} {v : Value} {w w' : World} (h : TcR ad v w) (hb : Below w.heap.size w w') : TcR ad v w' := by
  obtain ⟨u, h1, h2⟩ := h
  exact ⟨u, h1, h2.later hb⟩
set_option maxHeartbeats 8000000 in
theorem diffRoom_all {ad : Nat → Addr} {w : World} (L : Laid ad w) (hU : U8 w) (nn ex : Int) (hn : -9223372036854775808 ≤ nn ∧ nn ≤ 9223372036854775807) (he : -9223372036854775808 ≤ ex ∧ ex ≤ 9223372036854775807) :
    Calls Tryd.prog 3 #[.int .i64 nn, .int .i64 ex] w fun e w' => e = .returned (.bool true) ∧ Below w.heap.size w w' := by
  have HE := hid_of' (And.intro L (L.env hU))
  have k1l := wiN_lt (n := nn) (m := 2000) (by omega)
  have k2l := wiN_lt (n := ex) (m := 3) (by omega)
  have HW1 := hid_of' (fun x => wiN_is nn 2000 x (by omega) (by omega) hn)
  have HW2 := hid_of' (fun x => (wiN_is ex 3 x (by omega) (by omega) he).mono (fun e w' h => (⟨h.1, by rw [h.2]; exact Below.refl _ _⟩ : e = .returned (.int .i64 (wiN ex 3 : Int)) ∧ Below x.heap.size x w')))
  generalize wiN nn 2000 = k1 at HW1 k1l
  generalize wiN ex 3 = k2 at HW2 k2l
  rw [show (((2000 : Nat) : Int)) = 2000 from rfl] at HW1
  rw [show (((3 : Nat) : Int)) = 3 from rfl] at HW2
  obtain ⟨X, hXe⟩ : ∃ X : Nat, X = 2049 + k1 := ⟨_, rfl⟩
  obtain ⟨qq, hqe⟩ : ∃ qq : Nat, qq = 4194304 / X := ⟨_, rfl⟩
  have hq : qq ≤ 2047 := by
    rw [hqe]
    have : 4194304 / X ≤ 4194304 / 2049 := Nat.div_le_div_left (by omega) (by omega)
    omega
  obtain ⟨q1, hq1⟩ : ∃ q1 : Nat, q1 = qq + 1 := ⟨_, rfl⟩
  obtain ⟨Y, hYe⟩ : ∃ Y : Nat, Y = q1 + k2 := ⟨_, rfl⟩
  obtain ⟨z, hze⟩ : ∃ z : Nat, z = 4194304 / Y := ⟨_, rfl⟩
  obtain ⟨Z, hZe⟩ : ∃ Z : Nat, Z = z + 1 := ⟨_, rfl⟩
  have hY1 : 0 < Y := by omega
  have hX0 : ¬ X = 0 := by omega
  have hY0 : ¬ Y = 0 := by omega
  have hq2 : 1000 ≤ qq := by
    rw [hqe]
    have : 4194304 / 4049 ≤ 4194304 / X := Nat.div_le_div_left (by omega) (by omega)
    omega
  have hz : z ≤ 4194304 / 1000 := by
    rw [hze]
    exact Nat.div_le_div_left (by omega) (by omega)
  have HMxa := hid_of' (fun x => (manyN x X (by omega)).1)
  have HMxb := hid_of' (fun x => (manyN x X (by omega)).2)
  have HMya := hid_of' (fun x => (manyN x Y (by omega)).1)
  have HMyb := hid_of' (fun x => (manyN x Y (by omega)).2)
  have HMzb := hid_of' (fun x => (manyN x Z (by omega)).2)
  have aXa := rpt_asc (n := X) (c := 97) (by decide)
  have aXb := rpt_asc (n := X) (c := 98) (by decide)
  have aYa := rpt_asc (n := Y) (c := 97) (by decide)
  have aYb := rpt_asc (n := Y) (c := 98) (by decide)
  have aZb := rpt_asc (n := Z) (c := 98) (by decide)
  have zXa := rpt_size X 97
  have zXb := rpt_size X 98
  have zYa := rpt_size Y 97
  have zYb := rpt_size Y 98
  have zZb := rpt_size Z 98
  have w1 : chW (rpt X 97) (rpt Y 98) = some (-1, 12) := chW_room aXa.2 aYb.2 (by rw [aXa.1]; omega) (by rw [aXa.1, aYb.1]; omega)
  have w2 : chW (rpt Y 97) (rpt Z 98) = some (-1, 12) := chW_room aYa.2 aZb.2 (by rw [aYa.1]; omega) (by rw [aYa.1, aZb.1]; omega)
  have HD := hid_of' (fun (x : World) (hx : Below w.heap.size w x) => dist_no (HE.out.2.later hx) (rpt X 97) (rpt Y 98) (by omega) (by omega) w1)
  have HT := hid_of' (fun (x : World) (hx : Below w.heap.size w x) => edits_no (HE.out.2.later hx) (rpt X 97) (rpt Y 98) (by omega) (by omega) w1)
  have HC := hid_of' (fun (x : World) (hx : Below w.heap.size w x) => common_no (HE.out.2.later hx) (rpt Y 97) (rpt Z 98) (by omega) (by omega) w2)
  have HO := hid_of' (fun (x : World) (hx : Below w.heap.size w x) => dist_ok (HE.out.2.later hx) ⟨#[]⟩ (rpt X 98) (by decide) (by omega) (chW_none aXb.2))
  rw [show rn (⟨#[]⟩ : ByteArray).data.toList = [] from rfl, ds_nil, aXb.1] at HO
  have hdv := divK X
  have hdz := divK Y
  rw [← hqe] at hdv
  rw [← hze] at hdz
  have ew1 : IntKind.i64.wrap ((qq : Int) + 1) = (q1 : Int) := wrapK hq1 (by omega)
  have ew3 : IntKind.i64.wrap ((z : Int) + 1) = (Z : Int) := wrapK hZe (by omega)
  have ew2 : IntKind.i64.wrap ((q1 : Int) + (k2 : Int)) = (Y : Int) := by rw [IntKind.wrap_i64]; omega
  have HA := hid_of' (And.intro hdv (And.intro hdz (And.intro ew1 (And.intro ew2 ew3))))
  have HX := hid_of' hXe
  generalize rpt X 97 = tXa at *
  generalize rpt X 98 = tXb at *
  generalize rpt Y 97 = tYa at *
  generalize rpt Y 98 = tYb at *
  generalize rpt Z 98 = tZb at *
  clear L hU hn he hqe hq1 hYe hze hZe hXe aXa aXb aYa aYb aZb zXa zXb zYa zYb zZb w1 w2 hdv hdz ew1 ew2 ew3
  go_enter Tryd.func3, Tryd.ntmps3
  go_upto_region 2 with (go_at_call 4; (with_reducible refine (HW1.out _).mono ?_); rintro e w9 ⟨rfl, h0⟩; obtain rfl := h0.symm)
  rw [show (2049 : Int) + (k1 : Int) = (X : Int) by have := HX.out; omega]
  obtain ⟨hdv, hdz, ew1, ew2, ew3⟩ := HA.out
  refine wp_region_tail 6 (by kernel_rfl) (fun _ => none) (by kernel_rfl) (by kernel_rfl) (by decide) (fun i v x => match i with
    | 0 => v = .int .i64 (X : Int)
    | 1 => v = .int .i64 (qq : Int)
    | 2 => v = .int .i64 (q1 : Int)
    | 3 => v = .int .i64 ex
    | 4 => v = .int .i64 (k2 : Int)
    | 5 => v = .int .i64 (Y : Int)
    | _ => True) (fun _ => false) (fun _ _ _ _ h => by cases h) ?_ ?_ ?_
  · intro i v x x' hR hb
    match i, hR with
    | 0, h => exact h
    | 1, h => exact h
    | 2, h => exact h
    | 3, h => exact h
    | 4, h => exact h
    | 5, h => exact h
    | m + 6, h => exact h
  · intro i o hi ho q x vals hX hdep hoth
    have t5 : q.tmps[5]? = some (.int .i64 (X : Int)) := by rw [hoth 5 (by kernel_rfl)]; rfl
    have t1 : q.tmps[1]? = some (.int .i64 ex) := by rw [hoth 1 (by kernel_rfl)]; rfl
    match i, hi, ho with
    | 0, _, ho =>
      simp only [List.getElem?_cons_zero, Option.some.injEq] at ho
      subst ho
      unfold Oper.wp
      simp [execOp, go_sem, t5]
      exact came _ rfl (Below.refl _ _) rfl (fun h => absurd h (by decide))
    | 1, _, ho =>
      simp only [List.getElem?_cons_succ, List.getElem?_cons_zero, Option.some.injEq] at ho
      subst ho
      obtain ⟨u0, e0⟩ := hdep ⟨0, .data⟩ (by simp) rfl _ 18 rfl rfl
      rw [show vals 0 = .int .i64 (X : Int) from e0] at u0
      unfold Oper.wp
      simp [execOp, go_sem, u0, hX0, hdv]
      exact came _ rfl (Below.refl _ _) rfl (fun h => absurd h (by decide))
    | 2, _, ho =>
      simp only [List.getElem?_cons_succ, List.getElem?_cons_zero, Option.some.injEq] at ho
      subst ho
      obtain ⟨u1, e1⟩ := hdep ⟨1, .data⟩ (by simp) rfl _ 19 rfl rfl
      rw [show vals 1 = .int .i64 (qq : Int) from e1] at u1
      unfold Oper.wp
      simp [execOp, go_sem, u1, ew1]
      exact came _ rfl (Below.refl _ _) rfl (fun h => absurd h (by decide))
    | 3, _, ho =>
      simp only [List.getElem?_cons_succ, List.getElem?_cons_zero, Option.some.injEq] at ho
      subst ho
      unfold Oper.wp
      simp [execOp, go_sem, t1]
      exact came _ rfl (Below.refl _ _) rfl (fun h => absurd h (by decide))
    | 4, _, ho =>
      simp only [List.getElem?_cons_succ, List.getElem?_cons_zero, Option.some.injEq] at ho
      subst ho
      obtain ⟨u3, e3⟩ := hdep ⟨3, .data⟩ (by simp) rfl _ 21 rfl rfl
      rw [show vals 3 = .int .i64 ex from e3] at u3
      unfold Oper.wp
      simp [go_sem, u3]
      refine (HW2.out x).mono ?_
      rintro r x1 ⟨rfl, hb1⟩
      exact came _ rfl hb1 rfl (fun h => absurd h (by decide))
    | 5, _, ho =>
      simp only [List.getElem?_cons_succ, List.getElem?_cons_zero, Option.some.injEq] at ho
      subst ho
      obtain ⟨u2, e2⟩ := hdep ⟨2, .data⟩ (by simp) rfl _ 20 rfl rfl
      rw [show vals 2 = .int .i64 (q1 : Int) from e2] at u2
      obtain ⟨u4, e4⟩ := hdep ⟨4, .data⟩ (by simp) rfl _ 22 rfl rfl
      rw [show vals 4 = .int .i64 (k2 : Int) from e4] at u4
      unfold Oper.wp
      simp [execOp, go_sem, u2, u4, ew2]
      exact came _ rfl (Below.refl _ _) rfl (fun h => absurd h (by decide))
    | m + 6, hi, _ => exact absurd hi (by omega)
  · intro vals W1 hX hR _
    have f0 : vals 0 = .int .i64 (X : Int) := hR 0 (by decide)
    have f1 : vals 1 = .int .i64 (qq : Int) := hR 1 (by decide)
    have f2 : vals 2 = .int .i64 (q1 : Int) := hR 2 (by decide)
    have f3 : vals 3 = .int .i64 ex := hR 3 (by decide)
    have f4 : vals 4 = .int .i64 (k2 : Int) := hR 4 (by decide)
    have f5 : vals 5 = .int .i64 (Y : Int) := hR 5 (by decide)
    simp only [List.drop, List.take, putAll, List.setIfInBounds_toArray, List.set_cons_succ, List.set_cons_zero, f0, f1, f2, f3, f4, f5]
    clear f0 f1 f2 f3 f4 f5 hR
    have HB1 := hid_of' hX
    clear hX hdv hdz ew1 ew2 ew3
    go_upto_region 4 with (first
      | (go_at_call 6; first
          | ((with_reducible refine (HMxa.out _).mono ?_); rintro e x1 ⟨rfl, p1⟩; have HP1 := hid_of' (bgo HB1.out p1); clear p1)
          | ((with_reducible refine (HMyb.out _).mono ?_); rintro e x2 ⟨rfl, p2⟩; have HP2 := hid_of' (bgo HP1.out p2); clear p2))
      | (go_at_call 5; (with_reducible refine (HD.out _ HP2.out).mono ?_); rintro e x3 ⟨v3, rfl, ⟨b3, rfl, m3, r3, t3⟩, p3⟩; have HR3 := hid_of' (And.intro (And.intro m3 (And.intro r3 t3)) (bgo HP2.out p3)); clear p3 m3 r3 t3))
    go_upto_region 5 with (first
      | (go_at_call 6; first
          | ((with_reducible refine (HMxa.out _).mono ?_); rintro e x4 ⟨rfl, p4⟩; have HP4 := hid_of' p4; clear p4)
          | ((with_reducible refine (HMyb.out _).mono ?_); rintro e x5 ⟨rfl, p5⟩; have HP5 := hid_of' (bgo HP4.out p5); clear p5))
      | (go_at_call 7; (with_reducible refine (HT.out _ (bgo HR3.out.2 HP5.out)).mono ?_); rintro e x6 ⟨v6, rfl, ⟨b6, rfl, m6, r6, t6⟩, p6⟩; have HR6 := hid_of' (And.intro (And.intro m6 (And.intro r6 t6)) (bgo HP5.out p6)); clear p6 m6 r6 t6))
    obtain ⟨hdv, hdz, ew1, ew2, ew3⟩ := HA.out
    refine wp_region_tail 11 (by kernel_rfl) (fun _ => none) (by kernel_rfl) (by kernel_rfl) (by decide) (fun i v x => match i with
      | 0 => v = .int .i64 (Y : Int)
      | 1 => v = .string tYa
      | 2 => v = .int .i64 (Y : Int)
      | 3 => v = .int .i64 (z : Int)
      | 4 => v = .int .i64 (Z : Int)
      | 5 => v = .string tZb
      | 6 => TcR ad v x
      | 7 => TcR ad v x
      | 8 => v = .string .empty
      | 9 => ErrR ad 0 (some (bCommon, -1, 12)) v x
      | 10 => v = .string .empty
      | _ => True) (fun _ => false) (fun _ _ _ _ h => by cases h) ?_ ?_ ?_
    · intro i v x x' hR hb
      match i, hR with
      | 0, h => exact h
      | 1, h => exact h
      | 2, h => exact h
      | 3, h => exact h
      | 4, h => exact h
      | 5, h => exact h
      | 6, h => exact h.later hb
      | 7, h => exact h.later hb
      | 8, h => exact h
      | 9, h => exact ErrR.later h hb
      | 10, h => exact h
      | m + 11, h => exact h
    · intro i o hi ho q x vals hX hdep hoth
      have t6 : q.tmps[6]? = some (.int .i64 (Y : Int)) := by rw [hoth 6 (by kernel_rfl)]; rfl
      match i, hi, ho with
      | 0, _, ho =>
        simp only [List.getElem?_cons_zero, Option.some.injEq] at ho
        subst ho
        unfold Oper.wp
        simp [execOp, go_sem, t6]
        exact came _ rfl (Below.refl _ _) rfl (fun h => absurd h (by decide))
      | 1, _, ho =>
        simp only [List.getElem?_cons_succ, List.getElem?_cons_zero, Option.some.injEq] at ho
        subst ho
        obtain ⟨u0, e0⟩ := hdep ⟨0, .data⟩ (by simp) rfl _ 41 rfl rfl
        rw [show vals 0 = .int .i64 (Y : Int) from e0] at u0
        unfold Oper.wp
        simp [go_sem, u0]
        refine (HMya.out x).mono ?_
        rintro r x1 ⟨rfl, hb1⟩
        exact came _ rfl hb1 rfl (fun h => absurd h (by decide))
      | 2, _, ho =>
        simp only [List.getElem?_cons_succ, List.getElem?_cons_zero, Option.some.injEq] at ho
        subst ho
        unfold Oper.wp
        simp [execOp, go_sem, t6]
        exact came _ rfl (Below.refl _ _) rfl (fun h => absurd h (by decide))
      | 3, _, ho =>
        simp only [List.getElem?_cons_succ, List.getElem?_cons_zero, Option.some.injEq] at ho
        subst ho
        obtain ⟨u2, e2⟩ := hdep ⟨2, .data⟩ (by simp) rfl _ 43 rfl rfl
        rw [show vals 2 = .int .i64 (Y : Int) from e2] at u2
        unfold Oper.wp
        simp [execOp, go_sem, u2, hY0, hdz]
        exact came _ rfl (Below.refl _ _) rfl (fun h => absurd h (by decide))
      | 4, _, ho =>
        simp only [List.getElem?_cons_succ, List.getElem?_cons_zero, Option.some.injEq] at ho
        subst ho
        obtain ⟨u3, e3⟩ := hdep ⟨3, .data⟩ (by simp) rfl _ 44 rfl rfl
        rw [show vals 3 = .int .i64 (z : Int) from e3] at u3
        unfold Oper.wp
        simp [execOp, go_sem, u3, ew3]
        exact came _ rfl (Below.refl _ _) rfl (fun h => absurd h (by decide))
      | 5, _, ho =>
        simp only [List.getElem?_cons_succ, List.getElem?_cons_zero, Option.some.injEq] at ho
        subst ho
        obtain ⟨u4, e4⟩ := hdep ⟨4, .data⟩ (by simp) rfl _ 45 rfl rfl
        rw [show vals 4 = .int .i64 (Z : Int) from e4] at u4
        unfold Oper.wp
        simp [go_sem, u4]
        refine (HMzb.out x).mono ?_
        rintro r x1 ⟨rfl, hb1⟩
        exact came _ rfl hb1 rfl (fun h => absurd h (by decide))
      | 6, _, ho =>
        simp only [List.getElem?_cons_succ, List.getElem?_cons_zero, Option.some.injEq] at ho
        subst ho
        obtain ⟨u1, e1⟩ := hdep ⟨1, .data⟩ (by simp) rfl _ 42 rfl rfl
        rw [show vals 1 = .string tYa from e1] at u1
        obtain ⟨u5, e5⟩ := hdep ⟨5, .data⟩ (by simp) rfl _ 46 rfl rfl
        rw [show vals 5 = .string tZb from e5] at u5
        unfold Oper.wp
        simp [go_sem, u1, u5]
        refine (HC.out x (bgo (bgo HR3.out.2 HR6.out.2) hX)).mono ?_
        rintro r x1 ⟨v8, rfl, he8, hb1⟩
        exact came _ rfl hb1 ⟨v8, rfl, he8.mono (Nat.zero_le _)⟩ (fun h => absurd h (by decide))
      | 7, _, ho =>
        simp only [List.getElem?_cons_succ, List.getElem?_cons_zero, Option.some.injEq] at ho
        subst ho
        obtain ⟨u6, e6⟩ := hdep ⟨6, .data⟩ (by simp) rfl _ 47 rfl rfl
        unfold Oper.wp
        simp [execOp, go_sem, u6]
        exact came _ rfl (Below.refl _ _) e6 (fun h => absurd h (by decide))
      | 8, _, ho =>
        simp only [List.getElem?_cons_succ, List.getElem?_cons_zero, Option.some.injEq] at ho
        subst ho
        obtain ⟨u7, e7⟩ := hdep ⟨7, .data⟩ (by simp) rfl _ 40 rfl rfl
        obtain ⟨u9, h1, h2⟩ : TcR ad (vals 7) x := e7
        rw [h1] at u7
        unfold Oper.wp
        simp [execOp, go_sem, u7]
        exact came _ rfl (Below.refl _ _) rfl (fun h => absurd h (by decide))
      | 9, _, ho =>
        simp only [List.getElem?_cons_succ, List.getElem?_cons_zero, Option.some.injEq] at ho
        subst ho
        obtain ⟨u7, e7⟩ := hdep ⟨7, .data⟩ (by simp) rfl _ 40 rfl rfl
        obtain ⟨u9, h1, h2⟩ : TcR ad (vals 7) x := e7
        rw [h1] at u7
        unfold Oper.wp
        simp [execOp, go_sem, u7]
        exact came _ rfl (Below.refl _ _) h2 (fun h => absurd h (by decide))
      | 10, _, ho =>
        simp only [List.getElem?_cons_succ, List.getElem?_cons_zero, Option.some.injEq] at ho
        subst ho
        obtain ⟨u8, e8⟩ := hdep ⟨8, .data⟩ (by simp) rfl _ 48 rfl rfl
        rw [show vals 8 = .string .empty from e8] at u8
        unfold Oper.wp
        simp [execOp, go_sem, u8]
        exact came _ rfl (Below.refl _ _) rfl (fun h => absurd h (by decide))
      | m + 11, hi, _ => exact absurd hi (by omega)
    · intro vals W7 hX hR _
      obtain ⟨v8, f6, he8⟩ : TcR ad (vals 6) W7 := hR 6 (by decide)
      obtain ⟨v8', f7, he8'⟩ : TcR ad (vals 7) W7 := hR 7 (by decide)
      obtain ⟨b8, f9, m8, r8, t8⟩ : ErrR ad 0 (some (bCommon, -1, 12)) (vals 9) W7 := hR 9 (by decide)
      have f8 : vals 8 = .string .empty := hR 8 (by decide)
      have f10 : vals 10 = .string .empty := hR 10 (by decide)
      have f0 : vals 0 = .int .i64 (Y : Int) := hR 0 (by decide)
      have f1 : vals 1 = .string tYa := hR 1 (by decide)
      have f2 : vals 2 = .int .i64 (Y : Int) := hR 2 (by decide)
      have f3 : vals 3 = .int .i64 (z : Int) := hR 3 (by decide)
      have f4 : vals 4 = .int .i64 (Z : Int) := hR 4 (by decide)
      have f5 : vals 5 = .string tZb := hR 5 (by decide)
      simp only [List.drop, List.take, putAll, List.setIfInBounds_toArray, List.set_cons_succ, List.set_cons_zero, f0, f1, f2, f3, f4, f5, f6, f7, f8, f9, f10]
      clear f0 f1 f2 f3 f4 f5 f6 f7 f8 f9 f10 hR
      have HR8 := hid_of' (And.intro (And.intro m8 (And.intro r8 t8)) hX)
      clear he8 he8' m8 r8 t8
      clear hX hdv hdz ew1 ew2 ew3
      go_upto_region 6 with fail
      go_upto_region 7 with (first
        | (go_at_call 6; (with_reducible refine (HMxb.out _).mono ?_); rintro e x9 ⟨rfl, p9⟩; have HP9 := hid_of' p9; clear p9)
        | (go_at_call 5; (with_reducible refine (HO.out _ (bgo (bgo (bgo HR3.out.2 HR6.out.2) HR8.out.2) HP9.out)).mono ?_); rintro e y1 ⟨rfl, p10⟩; have HP10 := hid_of' (bgo HP9.out p10); clear p10))
      have HL3 := hid_of' (bgo (bgo HR6.out.2 HR8.out.2) HP10.out)
      have HL6 := hid_of' (bgo HR8.out.2 HP10.out)
      have HLw := hid_of' (bgo HR3.out.2 HL3.out)
      have HS3 := hid_of' (fun x => say_is bDist (-1) 12 x)
      have HS6 := hid_of' (fun x => say_is bEdits (-1) 12 x)
      have HS8 := hid_of' (fun x => say_is bCommon (-1) 12 x)
      rw [show (((12 : Nat) : Int) + 1) = 13 from rfl] at HS3 HS6 HS8
      have HF3 := hid_of' (fun (x : World) (hx : Below y1.heap.size y1 x) (M : Nat) (u : Value) (hu : NoR M (some (bDist, -1, 12)) u x) => refused_is (HE.out.1.below (bgo HLw.out hx)) (o := some (bDist, -1, 12)) (M := w.heap.size) (ErrR.later (o := some (bDist, -1, 12)) ⟨b3, rfl, by have := HR3.out.1.1; have := HP2.out.size; omega, HR3.out.1.2.1, HR3.out.1.2.2⟩ (bgo HL3.out hx)) hu)
      have HF6 := hid_of' (fun (x : World) (hx : Below y1.heap.size y1 x) (M : Nat) (u : Value) (hu : NoR M (some (bEdits, -1, 12)) u x) => refused_is (HE.out.1.below (bgo HLw.out hx)) (o := some (bEdits, -1, 12)) (M := 0) (ErrR.later (o := some (bEdits, -1, 12)) ⟨b6, rfl, Nat.zero_le _, HR6.out.1.2.1, HR6.out.1.2.2⟩ (bgo HL6.out hx)) hu)
      have HF8 := hid_of' (fun (x : World) (hx : Below y1.heap.size y1 x) (M : Nat) (u : Value) (hu : NoR M (some (bCommon, -1, 12)) u x) => refused_is (HE.out.1.below (bgo HLw.out hx)) (o := some (bCommon, -1, 12)) (M := 0) (ErrR.later (o := some (bCommon, -1, 12)) ⟨b8, rfl, Nat.zero_le _, HR8.out.1.2.1, HR8.out.1.2.2⟩ (bgo HP10.out hx)) hu)
      have HZ := hid_of' (fun (x : World) (hx : Below w.heap.size w x) => wakes_is (HE.out.2.later hx))
      go_wp2_with (first
        | (go_at_call 10; first
            | (refine (HS3.out _).mono ?_; rintro e s1 ⟨u1, rfl, n1, g1⟩; have HN1 := hid_of' (And.intro n1 g1); clear n1 g1 HS3)
            | (refine (HS6.out _).mono ?_; rintro e s3 ⟨u3, rfl, n3, g3⟩; have HN3 := hid_of' (And.intro n3 (bgo HN2.out g3)); clear n3 g3 HS6)
            | (refine (HS8.out _).mono ?_; rintro e s5 ⟨u5, rfl, n5, g5⟩; have HN5 := hid_of' (And.intro n5 (bgo HN4.out g5)); clear n5 g5 HS8))
        | (go_at_call 9; first
            | ((with_reducible refine (HF3.out _ HN1.out.2 _ _ HN1.out.1).mono ?_); rintro e s2 ⟨rfl, g2⟩; have HN2 := hid_of' (bgo HN1.out.2 g2); clear g2 HF3)
            | ((with_reducible refine (HF6.out _ HN3.out.2 _ _ HN3.out.1).mono ?_); rintro e s4 ⟨rfl, g4⟩; have HN4 := hid_of' (bgo HN3.out.2 g4); clear g4 HF6)
            | ((with_reducible refine (HF8.out _ HN5.out.2 _ _ HN5.out.1).mono ?_); rintro e s6 ⟨rfl, g6⟩; have HN6 := hid_of' (bgo HN5.out.2 g6); clear g6 HF8))
        | (go_at_call 11; (with_reducible refine (HZ.out _ (bgo HLw.out HN6.out)).mono ?_); rintro e s7 ⟨rfl, g7⟩))
      go_ret
      exact ⟨rfl, bgo (bgo HLw.out HN6.out) g7⟩
end Go.Proofs.YtckbihcijpploabDoor
