
/-
  barrowlaw12.FlattenVotes and FlattenStage answer true.
-/
import Derived.Test.YtfgcljpiidhfpaaDoorFl11
namespace Go.Proofs.YtfgcljpiidhfpaaDoor
open Go.RowKit
set_option maxRecDepth 100000

/-- What Vote and Verdict are asked. -/
def votL (c h : List Int) (r : Rnd) (m : Int) : List Int := c ++ (h ++ (rc r ++ [m]))
theorem sub_left {a b : List Int} {n : Nat} (h : a.length = n) : sub (a ++ b) 0 n = a := by subst h; simp [sub]
theorem sub_right {a b : List Int} {k n : Nat} {x : Nat} (h : a.length = k) : sub (a ++ b) (k + x) n = sub b x n := by
  subst h
  unfold sub
  rw [List.drop_append, List.drop_eq_nil_of_le (by omega), List.nil_append, Nat.add_sub_cancel_left]
set_option maxHeartbeats 2000000 in
theorem votes_all {c h : List Int} (hc : c.length = 8) (hh : h.length = 8) {r : Rnd} (hr : r.Ok) (m : Int) (w : World) :
    Calls Tryd.prog 5 #[.agg (cv (votL c h r m))] w fun e w' => e = .returned (.bool true) ∧ Below w.heap.size w w' := by
  have hl : (votL c h r m).length = 35 := by simp [votL, hc, hh, rc_len hr]
  have r0 := RowAt.news w (cv (votL c h r m)) 53
  have hB := below_one w (.cells (cv (votL c h r m)) 53)
  have i1 := r0.subI 0 8 (by omega)
  have i2 := r0.subI 8 8 (by omega)
  have i3 := r0.subI 16 18 (by omega)
  have e34 : en (votL c h r m) 34 = m := by
    unfold votL
    rw [show 34 = c.length + (h.length + ((rc r).length + 0)) by rw [hc, hh, rc_len hr], en_right, en_right, en_right]; rfl
  have c34 := cv_get (a := votL c h r m) (k := 34) (by omega)
  rw [e34] at c34
  rw [show sub (votL c h r m) 0 8 = c from sub_left hc] at i1
  rw [show sub (votL c h r m) 8 8 = h from (sub_right (x := 0) hc).trans (sub_left hh)] at i2
  rw [show sub (votL c h r m) 16 18 = rc r from (sub_right (x := 8) hc).trans ((sub_right (x := 0) hh).trans (sub_left (rc_len hr)))] at i3
  have hs : (voteR c h != voteR c h) = false := by simp
  have hs1 : voteR c c = 1 := if_pos rfl
  have hs2 : (verdI r m == verdI r m) = true := by simp
  have HC : ∀ X, Hid (Calls Tryd.prog 17 #[.agg (cv c), .agg (cv c)] X fun e w' => e = .returned (.int .i64 1) ∧ Below X.heap.size X w') := fun X => by have := vote_any c c X hc hc; rw [hs1] at this; exact this
  clear hs1
  obtain ⟨V, hV⟩ : ∃ V, votL c h r m = V := ⟨_, rfl⟩
  rw [hV] at r0 i1 i2 i3 c34 hB ⊢
  clear hV e34 hl
  go_enter Tryd.func5, Tryd.ntmps5
  go_upto_region 1 with fail
  refine wp_region_cls (by kernel_rfl) (by kernel_rfl) ?_
  repeat (first | go_big_quiet_skip | (go_big_quiet_want; first | (refine qCk hc _ rfl rfl i1.cls ?_; simp only [Act.put, List.setIfInBounds_toArray, List.set_cons_succ, List.set_cons_zero]; go_big_quiet_on) | (refine qCk hh _ rfl rfl i2.cls ?_; simp only [Act.put, List.setIfInBounds_toArray, List.set_cons_succ, List.set_cons_zero]; go_big_quiet_on) | (go_big_quiet_op; first | go_big_quiet_on | go_big_quiet_call ((first | (go_at_call_of 17 (Value.agg (cv h)); exact cls_of (vote_any c h _ hc hh)) | (go_at_call 17; exact cls_of (HC _).out) | (go_at_call 18; exact cls_of (refVote_any c h _ hc hh)))))))
  refine wpQuiet_nil ?_
  rintro w1 ⟨s1, e1⟩
  have hb1 := wOf_below s1
  rw [← e1] at hb1
  clear e1 s1
  replace r0 := r0.later hb1
  replace i1 := i1.later hb1
  replace i2 := i2.later hb1
  replace i3 := i3.later hb1
  replace hB := bgo hB hb1
  clear hb1
  go_upto_region 3 with fail
  have q34 := r0.cls 34 _ c34
  refine wp_region_cls (by kernel_rfl) (by kernel_rfl) ?_
  repeat (first | go_big_quiet_skip | (go_big_quiet_want; first | (refine qRnd hr _ rfl rfl i3.cls ?_; simp only [Act.put, List.setIfInBounds_toArray, List.set_cons_succ, List.set_cons_zero]; go_big_quiet_on) | (go_big_quiet_op; first | go_big_quiet_on | go_big_quiet_call ((first | (go_at_call 19; exact cls_of (verdict_any r m hr _)) | (go_at_call 20; exact cls_of (refVerdict_any r m hr _)) | (go_at_call 12; exact cls_of (wakes12 _)))))))
  refine wpQuiet_nil ?_
  rintro w1 ⟨s1, e1⟩
  have hb1 := wOf_below s1
  rw [← e1] at hb1
  clear e1 s1
  replace r0 := r0.later hb1
  replace hB := bgo hB hb1
  clear hb1
  go_wp2
  go_ret
  exact ⟨rfl, hB⟩

/-- What Stage is asked. -/
structure Ask where
  mine : Rnd
  their : Rnd
  num : Int
  rep : Int
def Ask.Ok (y : Ask) : Prop := y.mine.Ok ∧ y.their.Ok
def Ask.ints (y : Ask) : List Int := rc y.mine ++ (rc y.their ++ [y.num, y.rep])
theorem Ask.len {y : Ask} (h : y.Ok) : y.ints.length = 38 := by simp [Ask.ints, rc_len h.1, rc_len h.2]
theorem Ask.num36 {y : Ask} (h : y.Ok) : en y.ints 36 = y.num := by
  unfold Ask.ints
  rw [show 36 = (rc y.mine).length + ((rc y.their).length + 0) by rw [rc_len h.1, rc_len h.2], en_right, en_right]; rfl
theorem Ask.rep37 {y : Ask} (h : y.Ok) : en y.ints 37 = y.rep := by
  unfold Ask.ints
  rw [show 37 = (rc y.mine).length + ((rc y.their).length + 1) by rw [rc_len h.1, rc_len h.2], en_right, en_right]; rfl
theorem ask_size {y : Ask} (h : y.Ok) : (Tryd.prog.info? 59).map (·.size) = some (cv y.ints).size := by
  rw [cv_size, Ask.len h]; kernel_rfl
def ask0 : Ask := ⟨rnd0, rnd0, 0, 0⟩
theorem zAsk : (Tryd.prog.info? 59).bind (·.zero) = some (.agg (cv ask0.ints)) := by kernel_rfl
/-- Such rows in memory. -/
def SlAsk (w : World) (v : Value) (l : List Ask) : Prop := (l = [] ∧ ∃ a c, v = .slice a 0 c) ∨ ∃ g o c, v = .slice (some ⟨g, o, none⟩) l.length c ∧ ∀ (k : Nat) (y : Ask), l[k]? = some y → CsIn g (o + k * 38) (cv y.ints) w
theorem SlAsk.form {w : World} {v : Value} {l : List Ask} (h : SlAsk w v l) : ∃ a c, v = .slice a l.length c := by
  rcases h with ⟨rfl, a, c, rfl⟩ | ⟨g, o, c, rfl, _⟩
  · exact ⟨a, c, rfl⟩
  · exact ⟨_, c, rfl⟩
theorem SlAsk.pos {w : World} {v : Value} {l : List Ask} (h : SlAsk w v l) (hp : 0 < l.length) : ∃ g o c, v = .slice (some ⟨g, o, none⟩) l.length c ∧ ∀ (k : Nat) (y : Ask), l[k]? = some y → CsIn g (o + k * 38) (cv y.ints) w := by
  rcases h with ⟨rfl, a, c, rfl⟩ | h
  · exact absurd hp (by simp)
  · exact h
theorem CsIn.below {b off n : Nat} {cs : Array Value} {w w' : World} (h : CsIn b off cs w) (hb : Below n w w') (hn : b < n) : CsIn b off cs w' :=
  ⟨Nat.lt_of_lt_of_le h.1 hb.size, fun j v hv => by rw [hb.cell (p := ⟨b, off + j, none⟩) hn]; exact h.2 j v hv⟩
set_option maxHeartbeats 4000000 in
theorem stage_all {w : World} {v : Value} {l : List Ask} (hl : SlAsk w v l) (hf : ∀ y ∈ l, y.Ok) (hlen : l.length ≤ 9223372036854775807) :
    Calls Tryd.prog 6 #[v] w fun e w' => e = .returned (.bool true) ∧ Below w.heap.size w w' := by
  obtain ⟨a9, c9, rfl⟩ := hl.form
  have H := hid_of' (And.intro hl hf)
  clear hl hf
  obtain ⟨N, hN⟩ : ∃ N, l.length = N := ⟨_, rfl⟩
  have HN := hid_of' hN
  rw [hN] at hlen ⊢
  clear hN
  go_enter Tryd.func6, Tryd.ntmps6
  go_wp2
  go_loopw [3] (fun i wr => ∃ k : Nat, i = .int .i64 (k : Int) ∧ k ≤ N ∧ Below w.heap.size w wr) (fun i _ => N - (intOf i).toNat)
  case atStart => exact ⟨0, rfl, by omega, Below.refl _ _⟩
  case round =>
    rename World => wr
    obtain ⟨k, rfl, hk, hB⟩ := hrel
    by_cases hlt : k < N
    · have hki : (k : Int) < (N : Int) := by omega
      obtain ⟨y, hy⟩ : ∃ y, l[k]? = some y := ⟨_, List.getElem?_eq_getElem (by rw [HN.out]; exact hlt)⟩
      have hyo := H.out.2 y (List.mem_of_getElem? hy)
      obtain ⟨g, o, c2, hv, hcs⟩ := H.out.1.pos (by rw [HN.out]; omega)
      simp only [Value.slice.injEq] at hv
      obtain ⟨rfl, _, rfl⟩ := hv
      have hin0 := hcs k y hy
      have hin := hin0.below hB hin0.1
      have HB := hid_of' hB
      clear hB hcs hy hin0
      go_upto_region 5 with (first | (refine wpL_ld rfl _ _ rfl rfl hin Tryd.underlying59 rfl (ask_size hyo) ?_) | (refine wpL_alloc rfl _ rfl zAsk ?_) | (refine wpL_stRow rfl _ _ _ rfl rfl rfl (RowAt.news wr _ _) (ask_size hyo) (two_sz (by rw [Ask.len hyo]; rfl)) (cv_one _) ?_; go_simp))
      clear hin
      have hB2 := below_row (below_one wr (.cells (cv ask0.ints) 59)) (Nat.le_refl wr.heap.size) (cv y.ints)
      have r2 := (RowAt.news wr (cv ask0.ints) 59).rowI (cv y.ints)
      generalize (wr.alloc (.cells (cv ask0.ints) 59)).setRow wr.heap.size (cv y.ints) = W2 at hB2 r2 ⊢
      have hB := bgo HB.out hB2
      have hs1 := HB.out.size
      obtain ⟨b, hb⟩ : ∃ b, wr.heap.size = b := ⟨_, rfl⟩
      rw [hb] at r2 hs1 ⊢
      clear hb hB2 HB
      have i1 := r2.subI 0 18 (by rw [Ask.len hyo]; omega)
      have i2 := r2.subI 18 18 (by rw [Ask.len hyo]; omega)
      rw [show sub y.ints 0 18 = rc y.mine from sub_left (rc_len hyo.1)] at i1
      rw [show sub y.ints 18 18 = rc y.their from (sub_right (x := 0) (rc_len hyo.1)).trans (sub_left (rc_len hyo.2))] at i2
      have c36 := cv_get (a := y.ints) (k := 36) (by rw [Ask.len hyo]; omega)
      have c37 := cv_get (a := y.ints) (k := 37) (by rw [Ask.len hyo]; omega)
      rw [Ask.num36 hyo] at c36
      rw [Ask.rep37 hyo] at c37
      have q36 := r2.cls 36 _ c36
      have q37 := r2.cls 37 _ c37
      have hin3 := stgR_in y.mine y.their y.num y.rep
      have hn1 : ¬ stgR y.mine y.their y.num y.rep < 0 := by omega
      have hn2 : ¬ 3 < stgR y.mine y.their y.num y.rep := by omega
      have hse : (stgR y.mine y.their y.num y.rep != stgR y.mine y.their y.num y.rep) = false := by simp
      clear hin3
      refine wp_region_cls0 ?_
      repeat (first | go_big_quiet_skip | (go_big_quiet_want; first | (refine qRnd hyo.1 _ rfl rfl i1.cls ?_; simp only [Act.put, List.setIfInBounds_toArray, List.set_cons_succ, List.set_cons_zero]; go_big_quiet_on) | (refine qRnd hyo.2 _ rfl rfl i2.cls ?_; simp only [Act.put, List.setIfInBounds_toArray, List.set_cons_succ, List.set_cons_zero]; go_big_quiet_on) | (go_big_quiet_op; first | go_big_quiet_on | go_big_quiet_call ((go_at_call 21; exact cls_of (stage_any y.mine y.their y.num y.rep hyo.1 hyo.2 _))))))
      refine wpQuiet_nil ?_
      rintro w1 ⟨s1, e1⟩
      have hb1 := wOf_below s1
      rw [← e1] at hb1
      clear e1 s1
      replace r2 := r2.later hb1
      replace i1 := i1.later hb1
      replace i2 := i2.later hb1
      replace hB := bgo hB hb1
      clear hb1
      clear q36 q37
      go_upto_region 6 with fail
      have q36 := r2.cls 36 _ c36
      have q37 := r2.cls 37 _ c37
      refine wp_region_cls0 ?_
      repeat (first | go_big_quiet_skip | (go_big_quiet_want; first | (refine qRnd hyo.1 _ rfl rfl i1.cls ?_; simp only [Act.put, List.setIfInBounds_toArray, List.set_cons_succ, List.set_cons_zero]; go_big_quiet_on) | (refine qRnd hyo.2 _ rfl rfl i2.cls ?_; simp only [Act.put, List.setIfInBounds_toArray, List.set_cons_succ, List.set_cons_zero]; go_big_quiet_on) | (go_big_quiet_op; first | go_big_quiet_on | go_big_quiet_call ((go_at_call 22; exact cls_of (refStage_any y.mine y.their y.num y.rep hyo.1 hyo.2 _))))))
      refine wpQuiet_nil ?_
      rintro w1 ⟨s1, e1⟩
      have hb1 := wOf_below s1
      rw [← e1] at hb1
      clear e1 s1
      replace r2 := r2.later hb1
      replace i1 := i1.later hb1
      replace i2 := i2.later hb1
      replace hB := bgo hB hb1
      clear hb1
      clear q36 q37
      rename World => w6
      go_upto_region 9 with (first | (refine ldRnd hyo.1 rfl _ rfl rfl i1 ?_) | (refine wpL_alloc rfl _ rfl zRnd ?_) | (refine wpL_stRow rfl _ _ _ rfl rfl rfl (RowAt.news w6 _ _) (rnd_size hyo.1) (two_sz (by rw [rc_len hyo.1, rc_len rnd0_ok])) (cv_one _) ?_; go_simp))
      have hB3 := below_row (below_one w6 (.cells (cv (rc rnd0)) 44)) (Nat.le_refl w6.heap.size) (cv (rc y.mine))
      have r3 := (RowAt.news w6 (cv (rc rnd0)) 44).rowI (cv (rc y.mine))
      generalize (w6.alloc (.cells (cv (rc rnd0)) 44)).setRow w6.heap.size (cv (rc y.mine)) = W3 at hB3 r3 ⊢
      replace r2 := r2.later hB3
      replace i2 := i2.later hB3
      have hs6 := hB.size
      replace hB := bgo hB hB3
      obtain ⟨b3, hb3⟩ : ∃ b, w6.heap.size = b := ⟨_, rfl⟩
      have hbl := r2.lt
      have hne : ¬ b = b3 := by rw [← hb3]; have := i1.1; omega
      rw [hb3] at r3 hs6 ⊢
      clear hb3 hB3 i1 hbl
      have c36w := r2.cell 36
      rw [c36] at c36w
      have c0 := r3.int (k := 0) (by rw [rc_len hyo.1]; omega)
      have f0 := r3.frz 0
      have c17 := r3.int (k := 17) (by rw [rc_len hyo.1]; omega)
      have f17 := r3.frz 17
      have ho2 : Rnd.Ok { y.mine with num := y.num } := hyo.1
      have p1 := r3.setI 0 y.num
      rw [rc_setNum] at p1
      have p2 := p1.setI 17 2
      rw [rc_setDec ho2] at p2
      have ho3 : Rnd.Ok ⟨y.num, y.mine.cut, y.mine.vot, 2⟩ := hyo.1
      have q2 := (r2.otherI ⟨b3, 0, none⟩ (.int .i64 y.num) hne).otherI ⟨b3, 17, none⟩ (.int .i64 2) hne
      have hcc := ((Ch.refl (fun k => k = b3) W3).set (p := ⟨b3, 0, none⟩) (.inl rfl) (.int .i64 y.num)).set (p := ⟨b3, 17, none⟩) (.inl rfl) (.int .i64 2)
      have j2 := i2.ch hcc hne
      have hBB := (hB.setCell (p := ⟨b3, 0, none⟩) (by show w.heap.size ≤ b3; omega) (.int .i64 y.num)).setCell (p := ⟨b3, 17, none⟩) (by show w.heap.size ≤ b3; omega) (.int .i64 2)
      have HZ := hid_of' (And.intro p2 (And.intro q2 (And.intro j2 hBB)))
      clear p1 p2 q2 j2 hBB hcc
      go_upto_region 11 with fail
      clear c36w c0 f0 c17 f17 r3 r2 i2 hB
      generalize (W3.setCell ⟨b3, 0, none⟩ (.int .i64 y.num)).setCell ⟨b3, 17, none⟩ (.int .i64 2) = W4 at HZ ⊢
      obtain ⟨r3, r2, i2, hB⟩ := HZ.out
      have q36 := r2.cls 36 _ c36
      have q37 := r2.cls 37 _ c37
      have HD : ∀ X, Hid (Calls Tryd.prog 21 #[.agg (cv (rc ⟨y.num, y.mine.cut, y.mine.vot, 2⟩)), .agg (cv (rc y.their)), .int .i64 y.num, .int .i64 y.rep] X fun e w' => e = .returned (.int .i64 0) ∧ Below X.heap.size X w') := fun X => by
        have := stage_any ⟨y.num, y.mine.cut, y.mine.vot, 2⟩ y.their y.num y.rep ho3 hyo.2 X
        rw [stgR_dec (m := ⟨y.num, y.mine.cut, y.mine.vot, 2⟩) rfl (by decide : (2 : Int) ≠ 0)] at this
        exact this
      refine wp_region_cls0 ?_
      repeat (first | go_big_quiet_skip | (go_big_quiet_want; first | (refine qRnd ho3 _ rfl rfl r3.in.cls ?_; simp only [Act.put, List.setIfInBounds_toArray, List.set_cons_succ, List.set_cons_zero]; go_big_quiet_on) | (refine qRnd hyo.2 _ rfl rfl i2.cls ?_; simp only [Act.put, List.setIfInBounds_toArray, List.set_cons_succ, List.set_cons_zero]; go_big_quiet_on) | (go_big_quiet_op; first | go_big_quiet_on | go_big_quiet_call ((go_at_call 21; exact cls_of (HD _).out)))))
      refine wpQuiet_nil ?_
      rintro w1 ⟨s1, e1⟩
      have hb1 := wOf_below s1
      rw [← e1] at hb1
      clear e1 s1
      replace r2 := r2.later hb1
      replace hB := bgo hB hb1
      clear hb1
      clear q36 q37 c36 c37 r2 HD
      go_wp2
      go_roundw
      case rel => exact ⟨k + 1, by go_num, by omega, hB⟩
      case measure => simp [intOf]; omega
    · have hki : ¬ (k : Int) < (N : Int) := by omega
      go_wp2_with (go_at_call 12; refine (wakes12 wr).mono ?_; rintro e w4 ⟨rfl, hb4⟩)
      go_ret
      exact ⟨rfl, bgo hB hb4⟩
end Go.Proofs.YtfgcljpiidhfpaaDoor
