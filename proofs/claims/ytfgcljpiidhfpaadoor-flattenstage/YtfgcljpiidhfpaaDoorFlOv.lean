
/-
  What Vote, Verdict and Stage are asked, as it came in.
-/
import Derived.Test.YtfgcljpiidhfpaaDoorFl12
import Derived.Test.YtfgcljpiidhfpaaDoorFlOp
namespace Go.Proofs.YtfgcljpiidhfpaaDoor
open Go.ChangeShapes Go.WideShapes Go.ChangeAt Go.RowKit Go.Deep
set_option maxRecDepth 100000

theorem cut_at (x : List Int) (o n : Nat) : x.drop o = sub x o n ++ x.drop (o + n) := by
  unfold sub; rw [← List.drop_drop, List.take_append_drop]
theorem drop_one {x : List Int} {o : Nat} (h : x.length = o + 1) : x.drop o = [en x o] := by
  rw [List.drop_eq_getElem_cons (by omega), List.drop_eq_nil_of_le (by omega)]
  simp [en, List.getD, List.getElem?_eq_getElem (show o < x.length by omega)]
theorem drop_two {x : List Int} {o : Nat} (h : x.length = o + 2) : x.drop o = [en x o, en x (o + 1)] := by
  rw [List.drop_eq_getElem_cons (by omega), List.drop_eq_getElem_cons (by omega), List.drop_eq_nil_of_le (by omega)]
  simp [en, List.getD, List.getElem?_eq_getElem (show o < x.length by omega), List.getElem?_eq_getElem (show o + 1 < x.length by omega)]
theorem votL_of {x : List Int} (h : x.length = 35) : votL (sub x 0 8) (sub x 8 8) (rOf (sub x 16 18)) (en x 34) = x := by
  unfold votL
  rw [rc_rOf (sub_len (by omega)), ← drop_one h, ← cut_at x 16 18, ← cut_at x 8 8, ← cut_at x 0 8]; rfl
/-- What is asked, of ints. -/
def askOf (x : List Int) : Ask := ⟨rOf (sub x 0 18), rOf (sub x 18 18), en x 36, en x 37⟩
theorem askOf_ok {x : List Int} (h : x.length = 38) : (askOf x).Ok := ⟨rOf_ok (sub_len (by omega)), rOf_ok (sub_len (by omega))⟩
theorem askOf_ints {x : List Int} (h : x.length = 38) : (askOf x).ints = x := by
  unfold Ask.ints askOf
  simp only
  rw [rc_rOf (sub_len (by omega)), rc_rOf (sub_len (by omega)), ← drop_two (o := 36) h, ← cut_at x 18 18, ← cut_at x 0 18]; rfl
theorem cellsVoted : Tryd.prog.cellsOf 53 = 35 := by kernel_rfl
theorem cellsAsked : Tryd.prog.cellsOf 59 = 38 := by kernel_rfl
theorem okWide_struct {P : Program} {w : World} {r : Reach} {base : Nat} {t : TypeId} {v : Value} {fs : Array Field} (ht : P.underlying t = some (.struct fs)) (h : Value.okWide P w r base t v) : ∃ cs, v = .agg cs ∧ cs.size = P.cellsOf t := by
  simp only [Value.okWide, ht] at h
  obtain ⟨cs, h1, h2, _⟩ := h
  exact ⟨cs, h1, h2⟩
section
variable {H : Type} {enc : TypeId × Value → H} {W : World} {base : Nat}
theorem pw_voted {cs : List Value} {fuel bs : Nat} {sp : Nat → Bool} {hd : Bool} {x : DataW H × List MemPlace} (hl : cs.length = 35) (h : DataW.trod enc Tryd.prog W bs sp hd fuel 53 cs = some x) : Pw cs := by
  obtain ⟨z0, z1, z2, z3, k', _, _, f0, f1, f2, f3⟩ := Go.Joins.trod_struct4 Tryd.underlying53 h
  simp only [cellsInt, cellsCk, cellsRnd] at f0 f1 f2 f3
  have := Pw.at (o := 0) (pw_ck f0) (Pw.at (pw_ck f1) (Pw.at (pw_rnd (by simp; omega) f2) (Pw.last (by rw [hl]) (pw_int f3))))
  simpa using this
theorem pw_asked {cs : List Value} {fuel bs : Nat} {sp : Nat → Bool} {hd : Bool} {x : DataW H × List MemPlace} (hl : cs.length = 38) (h : DataW.trod enc Tryd.prog W bs sp hd fuel 59 cs = some x) : Pw cs := by
  obtain ⟨z0, z1, z2, z3, k', _, _, f0, f1, f2, f3⟩ := Go.Joins.trod_struct4 Tryd.underlying59 h
  simp only [cellsInt, cellsRnd] at f0 f1 f2 f3
  have := Pw.at (o := 0) (pw_rnd (by simp; omega) f0) (Pw.at (pw_rnd (by simp; omega) f1) (Pw.at (pw_int f2) (Pw.last (by rw [hl]) (pw_int f3))))
  simpa using this
theorem open_voted {v : Value} {d : DataW H} {p : List MemPlace} (hval : Value.okWide Tryd.prog W .any base 53 v) (h : DataW.Trod enc Tryd.prog W 0 (fun _ => true) true 53 v d p) :
    ∃ (c h : List Int) (r : Rnd) (m : Int), v = .agg (cv (votL c h r m)) ∧ c.length = 8 ∧ h.length = 8 ∧ r.Ok := by
  obtain ⟨cs, rfl, hsz⟩ := okWide_struct Tryd.underlying53 hval
  rw [cellsVoted] at hsz
  obtain ⟨fuel, hf⟩ := h
  obtain ⟨x, hx, hfit⟩ := (pw_voted (by simpa [Value.cells] using hsz) hf).ints
  simp only [Value.cells] at hx
  have hl : x.length = 35 := by
    have := congrArg List.length hx
    simp at this
    omega
  refine ⟨_, _, _, en x 34, ?_, sub_len (x := x) (o := 0) (n := 8) (by omega), sub_len (x := x) (o := 8) (n := 8) (by omega), rOf_ok (x := sub x 16 18) (sub_len (by omega))⟩
  rw [votL_of hl, cv, ← hx]
theorem open_asked {v : Value} {d : DataW H} {p : List MemPlace} (hval : Value.okWide Tryd.prog W .any base 57 v) (h : DataW.Trod enc Tryd.prog W 0 (fun _ => true) true 57 v d p) :
    ∃ l : List Ask, SlAsk W v l ∧ (∀ y ∈ l, y.Ok) ∧ l.length ≤ 9223372036854775807 := by
  obtain ⟨L, hL, hx, hlen⟩ := open_slN Tryd.underlying57 cellsAsked (by decide) (fun hl h => pw_asked hl h) hval h
  refine ⟨L.map askOf, ?_, fun y hy => ?_, by simpa using hlen⟩
  · rcases hL with ⟨rfl, a, c, rfl⟩ | ⟨g, o, c, rfl, hc⟩
    · exact .inl ⟨rfl, a, c, rfl⟩
    · refine .inr ⟨g, o, c, by simp, fun k y hk => ?_⟩
      rw [List.getElem?_map] at hk
      cases hq : L[k]? with
      | none => rw [hq] at hk; cases hk
      | some x =>
        rw [hq] at hk
        cases hk
        rw [askOf_ints (hx x (List.mem_of_getElem? hq)).1]
        exact hc k x hq
  · obtain ⟨x, hxm, rfl⟩ := List.mem_map.1 hy
    exact askOf_ok (hx x hxm).1
end
end Go.Proofs.YtfgcljpiidhfpaaDoor
