
/-
  Rounds of flatten: no program, plain lists.
-/
import Derived.Test.YtfgcljpiidhfpaaDoorCkPure
namespace Go.Proofs.YtfgcljpiidhfpaaDoor

/-- A round. -/
structure Rnd where
  num : Int
  cut : List Int
  vot : List Int
  dec : Int
deriving DecidableEq
def Rnd.Ok (r : Rnd) : Prop := r.cut.length = 8 ∧ r.vot.length = 8
/-- Two rounds of one coordinator, joined. -/
def joinR (x y : Rnd) : Rnd := if x.num < y.num then y else if y.num = x.num then ⟨x.num, mrg x.cut y.cut, mrg x.vot y.vot, mx x.dec y.dec⟩ else x
theorem mx_comm (a b : Int) : mx a b = mx b a := by unfold mx; split <;> split <;> omega
theorem mx_assoc (a b c : Int) : mx (mx a b) c = mx a (mx b c) := by unfold mx; repeat' split <;> first | omega | skip
theorem mx_self (a : Int) : mx a a = a := by unfold mx; split <;> rfl
theorem mx_left (a b : Int) : mx (mx a b) a = mx a b := by unfold mx; repeat' split <;> first | omega | skip
theorem mrg_comm {a b : List Int} (ha : a.length = 8) (hb : b.length = 8) : mrg a b = mrg b a :=
  ck_ext (mrg_len ha hb) (mrg_len hb ha) fun k hk => by rw [mrg_get ha hb hk, mrg_get hb ha hk, mx_comm]
theorem mrg_assoc {a b c : List Int} (ha : a.length = 8) (hb : b.length = 8) (hc : c.length = 8) : mrg (mrg a b) c = mrg a (mrg b c) :=
  ck_ext (mrg_len (mrg_len ha hb) hc) (mrg_len ha (mrg_len hb hc)) fun k hk => by rw [mrg_get (mrg_len ha hb) hc hk, mrg_get ha hb hk, mrg_get ha (mrg_len hb hc) hk, mrg_get hb hc hk, mx_assoc]
theorem mrg_self {a : List Int} (ha : a.length = 8) : mrg a a = a := ck_ext (mrg_len ha ha) ha fun k hk => by rw [mrg_get ha ha hk, mx_self]
theorem joinR_ok {x y : Rnd} (hx : x.Ok) (hy : y.Ok) : (joinR x y).Ok := by
  unfold joinR
  split
  · exact hy
  · split
    · exact ⟨mrg_len hx.1 hy.1, mrg_len hx.2 hy.2⟩
    · exact hx
theorem joinR_gt {x y : Rnd} (h : x.num < y.num) : joinR x y = y := if_pos h
theorem joinR_lt {x y : Rnd} (h : y.num < x.num) : joinR x y = x := by unfold joinR; rw [if_neg (by omega), if_neg (by omega)]
theorem joinR_eq {x y : Rnd} (h : y.num = x.num) : joinR x y = ⟨x.num, mrg x.cut y.cut, mrg x.vot y.vot, mx x.dec y.dec⟩ := by unfold joinR; rw [if_neg (by omega), if_pos h]
theorem joinR_num (x y : Rnd) : (joinR x y).num = mx x.num y.num := by
  rcases Int.lt_trichotomy x.num y.num with h | h | h
  · rw [joinR_gt h]; unfold mx; rw [if_pos (by omega)]
  · rw [joinR_eq h.symm]; show x.num = mx x.num y.num; unfold mx; rw [if_neg (by omega)]
  · rw [joinR_lt h]; unfold mx; rw [if_neg (by omega)]
theorem joinR_comm {x y : Rnd} (hx : x.Ok) (hy : y.Ok) : joinR x y = joinR y x := by
  rcases Int.lt_trichotomy x.num y.num with h | h | h
  · rw [joinR_gt h, joinR_lt h]
  · rw [joinR_eq h.symm, joinR_eq h, h, mrg_comm hx.1 hy.1, mrg_comm hx.2 hy.2, mx_comm]
  · rw [joinR_lt h, joinR_gt h]
theorem joinR_self {x : Rnd} (hx : x.Ok) : joinR x x = x := by rw [joinR_eq rfl, mrg_self hx.1, mrg_self hx.2, mx_self]
theorem joinR_assoc {x y z : Rnd} (hx : x.Ok) (hy : y.Ok) (hz : z.Ok) : joinR (joinR x y) z = joinR x (joinR y z) := by
  rcases Int.lt_trichotomy x.num y.num with h | h | h <;> rcases Int.lt_trichotomy y.num z.num with k | k | k
  · rw [joinR_gt h, joinR_gt k, joinR_gt (show x.num < z.num by omega)]
  · rw [joinR_gt h, joinR_eq k.symm, joinR_gt (x := x) (y := ⟨y.num, mrg y.cut z.cut, mrg y.vot z.vot, mx y.dec z.dec⟩) h]
  · rw [joinR_gt h, joinR_lt k, joinR_gt h]
  · rw [joinR_eq h.symm, joinR_gt k, joinR_gt (x := ⟨x.num, mrg x.cut y.cut, mrg x.vot y.vot, mx x.dec y.dec⟩) (y := z) (show x.num < z.num by omega), joinR_gt (show x.num < z.num by omega)]
  · rw [joinR_eq h.symm, joinR_eq k.symm, joinR_eq (x := ⟨x.num, mrg x.cut y.cut, mrg x.vot y.vot, mx x.dec y.dec⟩) (y := z) (show z.num = x.num by omega), joinR_eq (x := x) (y := ⟨y.num, mrg y.cut z.cut, mrg y.vot z.vot, mx y.dec z.dec⟩) h.symm, mrg_assoc hx.1 hy.1 hz.1, mrg_assoc hx.2 hy.2 hz.2, mx_assoc]
  · rw [joinR_eq h.symm, joinR_lt k, joinR_lt (x := ⟨x.num, mrg x.cut y.cut, mrg x.vot y.vot, mx x.dec y.dec⟩) (y := z) (show z.num < x.num by omega), joinR_eq h.symm]
  · rw [joinR_lt h]
    rcases Int.lt_trichotomy x.num z.num with j | j | j
    · rw [joinR_gt k]
    · rw [joinR_gt k]
    · rw [joinR_gt k]
  · rw [joinR_lt h, joinR_eq k.symm, joinR_lt (show z.num < x.num by omega), joinR_lt (x := x) (y := ⟨y.num, mrg y.cut z.cut, mrg y.vot z.vot, mx y.dec z.dec⟩) h]
  · rw [joinR_lt h, joinR_lt k, joinR_lt (show z.num < x.num by omega), joinR_lt h]
/-- Who has joined one joins nothing new by it. -/
theorem joinR_in {x y : Rnd} (hx : x.Ok) (hy : y.Ok) : joinR (joinR x y) y = joinR x y := by rw [joinR_assoc hx hy hy, joinR_self hy]
theorem joinR_in' {x y : Rnd} (hx : x.Ok) (hy : y.Ok) : joinR (joinR x y) x = joinR x y := by rw [joinR_comm hx hy, joinR_in hy hx]

/-- Rounds by their coordinators. -/
def joinL (a b : List Rnd) : List Rnd := List.zipWith joinR a b
def OkL (a : List Rnd) : Prop := a.length = 8 ∧ ∀ r ∈ a, r.Ok
theorem zip_congr {f g : Rnd → Rnd → Rnd} : ∀ {a b : List Rnd}, (∀ x ∈ a, ∀ y ∈ b, f x y = g x y) → List.zipWith f a b = List.zipWith g a b
  | [], _, _ => by simp
  | _ :: _, [], _ => by simp
  | x :: a, y :: b, h => by
    simp only [List.zipWith_cons_cons]
    rw [h x (by simp) y (by simp), zip_congr fun x' hx' y' hy' => h x' (by simp [hx']) y' (by simp [hy'])]
theorem joinL_ok {a b : List Rnd} (ha : OkL a) (hb : OkL b) : OkL (joinL a b) := by
  refine ⟨by simp [joinL, ha.1, hb.1], fun r hr => ?_⟩
  obtain ⟨i, hi⟩ := List.getElem?_of_mem hr
  unfold joinL at hi
  rw [List.getElem?_zipWith_eq_some] at hi
  obtain ⟨x, y, h1, h2, rfl⟩ := hi
  exact joinR_ok (ha.2 x (List.mem_of_getElem? h1)) (hb.2 y (List.mem_of_getElem? h2))
theorem joinL_comm {a b : List Rnd} (ha : OkL a) (hb : OkL b) : joinL a b = joinL b a := by
  unfold joinL
  rw [List.zipWith_comm]
  exact zip_congr fun x hx y hy => joinR_comm (ha.2 y hy) (hb.2 x hx)
theorem joinL_get {a b : List Rnd} {i : Nat} {x y : Rnd} (hx : a[i]? = some x) (hy : b[i]? = some y) : (joinL a b)[i]? = some (joinR x y) := by
  unfold joinL
  rw [List.getElem?_zipWith, hx, hy]
theorem rl_ext {a b : List Rnd} (ha : a.length = 8) (hb : b.length = 8) (h : ∀ (i : Nat) x y, a[i]? = some x → b[i]? = some y → x = y) : a = b := by
  apply List.ext_getElem (by omega)
  intro i h1 h2
  exact h i _ _ (List.getElem?_eq_getElem h1) (List.getElem?_eq_getElem h2)
theorem OkL.at {a : List Rnd} (h : OkL a) {i : Nat} (hi : i < 8) : ∃ x, a[i]? = some x ∧ x.Ok := ⟨_, List.getElem?_eq_getElem (by rw [h.1]; exact hi), h.2 _ (List.getElem_mem _)⟩
theorem joinL_assoc {a b c : List Rnd} (ha : OkL a) (hb : OkL b) (hc : OkL c) : joinL (joinL a b) c = joinL a (joinL b c) := by
  refine rl_ext (joinL_ok (joinL_ok ha hb) hc).1 (joinL_ok ha (joinL_ok hb hc)).1 fun i x y hx hy => ?_
  have hi : i < 8 := by have := (List.getElem?_eq_some_iff.1 hx).1; rw [(joinL_ok (joinL_ok ha hb) hc).1] at this; exact this
  obtain ⟨p, hp, op⟩ := ha.at hi
  obtain ⟨q, hq, oq⟩ := hb.at hi
  obtain ⟨r, hr, or_⟩ := hc.at hi
  rw [joinL_get (joinL_get hp hq) hr] at hx
  rw [joinL_get hp (joinL_get hq hr)] at hy
  rw [← Option.some.inj hx, ← Option.some.inj hy, joinR_assoc op oq or_]
theorem joinL_self {a : List Rnd} (ha : OkL a) : joinL a a = a := by
  refine rl_ext (joinL_ok ha ha).1 ha.1 fun i x y hx hy => ?_
  rw [joinL_get hy hy] at hx
  rw [← Option.some.inj hx, joinR_self (ha.2 y (List.mem_of_getElem? hy))]
theorem joinL_in {a b : List Rnd} (ha : OkL a) (hb : OkL b) : joinL (joinL a b) b = joinL a b := by rw [joinL_assoc ha hb hb, joinL_self hb]
theorem joinL_in' {a b : List Rnd} (ha : OkL a) (hb : OkL b) : joinL (joinL a b) a = joinL a b := by rw [joinL_comm ha hb, joinL_in hb ha]
end Go.Proofs.YtfgcljpiidhfpaaDoor
