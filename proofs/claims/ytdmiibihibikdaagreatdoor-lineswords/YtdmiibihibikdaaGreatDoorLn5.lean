/-
  barrowref05.Split and Start: a row of characters cut at its line ends. The lines of a row, by index: plain lists; barrowref05.Start. barrowref05.Start and UTF8.
-/
import Derived.Test.YtdmiibihibikdaaGreatDoorLn4
namespace Go.Proofs.YtdmiibihibikdaaGreatDoor
open Go.RowKit Go.Extern.Stop Go.Stop Go.Extern
set_option maxRecDepth 100000

/-- The lines ahead of the last one, and it. -/
def spS (v : List Int) : List (List Int) × List Int := v.foldl (fun s c => if c = 10 then (s.1 ++ [s.2], []) else (s.1, s.2 ++ [c])) ([], [])
theorem spS_end (v : List Int) : spS (v ++ [10]) = ((spS v).1 ++ [(spS v).2], []) := by simp [spS, List.foldl_append]
theorem spS_other (v : List Int) {c : Int} (h : ¬ c = 10) : spS (v ++ [c]) = ((spS v).1, (spS v).2 ++ [c]) := by simp [spS, List.foldl_append, h]
theorem spS_len (v : List Int) : (spS v).1.length + (spS v).2.length ≤ v.length := by
  have key : ∀ (v : List Int) (s : List (List Int) × List Int), (v.foldl (fun s c => if c = 10 then (s.1 ++ [s.2], []) else (s.1, s.2 ++ [c])) s).1.length + (v.foldl (fun s c => if c = 10 then (s.1 ++ [s.2], []) else (s.1, s.2 ++ [c])) s).2.length ≤ s.1.length + s.2.length + v.length := by
    intro v
    induction v with
    | nil => intro s; simp
    | cons c v ih =>
      intro s
      rw [List.foldl_cons]
      refine Nat.le_trans (ih _) ?_
      split
      · simp; omega
      · simp; omega
  have := key v ([], [])
  simpa [spS] using this
/-- The lines. -/
def spl (v : List Int) : List (List Int) := (spS v).1 ++ [(spS v).2]
/-- A line in memory, below a block. -/
def LnB (B : Nat) (w : World) (u : Value) (x : List Int) : Prop := (x = [] ∧ ∃ a c, u = .slice a 0 c) ∨ ∃ g o_ c c1, u = .slice (some ⟨g, o_, none⟩) x.length c ∧ g < B ∧ RowAt g c1 21 w ∧ ∀ (i : Nat) (y : Int), x[i]? = some y → w.cell? ⟨g, o_ + i, none⟩ = some (.int .i32 y)
theorem LnB.block {B B' : Nat} {w w' : World} {u : Value} {x : List Int} (h : LnB B w u x) (hB : B ≤ B') (hb : ∀ g, g < B → w'.heap[g]? = w.heap[g]?) : LnB B' w' u x := by
  rcases h with h | ⟨g, o_, c, c1, h1, h2, h4, h3⟩
  · exact .inl h
  · exact .inr ⟨g, o_, c, c1, h1, by omega, (hb g h2).trans h4, fun i y hy => by rw [World.cell?_of_block (w := w) (a := ⟨g, o_ + i, none⟩) (hb g h2)]; exact h3 i y hy⟩
theorem LnB.sl {B : Nat} {w : World} {u : Value} {x : List Int} (h : LnB B w u x) (hB : B ≤ w.heap.size) : SlR w u x := by
  rcases h with h | ⟨g, o_, c, c1, h1, h2, _, h3⟩
  · exact .inl h
  · exact .inr ⟨g, o_, c, h1, by omega, h3⟩
theorem OwnR.ln {base : Nat} {v : Value} {cs : List Int} {w : World} (h : OwnR base v cs w) : LnB w.heap.size w v cs := by
  have hs := h.sl
  rcases h.2 with ⟨h1, h2⟩ | ⟨g, cap, c1, q1, q2, q3, q4⟩
  · exact .inl ⟨List.length_eq_zero_iff.1 h2, none, 0, h1⟩
  · rcases hs with hs | ⟨g', o_, c, h1, h2, h3⟩
    · exact .inl hs
    · rw [q1] at h1
      cases h1
      exact .inr ⟨g, 0, _, c1, q1, h2, q3, h3⟩
/-- The outer list, while it grows: its own row, the finished lines below B, the last one from B on. -/
structure SpM (base B : Nat) (v : Value) (vs : List Value) (vl : Value) (dn : List (List Int)) (cur : List Int) (w : World) : Prop where
  row : w.ownsRow base 22 1 v (dn.length + 1) (vs ++ [vl])
  len : vs.length = dn.length
  old : ∀ (i : Nat) (x : List Int), dn[i]? = some x → ∃ u, vs[i]? = some u ∧ LnB B w u x
  own : OwnR B vl cur w
  lo : base ≤ B
  hi : B ≤ w.heap.size
theorem SpM.later {base B : Nat} {v : Value} {vs : List Value} {vl : Value} {dn : List (List Int)} {cur : List Int} {w w' : World} (h : SpM base B v vs vl dn cur w) (hb : Below w.heap.size w w') : SpM base B v vs vl dn cur w' where
  row := by
    obtain ⟨e1, e2⟩ := h.row
    refine ⟨e1, ?_⟩
    rcases e2 with h | ⟨g, cap, c0, q1, q2, q3, q4⟩
    · exact .inl h
    · exact .inr ⟨g, cap, c0, q1, q2, (hb.block _ (Array.getElem?_eq_some_iff.1 q3).1).trans q3, q4⟩
  len := h.len
  old := fun i x hx => by
    obtain ⟨u, a1, a2⟩ := h.old i x hx
    exact ⟨u, a1, a2.block (Nat.le_refl _) (fun g hg => hb.block g (Nat.lt_of_lt_of_le hg h.hi))⟩
  own := h.own.later hb
  lo := h.lo
  hi := Nat.le_trans h.hi hb.size
theorem SpM.form {base B : Nat} {v : Value} {vs : List Value} {vl : Value} {dn : List (List Int)} {cur : List Int} {w : World} (h : SpM base B v vs vl dn cur w) : ∃ g c c0, v = .slice (some ⟨g, 0, none⟩) (dn.length + 1) c ∧ base ≤ g ∧ w.heap[g]? = some (.cells c0 22 (0, 0)) ∧ dn.length + 1 ≤ c ∧ c ≤ maxLen ∧ c0.size = c * 1 ∧ c0.toList.take ((dn.length + 1) * 1) = vs ++ [vl] := by
  rcases h.row.2 with ⟨_, h2⟩ | ⟨g, cap, cur0, q1, q2, q3, q4, q5, q6, q7⟩
  · omega
  · exact ⟨g, cap, cur0, q1, q2, q3, q4, q5, q6, q7⟩
theorem SpM.cell {base B : Nat} {v : Value} {vs : List Value} {vl : Value} {dn : List (List Int)} {cur : List Int} {w : World} (h : SpM base B v vs vl dn cur w) {g n c : Nat} (hv : v = .slice (some ⟨g, 0, none⟩) n c) {i : Nat} {u : Value} (hu : (vs ++ [vl])[i]? = some u) : w.cell? ⟨g, i, none⟩ = some u := by
  obtain ⟨g', c', c0, e1, _, e3, _, _, _, e7⟩ := h.form
  rw [hv] at e1
  cases e1
  rw [cell_of_row w g i c0 _ _ e3]
  have hi := (List.getElem?_eq_some_iff.1 hu).1
  rw [← e7] at hu hi
  have hi2 : i < (dn.length + 1) * 1 := by simp at hi; omega
  rw [List.getElem?_take_of_lt hi2] at hu
  simpa using hu
/-- The last line has grown. -/
theorem SpM.grow {base B : Nat} {v : Value} {vs : List Value} {vl vl' : Value} {dn : List (List Int)} {cur cur' : List Int} {w w' : World} (h : SpM base B v vs vl dn cur w) (hg : w.grownBy w' vl.ownBlock) (_ho : OwnR B vl' cur' w') :
    w'.ownsRow base 22 1 v (dn.length + 1) (vs ++ [vl]) ∧ (∀ (i : Nat) (x : List Int), dn[i]? = some x → ∃ u, vs[i]? = some u ∧ LnB B w' u x) ∧ B ≤ w'.heap.size := by
  refine ⟨World.ownsRow.kept h.row hg (own_ne h.row h.own (by decide)), fun i x hx => ?_, Nat.le_trans h.hi hg.size⟩
  obtain ⟨u, a1, a2⟩ := h.old i x hx
  refine ⟨u, a1, a2.block (Nat.le_refl _) (fun g hg' => hg.block g (Nat.lt_of_lt_of_le hg' h.hi) (fun e => ?_))⟩
  have := (World.ownsRow.lt h.own g e.symm).1
  omega
theorem row_set1 {w : World} {base g n c : Nat} {vs : List Value} {vl v : Value} (h : w.ownsRow base 22 1 (.slice (some ⟨g, 0, none⟩) n c) n (vs ++ [vl])) (hn : vs.length + 1 = n) :
    (w.setCell ⟨g, vs.length, none⟩ v).ownsRow base 22 1 (.slice (some ⟨g, 0, none⟩) n c) n (vs ++ [v]) := by
  obtain ⟨e1, e2⟩ := h
  rcases e2 with ⟨h1, _⟩ | ⟨g', cap, c0, q1, q2, q3, q4, q5, q6, q7⟩
  · cases h1
  · cases q1
    refine ⟨by simp; omega, .inr ⟨g, c, c0.setIfInBounds vs.length v, rfl, q2, heap_setCell_at q3 _ _, q4, q5, by simpa using q6, ?_⟩⟩
    rw [Array.toList_setIfInBounds, List.take_set, q7, List.set_append]
    simp

def lsL (listed : Array Bool) (j : Nat) : Bool := listed.getD j false
def upL (l : Nat → Bool) (i : Nat) (j : Nat) : Bool := if j = i then true else l j
theorem upL_self (l : Nat → Bool) (i : Nat) : upL l i i = true := if_pos rfl
theorem upL_ne (l : Nat → Bool) {i j : Nat} (h : j ≠ i) : upL l i j = l j := if_neg h
theorem updL_self (v : Nat → Value) (i : Nat) (x : Value) : upd v i x i = x := if_pos rfl
theorem updL_ne (v : Nat → Value) {i j : Nat} (x : Value) (h : j ≠ i) : upd v i x j = v j := if_neg h
theorem lsL_set {listed : Array Bool} {i : Nat} (h : listed.getD i true = false) : lsL (listed.setIfInBounds i true) = upL (lsL listed) i := by
  funext j
  have hi : i < listed.size := by
    rcases Nat.lt_or_ge i listed.size with h' | h'
    · exact h'
    · simp [Array.getD, Nat.not_lt.2 h'] at h
  unfold lsL upL
  by_cases e : j = i
  · subst e; simp [Array.getD, hi]
  · rw [if_neg e]
    simp only [Array.getD_eq_getD_getElem?]
    rw [Array.getElem?_setIfInBounds_ne (fun h => e h.symm)]
theorem lsL_repl (m j : Nat) : lsL (Array.replicate m false) j = false := by
  unfold lsL
  simp [Array.getD]
theorem lsL_un {listed : Array Bool} {i : Nat} (h : listed.getD i true = false) : lsL listed i = false := by
  unfold lsL
  have hi : i < listed.size := by
    rcases Nat.lt_or_ge i listed.size with h' | h'
    · exact h'
    · simp [Array.getD, Nat.not_lt.2 h'] at h
  simp [Array.getD, hi] at h ⊢
  exact h
/-- What has come up of 'out[k] = append(out[k], x)'. -/
structure SplJ (X : World) (cs : Nat → Value) (P10 P11 : Value → World → Prop) (P13 : World → Prop) (l : Nat → Bool) (vals : Nat → Value) (x : World) : Prop where
  cst : ∀ i, i < 13 → i ≠ 10 → i ≠ 11 → l i = true → vals i = cs i
  pre : l 11 = false → Below X.heap.size X x
  bld : l 10 = true → l 11 = false → P10 (vals 10) x
  post : l 11 = true → l 13 = false → P11 (vals 11) x
  fin : l 13 = true → P13 x
  d5 : l 11 = true → l 5 = true
  d9 : l 10 = true → l 9 = true
  d10 : l 11 = true → l 10 = true
  d13 : l 13 = true → ∀ i, i < 13 → l i = true
section
variable {X : World} {cs : Nat → Value} {P10 P11 : Value → World → Prop} {P13 : World → Prop} {l : Nat → Bool} {vals : Nat → Value} {x : World}
theorem SplJ.plain (h : SplJ X cs P10 P11 P13 l vals x) (i : Nat) (hi : i < 13) (h10 : i ≠ 10) (h11 : i ≠ 11) (hun : l i = false) : SplJ X cs P10 P11 P13 (upL l i) (upd vals i (cs i)) x where
  cst := fun j hj j10 j11 hl => by
    by_cases e : j = i
    · subst e; exact updL_self _ _ _
    · rw [upL_ne l e] at hl; rw [updL_ne _ _ e]; exact h.cst j hj j10 j11 hl
  pre := fun hl => by rw [upL_ne l (fun e => h11 e.symm)] at hl; exact h.pre hl
  bld := fun a b => by rw [upL_ne l (fun e => h10 e.symm)] at a; rw [upL_ne l (fun e => h11 e.symm)] at b; rw [updL_ne _ _ (fun e => h10 e.symm)]; exact h.bld a b
  post := fun a b => by rw [upL_ne l (fun e => h11 e.symm)] at a; rw [upL_ne l (by omega)] at b; rw [updL_ne _ _ (fun e => h11 e.symm)]; exact h.post a b
  fin := fun a => by rw [upL_ne l (by omega)] at a; exact h.fin a
  d5 := fun a => by rw [upL_ne l (fun e => h11 e.symm)] at a; unfold upL; split; · rfl
                    · exact h.d5 a
  d9 := fun a => by rw [upL_ne l (fun e => h10 e.symm)] at a; unfold upL; split; · rfl
                    · exact h.d9 a
  d10 := fun a => by rw [upL_ne l (fun e => h11 e.symm)] at a; rw [upL_ne l (fun e => h10 e.symm)]; exact h.d10 a
  d13 := fun a => by rw [upL_ne l (by omega)] at a; rw [h.d13 a i hi] at hun; cases hun
theorem SplJ.no11 (h : SplJ X cs P10 P11 P13 l vals x) (hun : l 10 = false) : l 11 = false := by
  cases e : l 11 with
  | false => rfl
  | true => rw [h.d10 e] at hun; cases hun
theorem SplJ.no11' (h : SplJ X cs P10 P11 P13 l vals x) (hun : l 5 = false) : l 11 = false := by
  cases e : l 11 with
  | false => rfl
  | true => rw [h.d5 e] at hun; cases hun
theorem SplJ.no10 (h : SplJ X cs P10 P11 P13 l vals x) (hun : l 9 = false) : l 10 = false := by
  cases e : l 10 with
  | false => rfl
  | true => rw [h.d9 e] at hun; cases hun
theorem SplJ.no13 (h : SplJ X cs P10 P11 P13 l vals x) {i : Nat} (hi : i < 13) (hun : l i = false) : l 13 = false := by
  cases e : l 13 with
  | false => rfl
  | true => rw [h.d13 e i hi] at hun; cases hun
theorem SplJ.build (h : SplJ X cs P10 P11 P13 l vals x) (hun : l 10 = false) (h9 : l 9 = true) {v : Value} {x' : World} (hb : Below x.heap.size x x') (hp : P10 v x') : SplJ X cs P10 P11 P13 (upL l 10) (upd vals 10 v) x' where
  cst := fun j hj j10 j11 hl => by rw [upL_ne l j10] at hl; rw [updL_ne _ _ j10]; exact h.cst j hj j10 j11 hl
  pre := fun _ => bgo (h.pre (h.no11 hun)) hb
  bld := fun _ _ => by rw [updL_self]; exact hp
  post := fun a _ => by rw [upL_ne l (by decide), h.no11 hun] at a; cases a
  fin := fun a => by rw [upL_ne l (by decide), h.no13 (by decide) hun] at a; cases a
  d5 := fun a => by rw [upL_ne l (by decide), h.no11 hun] at a; cases a
  d9 := fun _ => by rw [upL_ne l (by decide)]; exact h9
  d10 := fun _ => upL_self _ _
  d13 := fun a => by rw [upL_ne l (by decide), h.no13 (by decide) hun] at a; cases a
theorem SplJ.app (h : SplJ X cs P10 P11 P13 l vals x) (hun : l 11 = false) (h5 : l 5 = true) (h10 : l 10 = true) {v : Value} {x' : World} (hp : P11 v x') : SplJ X cs P10 P11 P13 (upL l 11) (upd vals 11 v) x' where
  cst := fun j hj j10 j11 hl => by rw [upL_ne l j11] at hl; rw [updL_ne _ _ j11]; exact h.cst j hj j10 j11 hl
  pre := fun a => by rw [upL_self] at a; cases a
  bld := fun _ a => by rw [upL_self] at a; cases a
  post := fun _ _ => by rw [updL_self]; exact hp
  fin := fun a => by rw [upL_ne l (by decide), h.no13 (by decide) hun] at a; cases a
  d5 := fun _ => by rw [upL_ne l (by decide)]; exact h5
  d9 := fun _ => by rw [upL_ne l (by decide)]; exact h.d9 h10
  d10 := fun _ => by rw [upL_ne l (by decide)]; exact h10
  d13 := fun a => by rw [upL_ne l (by decide), h.no13 (by decide) hun] at a; cases a
theorem SplJ.store (h : SplJ X cs P10 P11 P13 l vals x) (hall : ∀ i, i < 13 → l i = true) {v : Value} {x' : World} (hp : P13 x') : SplJ X cs P10 P11 P13 (upL l 13) (upd vals 13 v) x' where
  cst := fun j hj j10 j11 _ => by rw [updL_ne _ _ (by omega)]; exact h.cst j hj j10 j11 (hall j hj)
  pre := fun a => by rw [upL_ne l (by decide), hall 11 (by decide)] at a; cases a
  bld := fun _ a => by rw [upL_ne l (by decide), hall 11 (by decide)] at a; cases a
  post := fun _ a => by rw [upL_self] at a; cases a
  fin := fun _ => hp
  d5 := fun _ => by rw [upL_ne l (by decide)]; exact hall 5 (by decide)
  d9 := fun _ => by rw [upL_ne l (by decide)]; exact hall 9 (by decide)
  d10 := fun _ => by rw [upL_ne l (by decide)]; exact hall 10 (by decide)
  d13 := fun _ i hi => by rw [upL_ne l (by omega)]; exact hall i hi
end
def SpP10 (c : Int) (v : Value) (x : World) : Prop := ∃ g, v = .slice (some ⟨g, 0, none⟩) 1 1 ∧ RowAt g #[.int .i32 c] 21 x
def SpP11 (X : World) (B : Nat) (vl : Value) (cur : List Int) (v : Value) (x : World) : Prop := ∃ y, Below X.heap.size X y ∧ y.grownBy x vl.ownBlock ∧ OwnR B v cur x
def SpP13 (w : World) (B : Nat) (V : Value) (vs : List Value) (dn : List (List Int)) (cur : List Int) (x : World) : Prop := ∃ vl', SpM w.heap.size B V vs vl' dn cur x ∧ Below w.heap.size w x
/-- What the operations yield, but for two. -/
def splC (V U vl : Value) (go n gs os i : Nat) (c : Int) : Nat → Value
  | 0 => V
  | 1 => .int .i64 (n : Int)
  | 2 => V
  | 3 => .int .i64 (n : Int)
  | 4 => .pointer (some ⟨go, n, none⟩)
  | 5 => vl
  | 6 => U
  | 7 => .int .i64 (i : Int)
  | 8 => .pointer (some ⟨gs, os + i, none⟩)
  | 9 => .int .i32 c
  | 12 => .pointer (some ⟨go, n, none⟩)
  | _ => undef
theorem run_appR {base : Nat} {v : Value} {cs : List Int} {c : Int} {w : World} {g : Nat} (ty : TypeId) (hown : OwnR base v cs w) (hg : RowAt g #[.int .i32 c] 21 w) (hlen : cs.length ≤ 1000000) (hbase : base ≤ w.heap.size) :
    ∃ v' w', (Builtin.append_ #[22, 22] ty #[v, .slice (some ⟨g, 0, none⟩) 1 1]).run Tryz.prog w = .ok v' w' ∧ OwnR base v' (cs ++ [c]) w' ∧ w.grownBy w' v.ownBlock := by
  obtain ⟨i0, hi, hi3⟩ := Option.map_eq_some_iff.1 info_rune
  simp only [Prod.mk.injEq] at hi3
  obtain ⟨hz0, hz1, hz2⟩ := hi3
  obtain ⟨v', w', h1, h2, h3, _⟩ := run_append_own (P := Tryz.prog) w base 22 ty 21 i0 _ 1 4 Tryz.underlying22 hi hz0 hz1 hz2 rfl (by decide) v cs.length (cs.map (Value.int .i32)) hown ⟨g, 0, none⟩ 1 1 [.int .i32 c] rfl (fun j u hu => by
    match j, hu with
    | 0, hu => cases hu; exact hg.cell 0
    | n + 1, hu => simp at hu) (by intro u hu; simp at hu; subst hu; rfl) (by unfold maxLen; omega) (by omega) hbase
  refine ⟨v', w', h1, ?_, h3⟩
  unfold OwnR
  simpa using h2
theorem cell_own {w : World} {base go co : Nat} {vs : List Value} {vl : Value} {n : Nat} (h : w.ownsRow base 22 1 (.slice (some ⟨go, 0, none⟩) (n + 1) co) (n + 1) (vs ++ [vl])) (hl : vs.length = n) : w.cell? ⟨go, n, none⟩ = some vl := by
  rcases h.2 with ⟨h1, _⟩ | ⟨g', cap, c0, q1, q2, q3, q4, q5, q6, q7⟩
  · cases h1
  · cases q1
    rw [cell_of_row w go n c0 _ _ q3]
    have h1 : (c0.toList.take ((n + 1) * 1))[n]? = some vl := by rw [q7, ← hl]; simp
    rw [List.getElem?_take_of_lt (by omega)] at h1
    simpa using h1
theorem froz_own {w : World} {base go co n : Nat} {xs : List Value} (h : w.ownsRow base 22 1 (.slice (some ⟨go, 0, none⟩) (n + 1) co) (n + 1) xs) (k : Nat) : w.frozen? ⟨go, k, none⟩ = false := by
  rcases h.2 with ⟨h1, _⟩ | ⟨g', cap, c0, q1, q2, q3, _⟩
  · cases h1
  · cases q1
    exact Lib.frozen_of_heap q3 k
/-- The last line, put into its place. -/
theorem SpM.put {base B go co : Nat} {vs : List Value} {vl vl' : Value} {dn : List (List Int)} {cur cur' : List Int} {w x : World} (h : SpM base B (.slice (some ⟨go, 0, none⟩) (dn.length + 1) co) vs vl dn cur w)
    (z1 : x.ownsRow base 22 1 (.slice (some ⟨go, 0, none⟩) (dn.length + 1) co) (dn.length + 1) (vs ++ [vl])) (z2 : ∀ (i : Nat) (y : List Int), dn[i]? = some y → ∃ u, vs[i]? = some u ∧ LnB B x u y) (z3 : B ≤ x.heap.size) (ho : OwnR B vl' cur' x) :
    SpM base B (.slice (some ⟨go, 0, none⟩) (dn.length + 1) co) vs vl' dn cur' (x.setCell ⟨go, dn.length, none⟩ vl') := by
  have hrow : ∃ c0, RowAt go c0 22 x := by
    rcases z1.2 with ⟨h1, _⟩ | ⟨g', cap, c0, q1, q2, q3, _⟩
    · cases h1
    · cases q1; exact ⟨c0, q3⟩
  obtain ⟨c0, hrow⟩ := hrow
  have other : ∀ g c1 ty, RowAt g c1 ty x → ty ≠ 22 → (x.setCell ⟨go, dn.length, none⟩ vl').heap[g]? = x.heap[g]? := fun g c1 ty hg hty => Below.heap_setCell _ _ _ _ (fun e => by
    have e' : g = go := e
    subst e'
    have e2 := Option.some.inj ((show x.heap[g]? = _ from hg).symm.trans hrow)
    injection e2 with _ e3
    exact hty e3)
  refine ⟨?_, h.len, fun i y hy => ?_, ?_, h.lo, by simpa using z3⟩
  · rw [← h.len] at z1 ⊢
    exact row_set1 z1 rfl
  · obtain ⟨u, a1, a2⟩ := z2 i y hy
    refine ⟨u, a1, ?_⟩
    rcases a2 with h' | ⟨g, o_, c, c1, h1, h2, h4, h3⟩
    · exact .inl h'
    · have ho2 := other g c1 _ h4 (by decide)
      refine .inr ⟨g, o_, c, c1, h1, h2, ho2.trans h4, fun j q hq => ?_⟩
      rw [World.cell?_of_block (w := x) (a := ⟨g, o_ + j, none⟩) ho2]
      exact h3 j q hq
  · obtain ⟨e1, e2⟩ := ho
    refine ⟨e1, ?_⟩
    rcases e2 with h' | ⟨g, cap, c1, q1, q2, q3, q4⟩
    · exact .inl h'
    · exact .inr ⟨g, cap, c1, q1, q2, (other g c1 _ q3 (by decide)).trans q3, q4⟩
theorem info_sl : (Tryz.prog.info? 22).map (fun i => (i.zero, i.size, i.bytes)) = some (some (.slice none 0 0), 1, 24) := by kernel_rfl
/-- A new line. -/
theorem SpM.next {base B : Nat} {v v' : Value} {vs : List Value} {vl : Value} {dn : List (List Int)} {cur : List Int} {w w' : World} (h : SpM base B v vs vl dn cur w) (ho : w'.ownsRow base 22 1 v' (dn.length + 1 + 1) (vs ++ [vl] ++ [.slice none 0 0])) (hg : w.grownBy w' v.ownBlock) :
    SpM base w'.heap.size v' (vs ++ [vl]) (.slice none 0 0) (dn ++ [cur]) [] w' := by
  have hkeep : ∀ g c1, RowAt g c1 21 w → w'.heap[g]? = w.heap[g]? := fun g c1 hr => (RowAt.keptO hr h.row (by decide) hg).trans hr.symm
  have hl : ∀ u x, LnB w.heap.size w u x → LnB w'.heap.size w' u x := fun u x hx => by
    rcases hx with hx | ⟨g, o_, c, c1, h1, h2, h4, h3⟩
    · exact .inl hx
    · exact .inr ⟨g, o_, c, c1, h1, Nat.lt_of_lt_of_le h2 hg.size, (hkeep g c1 h4).trans h4, fun i y hy => by rw [World.cell?_of_block (w := w) (a := ⟨g, o_ + i, none⟩) (hkeep g c1 h4)]; exact h3 i y hy⟩
  refine ⟨by simpa using ho, by simp [h.len], fun i x hx => ?_, own_nil _ _, Nat.le_trans h.lo (Nat.le_trans h.hi hg.size), Nat.le_refl _⟩
  rw [List.getElem?_append] at hx
  split at hx
  · rename_i hi
    obtain ⟨u, a1, a2⟩ := h.old i x hx
    exact ⟨u, by rw [List.getElem?_append_left (by rw [h.len]; exact hi)]; exact a1, hl u x (a2.block h.hi (fun _ _ => rfl))⟩
  · rename_i hi
    have e0 : i - dn.length = 0 := by
      rcases Nat.eq_zero_or_pos (i - dn.length) with h0 | h0
      · exact h0
      · rw [List.getElem?_eq_none (by simp; omega)] at hx; cases hx
    rw [e0] at hx
    simp at hx
    subst hx
    refine ⟨vl, ?_, hl vl cur h.own.ln⟩
    rw [List.getElem?_append_right (by rw [h.len]; omega), h.len, e0]
    rfl
set_option maxHeartbeats 4000000 in
theorem refSplit_any {w : World} {u : Value} {vv : List Int} (hu : SlR w u vv) (hn : vv.length ≤ 100000) :
    Calls Tryz.prog 9 #[u] w fun r w' => ∃ B v vs vl, r = .returned v ∧ SpM w.heap.size B v vs vl (spS vv).1 (spS vv).2 w' ∧ Below w.heap.size w w' := by
  obtain ⟨a1, cu, rfl⟩ := hu.form
  go_enter Tryz.func9, Tryz.ntmps9
  go_wp2
  go_loopw [3, 4] (fun ov iv wr => ∃ (i B : Nat) (vs : List Value) (vl : Value), iv = .int .i64 (i : Int) ∧ i ≤ vv.length ∧ SpM w.heap.size B ov vs vl (spS (vv.take i)).1 (spS (vv.take i)).2 wr ∧ Below w.heap.size w wr) (fun _ iv _ => vv.length - (intOf iv).toNat)
  case atStart =>
    refine ⟨0, (w.alloc (.cells #[.slice none 0 0] 22)).heap.size, [], .slice none 0 0, rfl, Nat.zero_le _, ?_, below_one _ _⟩
    rw [List.take_zero]
    refine ⟨⟨rfl, .inr ⟨w.heap.size, 1, #[.slice none 0 0], rfl, Nat.le_refl _, heap_alloc_last w _, Nat.le_refl _, by unfold maxLen; omega, rfl, rfl⟩⟩, rfl, fun i x hx => by simp [spS] at hx, own_nil _ _, by simp, Nat.le_refl _⟩
  case round =>
    obtain ⟨i, B, vs, vl, rfl, hi, hM, hB⟩ := hrel
    by_cases hlt : i < vv.length
    · have q1 : (i : Int) < (vv.length : Int) := by omega
      obtain ⟨c, hc⟩ : ∃ c, vv[i]? = some c := ⟨_, List.getElem?_eq_getElem hlt⟩
      have htk : vv.take (i + 1) = vv.take i ++ [c] := by rw [List.take_add_one, hc]; rfl
      obtain ⟨gs, os, cc0, hv, hcell0⟩ := hu.at hB hc
      simp only [Value.slice.injEq] at hv
      obtain ⟨rfl, _, rfl⟩ := hv
      have hcell : ∀ x, Below wr.heap.size wr x → x.cell? ⟨gs, os + i, none⟩ = some (.int .i32 c) := fun x hx => by
        obtain ⟨g', o', c', hv', hc'⟩ := hu.at (bgo hB hx) hc
        simp only [Value.slice.injEq, Option.some.injEq, Addr.mk.injEq] at hv'
        obtain ⟨⟨rfl, rfl, _⟩, _⟩ := hv'
        exact hc'
      by_cases h10 : c = 10
      · have e10 : (c == 10) = true := by rw [beq_iff_eq]; exact h10
        have hnx := spS_end (vv.take i)
        rw [h10] at htk
        rw [← htk] at hnx
        have hsl := spS_len (vv.take i)
        have htl : (vv.take i).length ≤ 100000 := by simp; omega
        have hdl : (spS (vv.take i)).1.length ≤ 1000000 := by omega
        clear hsl htl
        generalize (spS (vv.take i)).1 = dn at hM hnx hdl
        generalize (spS (vv.take i)).2 = cur at hM hnx
        have HX := hid_of' hnx
        have HM := hid_of' hM
        obtain ⟨go, co, c0, rfl, hgo, _, hco, _⟩ := hM.form
        obtain ⟨i0, hi0, hi3⟩ := Option.map_eq_some_iff.1 info_sl
        simp only [Prod.mk.injEq] at hi3
        obtain ⟨hz0, hz1, hz2⟩ := hi3
        have HC2 : Hid (∀ u ∈ [Value.slice none 0 0], u.oneCell' = true) := by intro u hu; simp at hu; subst hu; rfl
        have hBs := hB.size
        have HC3 : Hid (dn.length + 1 + 1 ≤ maxLen ∧ (dn.length + 1 + 1) * 24 ≤ 140737488355328 ∧ w.heap.size ≤ (wr.alloc (.cells #[.slice none 0 0] 22)).heap.size) := ⟨by unfold maxLen; omega, by omega, by simp; omega⟩
        clear hnx htk hc hM hcell
        go_wp2_with (at_builtin; refine wpList_append_own _ rfl _ _ 28 rfl w.heap.size 22 i0 (.slice none 0 0) 1 24 Tryz.underlying28 hi0 hz0 hz1 hz2 rfl (by decide) _ _ _ rfl (World.ownsRow.alloc HM.out.row _) ⟨wr.heap.size, 0, none⟩ 1 1 [.slice none 0 0] rfl rfl (cell_one_new _ _ _) HC2.out HC3.out.1 HC3.out.2.1 HC3.out.2.2 ?_; intro v0 w9 hown9 hg9 _)
        have hM1 := HM.out.later (below_one wr (.cells #[.slice none 0 0] 22))
        have hB1 := (hB.alloc hBs (.cells #[.slice none 0 0] 22)).grown hg9 (by simp; omega) (fun j hj => (World.ownsRow.lt HM.out.row j hj).1)
        have hMn := SpM.next hM1 hown9 hg9
        go_roundw
        case rel => exact ⟨i + 1, _, _, _, by go_num, by omega, by rw [HX.out]; exact hMn, hB1⟩
        case measure => simp [intOf]; omega
      · have e10 : (c == 10) = false := by rw [beq_eq_false_iff_ne]; exact h10
        have hnx := spS_other (vv.take i) h10
        rw [← htk] at hnx
        have hsl := spS_len (vv.take i)
        have htl : (vv.take i).length ≤ 100000 := by simp; omega
        have hcl : (spS (vv.take i)).2.length ≤ 1000000 := by omega
        have hdl : (spS (vv.take i)).1.length ≤ 1000000 := by omega
        clear hsl htl
        generalize (spS (vv.take i)).1 = dn at hM hnx hcl hdl
        generalize (spS (vv.take i)).2 = cur at hM hnx hcl
        obtain ⟨go, co, c0, rfl, hgo, _, hco, _⟩ := hM.form
        have hk1 : wrap64 (((dn.length : Int) + 1) - 1) = (dn.length : Int) := by rw [wrapIs (by omega) (by omega)]; omega
        have hk2 : (dn.length : Int) < (dn.length : Int) + 1 := by omega
        have hk3 : 0 ≤ (dn.length : Int) := by omega
        have hi2 : (i : Int) < (vv.length : Int) := q1
        have HX := hid_of' hnx
        clear hnx htk hc
        go_upto_region 8 with fail
        refine wp_region_invx' (by kernel_rfl) (by kernel_rfl) (fun listed vals x => SplJ wr (splC (.slice (some ⟨go, 0, none⟩) (dn.length + 1) co) (.slice (some ⟨gs, os, none⟩) vv.length cu) vl go dn.length gs os i c) (SpP10 c) (SpP11 wr B vl (cur ++ [c])) (SpP13 w B (.slice (some ⟨go, 0, none⟩) (dn.length + 1) co) vs dn (cur ++ [c])) (lsL listed) vals x) ?_ ?_ ?_
        · exact ⟨fun j _ _ _ h => absurd h (by rw [lsL_repl]; decide), fun _ => (Below.refl _ _).drew, fun h => absurd h (by rw [lsL_repl]; decide), fun h => absurd h (by rw [lsL_repl]; decide), fun h => absurd h (by rw [lsL_repl]; decide), fun h => absurd h (by rw [lsL_repl]; decide), fun h => absurd h (by rw [lsL_repl]; decide), fun h => absurd h (by rw [lsL_repl]; decide), fun h => absurd h (by rw [lsL_repl]; decide)⟩
        · intro ix o ho listed vals q x hJ hsz hun haft hdf hb0 hbo
          have hun' := lsL_un hun
          have t0 : q.tmps[0]? = some (.slice (some ⟨gs, os, none⟩) vv.length cu) := by rw [hbo 0 (by kernel_rfl)]; rfl
          have t3 : q.tmps[3]? = some (.slice (some ⟨go, 0, none⟩) (dn.length + 1) co) := by rw [hbo 3 (by kernel_rfl)]; rfl
          have t4 : q.tmps[4]? = some (.int .i64 (i : Int)) := by rw [hbo 4 (by kernel_rfl)]; rfl
          have t5 : q.tmps[5]? = some (.int .i64 (dn.length : Int)) := by rw [hbo 5 (by kernel_rfl)]; rfl
          match ix, ho with
          | 0, ho =>
            simp only [List.getElem?_toArray, List.getElem?_cons_zero, Option.some.injEq] at ho
            subst ho
            unfold Oper.wp
            simp [execOp, go_sem, t3]
            refine ⟨_, rfl, ?_⟩
            rw [lsL_set hun]
            exact hJ.plain 0 (by decide) (by decide) (by decide) hun'
            | 1, ho =>
            simp only [List.getElem?_toArray, List.getElem?_cons_succ, List.getElem?_cons_zero, Option.some.injEq] at ho
            subst ho
            unfold Oper.wp
            simp [execOp, go_sem, t5]
            refine ⟨_, rfl, ?_⟩
            rw [lsL_set hun]
            exact hJ.plain 1 (by decide) (by decide) (by decide) hun'
            | 2, ho =>
            simp only [List.getElem?_toArray, List.getElem?_cons_succ, List.getElem?_cons_zero, Option.some.injEq] at ho
            subst ho
            unfold Oper.wp
            simp [execOp, go_sem, t3]
            refine ⟨_, rfl, ?_⟩
            rw [lsL_set hun]
            exact hJ.plain 2 (by decide) (by decide) (by decide) hun'
            | 3, ho =>
            simp only [List.getElem?_toArray, List.getElem?_cons_succ, List.getElem?_cons_zero, Option.some.injEq] at ho
            subst ho
            unfold Oper.wp
            simp [execOp, go_sem, t5]
            refine ⟨_, rfl, ?_⟩
            rw [lsL_set hun]
            exact hJ.plain 3 (by decide) (by decide) (by decide) hun'
            | 4, ho =>
            simp only [List.getElem?_toArray, List.getElem?_cons_succ, List.getElem?_cons_zero, Option.some.injEq] at ho
            subst ho
            have u2 : q.tmps[26]? = some (.slice (some ⟨go, 0, none⟩) (dn.length + 1) co) := by rw [hb0 2 _ 26 rfl rfl (haft ⟨2, .data⟩ (by simp) rfl), hJ.cst 2 (by decide) (by decide) (by decide) (haft ⟨2, .data⟩ (by simp) rfl)]; rfl
            have u3 : q.tmps[27]? = some (.int .i64 (dn.length : Int)) := by rw [hb0 3 _ 27 rfl rfl (haft ⟨3, .data⟩ (by simp) rfl), hJ.cst 3 (by decide) (by decide) (by decide) (haft ⟨3, .data⟩ (by simp) rfl)]; rfl
            unfold Oper.wp
            simp [execOp, go_sem, u2, u3, hk2, hk3]
            refine ⟨_, rfl, ?_⟩
            rw [lsL_set hun]
            exact hJ.plain 4 (by decide) (by decide) (by decide) hun'
            | 5, ho =>
            simp only [List.getElem?_toArray, List.getElem?_cons_succ, List.getElem?_cons_zero, Option.some.injEq] at ho
            subst ho
            have u4 : q.tmps[28]? = some (.pointer (some ⟨go, dn.length, none⟩)) := by rw [hb0 4 _ 28 rfl rfl (haft ⟨4, .data⟩ (by simp) rfl), hJ.cst 4 (by decide) (by decide) (by decide) (haft ⟨4, .data⟩ (by simp) rfl)]; rfl
            have cc : x.cell? ⟨go, dn.length, none⟩ = some vl := (hM.later (hJ.pre (hJ.no11' hun'))).cell rfl (by rw [← hM.len]; simp)
            unfold Oper.wp
            simp [execOp, go_sem, u4, cc]
            refine ⟨_, rfl, ?_⟩
            rw [lsL_set hun]
            exact hJ.plain 5 (by decide) (by decide) (by decide) hun'
            | 6, ho =>
            simp only [List.getElem?_toArray, List.getElem?_cons_succ, List.getElem?_cons_zero, Option.some.injEq] at ho
            subst ho
            unfold Oper.wp
            simp [execOp, go_sem, t0]
            refine ⟨_, rfl, ?_⟩
            rw [lsL_set hun]
            exact hJ.plain 6 (by decide) (by decide) (by decide) hun'
            | 7, ho =>
            simp only [List.getElem?_toArray, List.getElem?_cons_succ, List.getElem?_cons_zero, Option.some.injEq] at ho
            subst ho
            unfold Oper.wp
            simp [execOp, go_sem, t4]
            refine ⟨_, rfl, ?_⟩
            rw [lsL_set hun]
            exact hJ.plain 7 (by decide) (by decide) (by decide) hun'
            | 8, ho =>
            simp only [List.getElem?_toArray, List.getElem?_cons_succ, List.getElem?_cons_zero, Option.some.injEq] at ho
            subst ho
            have u6 : q.tmps[30]? = some (.slice (some ⟨gs, os, none⟩) vv.length cu) := by rw [hb0 6 _ 30 rfl rfl (haft ⟨6, .data⟩ (by simp) rfl), hJ.cst 6 (by decide) (by decide) (by decide) (haft ⟨6, .data⟩ (by simp) rfl)]; rfl
            have u7 : q.tmps[31]? = some (.int .i64 (i : Int)) := by rw [hb0 7 _ 31 rfl rfl (haft ⟨7, .data⟩ (by simp) rfl), hJ.cst 7 (by decide) (by decide) (by decide) (haft ⟨7, .data⟩ (by simp) rfl)]; rfl
            unfold Oper.wp
            simp [execOp, go_sem, u6, u7, hi2]
            refine ⟨_, rfl, ?_⟩
            rw [lsL_set hun]
            exact hJ.plain 8 (by decide) (by decide) (by decide) hun'
            | 9, ho =>
            simp only [List.getElem?_toArray, List.getElem?_cons_succ, List.getElem?_cons_zero, Option.some.injEq] at ho
            subst ho
            have u8 : q.tmps[32]? = some (.pointer (some ⟨gs, os + i, none⟩)) := by rw [hb0 8 _ 32 rfl rfl (haft ⟨8, .data⟩ (by simp) rfl), hJ.cst 8 (by decide) (by decide) (by decide) (haft ⟨8, .data⟩ (by simp) rfl)]; rfl
            have cc : x.cell? ⟨gs, os + i, none⟩ = some (.int .i32 c) := hcell x (hJ.pre (hJ.no11 (hJ.no10 hun')))
            unfold Oper.wp
            simp [execOp, go_sem, u8, cc]
            refine ⟨_, rfl, ?_⟩
            rw [lsL_set hun]
            exact hJ.plain 9 (by decide) (by decide) (by decide) hun'
            | 10, ho =>
            simp only [List.getElem?_toArray, List.getElem?_cons_succ, List.getElem?_cons_zero, Option.some.injEq] at ho
            subst ho
            have u9 : q.tmps[33]? = some (.int .i32 c) := by rw [hb0 9 _ 33 rfl rfl (haft ⟨9, .data⟩ (by simp) rfl), hJ.cst 9 (by decide) (by decide) (by decide) (haft ⟨9, .data⟩ (by simp) rfl)]; rfl
            unfold Oper.wp
            simp [execOp, go_sem, u9]
            refine ⟨_, rfl, ?_⟩
            rw [lsL_set hun]
            exact hJ.build hun' (haft ⟨9, .data⟩ (by simp) rfl) (below_one _ _) ⟨x.heap.size, rfl, row_new x _ _⟩
            | 11, ho =>
            simp only [List.getElem?_toArray, List.getElem?_cons_succ, List.getElem?_cons_zero, Option.some.injEq] at ho
            subst ho
            have u5 : q.tmps[29]? = some (vl) := by rw [hb0 5 _ 29 rfl rfl (haft ⟨5, .data⟩ (by simp) rfl), hJ.cst 5 (by decide) (by decide) (by decide) (haft ⟨5, .data⟩ (by simp) rfl)]; rfl
            obtain ⟨g, eg, hg⟩ := hJ.bld (haft ⟨10, .data⟩ (by simp) rfl) hun'
            have u10 : q.tmps[34]? = some (.slice (some ⟨g, 0, none⟩) 1 1) := by rw [hb0 10 _ 34 rfl rfl (haft ⟨10, .data⟩ (by simp) rfl), eg]
            have hpre := hJ.pre hun'
            have hMx := hM.later hpre
            obtain ⟨v', x', r1, r2, r3⟩ := run_appR 22 hMx.own hg hcl hMx.hi
            unfold Oper.wp
            simp [execOp, resolve, invoke, builtin, Act.eval, u5, u10, r1, Result.andThen]
            refine ⟨_, rfl, ?_⟩
            rw [lsL_set hun]
            exact hJ.app hun' (haft ⟨5, .data⟩ (by simp) rfl) (haft ⟨10, .data⟩ (by simp) rfl) ⟨x, hpre, r3, r2⟩
            | 12, ho =>
            simp only [List.getElem?_toArray, List.getElem?_cons_succ, List.getElem?_cons_zero, Option.some.injEq] at ho
            subst ho
            have u0 : q.tmps[24]? = some (.slice (some ⟨go, 0, none⟩) (dn.length + 1) co) := by rw [hb0 0 _ 24 rfl rfl (haft ⟨0, .data⟩ (by simp) rfl), hJ.cst 0 (by decide) (by decide) (by decide) (haft ⟨0, .data⟩ (by simp) rfl)]; rfl
            have u1 : q.tmps[25]? = some (.int .i64 (dn.length : Int)) := by rw [hb0 1 _ 25 rfl rfl (haft ⟨1, .data⟩ (by simp) rfl), hJ.cst 1 (by decide) (by decide) (by decide) (haft ⟨1, .data⟩ (by simp) rfl)]; rfl
            unfold Oper.wp
            simp [execOp, go_sem, u0, u1, hk2, hk3]
            refine ⟨_, rfl, ?_⟩
            rw [lsL_set hun]
            exact hJ.plain 12 (by decide) (by decide) (by decide) hun'
            | 13, ho =>
            simp only [List.getElem?_toArray, List.getElem?_cons_succ, List.getElem?_cons_zero, Option.some.injEq] at ho
            subst ho
            have hall : ∀ j, j < 13 → lsL listed j = true := fun j hj => by
              match j, hj with
                | 0, _ => exact haft ⟨0, .phase⟩ (by simp) rfl
                | 1, _ => exact haft ⟨1, .phase⟩ (by simp) rfl
                | 2, _ => exact haft ⟨2, .phase⟩ (by simp) rfl
                | 3, _ => exact haft ⟨3, .phase⟩ (by simp) rfl
                | 4, _ => exact haft ⟨4, .phase⟩ (by simp) rfl
                | 5, _ => exact haft ⟨5, .phase⟩ (by simp) rfl
                | 6, _ => exact haft ⟨6, .phase⟩ (by simp) rfl
                | 7, _ => exact haft ⟨7, .phase⟩ (by simp) rfl
                | 8, _ => exact haft ⟨8, .phase⟩ (by simp) rfl
                | 9, _ => exact haft ⟨9, .phase⟩ (by simp) rfl
                | 10, _ => exact haft ⟨10, .phase⟩ (by simp) rfl
                | 11, _ => exact haft ⟨11, .phase⟩ (by simp) rfl
                | 12, _ => exact haft ⟨12, .data⟩ (by simp) rfl
                | m + 13, hj => exact absurd hj (by omega)
            have u12 : q.tmps[36]? = some (.pointer (some ⟨go, dn.length, none⟩)) := by rw [hb0 12 _ 36 rfl rfl (hall 12 (by decide)), hJ.cst 12 (by decide) (by decide) (by decide) (hall 12 (by decide))]; rfl
            have u11 : q.tmps[35]? = some (vals 11) := hb0 11 _ 35 rfl rfl (hall 11 (by decide))
            obtain ⟨y, hpre, hgr, hown⟩ := hJ.post (hall 11 (by decide)) hun'
            obtain ⟨sa, sn, sc, hsf⟩ : ∃ a n c', vals 11 = .slice a n c' := let ⟨a, c', h⟩ := hown.sl.form; ⟨a, _, c', h⟩
            have hMy := hM.later hpre
            obtain ⟨z1, z2, z3⟩ := hMy.grow hgr hown
            have cc : x.cell? ⟨go, dn.length, none⟩ = some vl := cell_own z1 hM.len
            have cf : x.frozen? ⟨go, dn.length, none⟩ = false := froz_own z1 _
            rw [hsf] at u11 hown
            unfold Oper.wp
            simp [execOp, go_sem, u12, u11, cc, cf]
            refine ⟨undef, ?_⟩
            rw [lsL_set hun]
            refine hJ.store hall ⟨_, SpM.put hMy z1 z2 z3 hown, ?_⟩
            exact Below.setCell (((hB.trans (hpre.mono hB.size))).grown hgr (by have := hB.size; have := hpre.size; omega) (fun j hj => Nat.le_trans hM.lo (World.ownsRow.lt hMy.own j hj).1)) (p := ⟨go, dn.length, none⟩) hgo _
          | m + 14, ho => simp at ho
        · intro listed vals q x hall hJ hsz hdf hw hu'
          obtain ⟨vl', hM', hB'⟩ := hJ.fin (hall 13 (by decide))
          rw [frame_is hsz hdf hw hu']
          have w11 : vals 11 = vals 11 := rfl
          clear hcell hcell0 hu hJ hM hw hu' hsz hdf
          simp only [putAll, List.setIfInBounds_toArray, List.set_cons_succ, List.set_cons_zero]
          go_wp2
          go_roundw
          case rel => exact ⟨i + 1, B, vs, vl', by go_num, by omega, by rw [HX.out]; exact hM', hB'⟩
          case measure => simp [intOf]; omega
    · obtain rfl : i = vv.length := by omega
      rw [List.take_length] at hM
      go_wp2
      go_ret
      exact ⟨B, _, vs, vl, rfl, hM, hB⟩
end Go.Proofs.YtdmiibihibikdaaGreatDoor
namespace Go.Proofs.YtdmiibihibikdaaGreatDoor
open Go.RowKit Go.Extern.Stop Go.Stop Go.Extern
set_option maxRecDepth 100000

/-- Characters ahead of the first line. -/
def glueI (c : List Int) : List (List Int) → List (List Int)
  | h :: t => (c ++ h) :: t
  | [] => [c]
theorem glueI_glue (a b : List Int) (x : List (List Int)) (h : x ≠ []) : glueI a (glueI b x) = glueI (a ++ b) x := by
  cases x with
  | nil => exact absurd rfl h
  | cons c t => simp [glueI]
theorem spl_ne (v : List Int) : spl v ≠ [] := by simp [spl]
theorem spl_gen : ∀ (v : List Int) (d : List (List Int)) (c0 : List Int), (v.foldl (fun s c => if c = 10 then (s.1 ++ [s.2], []) else (s.1, s.2 ++ [c])) (d, c0)).1 ++ [(v.foldl (fun s c => if c = 10 then (s.1 ++ [s.2], []) else (s.1, s.2 ++ [c])) (d, c0)).2] = d ++ glueI c0 (spl v)
  | [], d, c0 => by simp [spl, spS, glueI]
  | a :: v, d, c0 => by
    have e : spl (a :: v) = (v.foldl (fun s c => if c = 10 then (s.1 ++ [s.2], []) else (s.1, s.2 ++ [c])) (if a = 10 then ([[]], []) else ([], [a]))).1 ++ [(v.foldl (fun s c => if c = 10 then (s.1 ++ [s.2], []) else (s.1, s.2 ++ [c])) (if a = 10 then ([[]], []) else ([], [a]))).2] := by
      unfold spl spS
      rw [List.foldl_cons]
      by_cases h : a = 10
      · simp [h]
      · simp [h]
    rw [List.foldl_cons]
    by_cases h : a = 10
    · rw [if_pos h] at e ⊢
      rw [spl_gen v (d ++ [c0]) [], e, spl_gen v [[]] []]
      cases hs : spl v with
      | nil => exact absurd hs (spl_ne v)
      | cons x t => simp [glueI]
    · rw [if_neg h] at e ⊢
      rw [spl_gen v d (c0 ++ [a]), e, spl_gen v [] [a], List.nil_append, glueI_glue _ _ _ (spl_ne v)]
theorem spl_end (v : List Int) : spl (10 :: v) = [] :: spl v := by
  have := spl_gen v [[]] []
  have e : spl (10 :: v) = [[]] ++ glueI [] (spl v) := by rw [← this]; rfl
  rw [e]
  cases hs : spl v with
  | nil => exact absurd hs (spl_ne v)
  | cons x t => simp [glueI]
theorem spl_other {a : Int} (v : List Int) (h : ¬ a = 10) : spl (a :: v) = glueI [a] (spl v) := by
  have := spl_gen v [] [a]
  have e : spl (a :: v) = [] ++ glueI [a] (spl v) := by rw [← this]; simp [spl, spS, h]
  rw [e]; rfl
theorem spl_len : ∀ v : List Int, (spl v).length = nlC v + 1
  | [] => rfl
  | a :: v => by
    by_cases h : a = 10
    · subst h; rw [spl_end, nlC_cons]; simp [spl_len v]; omega
    · rw [spl_other v h, nlC_cons, if_neg h]
      cases hs : spl v with
      | nil => exact absurd hs (spl_ne v)
      | cons x t => have := spl_len v; rw [hs] at this; simp [glueI] at this ⊢; omega
/-- How far the lines ahead of one reach. -/
def sumS : List (List Int) → Nat → Nat
  | _, 0 => 0
  | [], _ + 1 => 0
  | x :: t, j + 1 => x.length + 1 + sumS t j
theorem st_end (v : List Int) (j : Nat) : stC (10 :: v) (j + 1) = stC v j + 1 := by
  cases j with
  | zero => rfl
  | succ j => show endC (10 :: v) (j + 1) + 1 = endC v j + 1 + 1; rw [endC_succ]
theorem st_other {a : Int} (v : List Int) (h : ¬ a = 10) (j : Nat) : stC (a :: v) (j + 1) = stC v (j + 1) + 1 := by
  show endC (a :: v) j + 1 = endC v j + 1 + 1
  rw [endC_other _ _ h]
theorem en_end0 (v : List Int) : enC (10 :: v) 0 = 0 := by
  unfold enC
  rw [if_neg (by rw [nlC_cons]; simp; omega), endC_zero]
theorem en_end (v : List Int) (j : Nat) : enC (10 :: v) (j + 1) = enC v j + 1 := by
  unfold enC
  rw [nlC_cons]
  by_cases h : j = nlC v
  · rw [if_pos h, if_pos (by simp; omega)]; simp
  · rw [if_neg h, if_neg (by simp; omega), endC_succ]
theorem en_other {a : Int} (v : List Int) (h : ¬ a = 10) (j : Nat) : enC (a :: v) j = enC v j + 1 := by
  unfold enC
  rw [nlC_cons, if_neg h, Nat.zero_add]
  by_cases e : j = nlC v
  · rw [if_pos e, if_pos e]; simp
  · rw [if_neg e, if_neg e, endC_other _ _ h]
theorem sum_st : ∀ (v : List Int) (j : Nat), j ≤ nlC v → sumS (spl v) j = stC v j
  | v, 0, _ => by cases spl v <;> rfl
  | [], j + 1, h => by simp [nlC] at h
  | a :: v, j + 1, h => by
    rw [nlC_cons] at h
    by_cases ha : a = 10
    · subst ha
      rw [spl_end, st_end]
      show ([] : List Int).length + 1 + sumS (spl v) j = _
      rw [sum_st v j (by simp at h; omega)]
      simp; omega
    · rw [if_neg ha] at h
      rw [spl_other v ha, st_other v ha, ← sum_st v (j + 1) (by omega)]
      cases hs : spl v with
      | nil => exact absurd hs (spl_ne v)
      | cons x t => show ([a] ++ x).length + 1 + sumS t j = x.length + 1 + sumS t j + 1; simp; omega
theorem tx_at : ∀ (v : List Int) (j : Nat), j ≤ nlC v → (spl v)[j]? = some (txC v j)
  | [], 0, _ => rfl
  | [], j + 1, h => by simp [nlC] at h
  | a :: v, j, h => by
    rw [nlC_cons] at h
    by_cases ha : a = 10
    · subst ha
      rw [spl_end]
      cases j with
      | zero => unfold txC; rw [en_end0]; rfl
      | succ j =>
        rw [List.getElem?_cons_succ, tx_at v j (by simp at h; omega)]
        unfold txC
        rw [st_end, en_end, List.drop_succ_cons]
        congr 2
        omega
    · rw [if_neg ha] at h
      rw [spl_other v ha]
      have ih := tx_at v j (by omega)
      cases hs : spl v with
      | nil => exact absurd hs (spl_ne v)
      | cons x t =>
        rw [hs] at ih
        cases j with
        | zero =>
          simp only [List.getElem?_cons_zero, Option.some.injEq] at ih
          show some ([a] ++ x) = _
          rw [ih]
          unfold txC
          rw [en_other v ha]
          rfl
        | succ j =>
          rw [List.getElem?_cons_succ] at ih
          show t[j]? = _
          rw [ih]
          unfold txC
          rw [en_other v ha, st_other v ha, List.drop_succ_cons]
          congr 2
          omega
theorem tx_len (v : List Int) (j : Nat) (h : j ≤ nlC v) : (txC v j).length = enC v j - stC v j := by
  have := st_en v j h
  unfold txC
  simp
  omega
/-- Lists of lines in memory. -/
def SlRR (w : World) (v : Value) (ls : List (List Int)) : Prop := ∃ g c, v = .slice (some ⟨g, 0, none⟩) ls.length c ∧ g < w.heap.size ∧ ∀ (i : Nat) (x : List Int), ls[i]? = some x → ∃ a k, w.cell? ⟨g, i, none⟩ = some (.slice a x.length k) ∧ SlR w (.slice a x.length k) x
theorem SlR.later {w w' : World} {v : Value} {cs : List Int} (h : SlR w v cs) (hb : Below w.heap.size w w') : SlR w' v cs := by
  rcases h with h | ⟨g, o_, c, e, hg, hc⟩
  · exact .inl h
  · exact .inr ⟨g, o_, c, e, Nat.lt_of_lt_of_le hg hb.size, fun i x hx => by rw [hb.cell (p := ⟨g, o_ + i, none⟩) hg]; exact hc i x hx⟩
theorem SlRR.later {w w' : World} {v : Value} {ls : List (List Int)} (h : SlRR w v ls) (hb : Below w.heap.size w w') : SlRR w' v ls := by
  obtain ⟨g, c, h1, h2, h3⟩ := h
  refine ⟨g, c, h1, Nat.lt_of_lt_of_le h2 hb.size, fun i x hx => ?_⟩
  obtain ⟨a, k, e1, e2⟩ := h3 i x hx
  exact ⟨a, k, by rw [hb.cell (p := ⟨g, i, none⟩) h2]; exact e1, e2.later hb⟩
theorem SpM.all {base B : Nat} {v : Value} {vs : List Value} {vl : Value} {dn : List (List Int)} {cur : List Int} {w : World} (h : SpM base B v vs vl dn cur w) : SlRR w v (dn ++ [cur]) := by
  obtain ⟨g, c, c0, e1, _, e3, _⟩ := h.form
  refine ⟨g, c, by rw [e1]; simp, (Array.getElem?_eq_some_iff.1 e3).1, fun i x hx => ?_⟩
  have fin : ∀ u, (vs ++ [vl])[i]? = some u → SlR w u x → ∃ a k, w.cell? ⟨g, i, none⟩ = some (.slice a x.length k) ∧ SlR w (.slice a x.length k) x := fun u hu hs => by
    obtain ⟨a, k, rfl⟩ := hs.form
    exact ⟨a, k, h.cell e1 hu, hs⟩
  rw [List.getElem?_append] at hx
  split at hx
  · rename_i hi
    obtain ⟨u, a1, a2⟩ := h.old i x hx
    exact fin u (by rw [List.getElem?_append_left (by rw [h.len]; exact hi)]; exact a1) (a2.sl h.hi)
  · rename_i hi
    have e0 : i - dn.length = 0 := by
      rcases Nat.eq_zero_or_pos (i - dn.length) with h0 | h0
      · exact h0
      · rw [List.getElem?_eq_none (by simp; omega)] at hx; cases hx
    rw [e0] at hx
    simp at hx
    subst hx
    exact fin vl (by rw [List.getElem?_append_right (by rw [h.len]; omega), h.len, e0]; rfl) h.own.sl
theorem refSplit_ok {w : World} {u : Value} {vv : List Int} (hu : SlR w u vv) (hn : vv.length ≤ 100000) :
    Calls Tryz.prog 9 #[u] w fun r w' => ∃ v, r = .returned v ∧ SlRR w' v (spl vv) ∧ Below w.heap.size w w' := by
  refine (refSplit_any hu hn).mono ?_
  rintro r w' ⟨B, v, vs, vl, h1, h2, h3⟩
  exact ⟨v, h1, h2.all, h3⟩
end Go.Proofs.YtdmiibihibikdaaGreatDoor
namespace Go.Proofs.YtdmiibihibikdaaGreatDoor
open Go.RowKit Go.Extern.Stop Go.Stop Go.Extern
set_option maxRecDepth 100000

theorem sumS_next : ∀ (ls : List (List Int)) (j : Nat) (x : List Int), ls[j]? = some x → sumS ls (j + 1) = sumS ls j + x.length + 1
  | [], j, x, h => by simp at h
  | y :: t, 0, x, h => by
    simp only [List.getElem?_cons_zero, Option.some.injEq] at h
    subst h
    show y.length + 1 + sumS t 0 = _
    cases t <;> simp [sumS]
  | y :: t, j + 1, x, h => by
    have := sumS_next t j x (by simpa using h)
    show y.length + 1 + sumS t (j + 1) = y.length + 1 + sumS t j + x.length + 1
    omega
theorem sumS_le : ∀ (ls : List (List Int)) (j : Nat), sumS ls j ≤ sumS ls ls.length
  | ls, 0 => by simp [sumS]
  | [], j + 1 => by simp [sumS]
  | y :: t, j + 1 => by have := sumS_le t j; show y.length + 1 + sumS t j ≤ y.length + 1 + sumS t t.length; omega
set_option maxHeartbeats 1000000 in
theorem refStart_any {w : World} {v : Value} {ls : List (List Int)} (h : SlRR w v ls) (j : Nat) (hj : j ≤ ls.length) (hb : sumS ls ls.length ≤ 1000000) (hl : ls.length ≤ 1000000) :
    Calls Tryz.prog 14 #[v, .int .i64 (j : Int)] w fun r w' => r = .returned (.int .i64 (sumS ls j : Int)) ∧ w' = w := by
  obtain ⟨g, c, rfl, hg, hc⟩ := h
  go_enter Tryz.func14, Tryz.ntmps14
  go_wp2
  go_loopw [5, 6] (fun nv iv wr => ∃ i : Nat, nv = .int .i64 (sumS ls i : Int) ∧ iv = .int .i64 (i : Int) ∧ i ≤ j ∧ wr = w) (fun _ iv _ => j - (intOf iv).toNat)
  case atStart => exact ⟨0, by cases ls <;> rfl, rfl, Nat.zero_le _, rfl⟩
  case round =>
    obtain ⟨i, rfl, rfl, hi, rfl⟩ := hrel
    by_cases hlt : i < j
    · have q1 : (i : Int) < (j : Int) := by omega
      have q2 : (i : Int) < (ls.length : Int) := by omega
      obtain ⟨x, hx⟩ : ∃ x, ls[i]? = some x := ⟨_, List.getElem?_eq_getElem (by omega)⟩
      obtain ⟨a, k, hcell, _⟩ := hc i x hx
      have hnx := sumS_next ls i x hx
      have hle := sumS_le ls (i + 1)
      have hw1 : wrap64 ((sumS ls i : Int) + (x.length : Int)) = (sumS ls i : Int) + (x.length : Int) := wrapIs (by omega) (by omega)
      have hw2 : wrap64 ((sumS ls i : Int) + (x.length : Int) + 1) = (sumS ls (i + 1) : Int) := by rw [wrapIs (by omega) (by omega)]; omega
      clear hnx hle hx
      go_wp2
      go_roundw
      case rel => exact ⟨i + 1, by rw [← hw2], by go_num, by omega, trivial⟩
      case measure => simp [intOf]; omega
    · obtain rfl : i = j := by omega
      go_wp2
      go_ret
      exact ⟨rfl, rfl⟩
/-- A list of bytes of the call's own. -/
def OwnY (base : Nat) (v : Value) (bs : List UInt8) (w : World) : Prop := w.ownsRow base 5 1 v bs.length (Lib.byteCells bs)
theorem ownY_nil (base : Nat) (w : World) : OwnY base (.slice none 0 0) [] w := ⟨rfl, .inl ⟨rfl, rfl⟩⟩
theorem enc_take {v : List Int} {j : Nat} {c : Int} (h : v[j]? = some c) : encL (v.take (j + 1)) = encL (v.take j) ++ Lib.encodeRune c := by
  rw [List.take_add_one, h]
  show encL (v.take j ++ [c]) = _
  rw [encL_app, encL_one]
theorem cells_new (w : World) (cs : List Value) (t : TypeId) : ∀ (j : Nat) (u : Value), cs[j]? = some u → (w.alloc (.cells cs.toArray t)).cell? ((⟨w.heap.size, 0, none⟩ : Addr).add j) = some u := fun j u hu => by
  have hr := row_new w cs.toArray t
  have hadd : (⟨w.heap.size, 0, none⟩ : Addr).add j = ⟨w.heap.size, j, none⟩ := by unfold Addr.add; split <;> simp_all
  rw [hadd, hr.cell]
  simpa using hu
theorem one_u8 (l : List Int) : ∀ u ∈ l.map (Value.int .u8), u.oneCell' = true := by
  intro u hu
  obtain ⟨x, _, rfl⟩ := List.mem_map.1 hu
  rfl
theorem ownY_next {base : Nat} {v' : Value} {i n : Nat} {vv : List Int} {c : Int} {w9 : World} {cells : List Value} (hc : vv[i]? = some c) (hcells : Lib.runeCells c = cells) (hn : cells.length = n) (h : w9.ownsRow base 5 1 v' ((encL (vv.take i)).length + n) (Lib.byteCells (encL (vv.take i)) ++ cells)) : OwnY base v' (encL (vv.take (i + 1))) w9 := by
  unfold OwnY
  rw [enc_take hc, List.length_append, Lib.byteCells, List.map_append, ← Lib.runeCells_length, hcells, hn]
  rw [← hcells, ← Lib.byteCells_encodeRune] at h
  exact h
set_option maxHeartbeats 4000000 in
theorem refUTF8_any {w : World} {u : Value} {vv : List Int} (hu : SlR w u vv) (hn : vv.length ≤ 100000) (hr : ∀ (i : Nat) (c : Int), vv[i]? = some c → rightC c = true) :
    Calls Tryz.prog 27 #[u] w fun r w' => r = .returned (.string ⟨(encL vv).toArray⟩) ∧ Below w.heap.size w w' := by
  obtain ⟨a1, cu, rfl⟩ := hu.form
  go_enter Tryz.func27, Tryz.ntmps27
  go_wp2
  go_loopw [3, 4] (fun ov iv wr => ∃ i : Nat, iv = .int .i64 (i : Int) ∧ i ≤ vv.length ∧ OwnY w.heap.size ov (encL (vv.take i)) wr ∧ Below w.heap.size w wr) (fun _ iv _ => vv.length - (intOf iv).toNat)
  case atStart => exact ⟨0, rfl, Nat.zero_le _, ownY_nil _ _, Below.refl _ _⟩
  case round =>
    obtain ⟨i, rfl, hi, hO, hB⟩ := hrel
    by_cases hlt : i < vv.length
    · have q1 : (i : Int) < (vv.length : Int) := by omega
      obtain ⟨c, hc⟩ : ∃ c, vv[i]? = some c := ⟨_, List.getElem?_eq_getElem hlt⟩
      have hrc := hr i c hc
      unfold rightC at hrc
      simp at hrc
      obtain ⟨gs, os, cc0, hv, hcell⟩ := hu.at hB hc
      simp only [Value.slice.injEq] at hv
      obtain ⟨rfl, _, rfl⟩ := hv
      obtain ⟨i0, hi0, hi3⟩ := Option.map_eq_some_iff.1 info_byte
      simp only [Prod.mk.injEq] at hi3
      obtain ⟨hz0, hz1, hz2⟩ := hi3
      have hlen : (encL (vv.take i)).length ≤ 400000 := by
        have := encL_le (vv.take i)
        have : (vv.take i).length ≤ vv.length := by simp; omega
        omega
      have hBs := hB.size
      have HL : Hid ((encL (vv.take i)).length + 4 ≤ maxLen ∧ (encL (vv.take i)).length + 4 ≤ 140737488355328 ∧ w.heap.size ≤ wr.heap.size + 1) := ⟨by unfold maxLen; omega, by omega, by omega⟩
      have HO := hid_of' hO
      have HC := hid_of' hc
      obtain ⟨oa, oc, rfl⟩ : ∃ a c', u3 = .slice a (encL (vv.take i)).length c' := by
        rcases hO.2 with ⟨hv, h0⟩ | ⟨g, cap, cur, hv, _⟩
        · exact ⟨none, 0, by rw [hv, h0]⟩
        · exact ⟨_, _, hv⟩
      clear hO hc hlen hr
      by_cases h1 : c < 128
      · have hlo : 0 ≤ c := by omega
        have hhi : c ≤ 127 := by omega
        go_wp2_with (at_builtin; refine wpList_append_own _ rfl _ _ 82 rfl w.heap.size 5 i0 (.int .u8 0) 1 1 Tryz.underlying82 hi0 hz0 hz1 hz2 rfl (by decide) _ _ _ rfl (World.ownsRow.alloc HO.out _) ⟨wr.heap.size, 0, none⟩ 1 1 [.int .u8 _] rfl rfl (cells_new wr _ _) (one_u8 [_]) (by have := HL.out; omega) (by have := HL.out; omega) (by have := HL.out; simp; omega) ?_; intro v9 w9 hown9 hg9 _)
        have hnx := ownY_next HC.out (by simp [Lib.runeCells, Lib.encodeRuneZ_one hlo hhi]) rfl hown9
        have hBn := (hB.alloc hBs _).grown hg9 (by simp; omega) (fun j hj => (World.ownsRow.lt HO.out j hj).1)
        go_roundw
        case rel => exact ⟨i + 1, by go_num, by omega, hnx, hBn⟩
        case measure => simp [intOf]; omega
      · by_cases h2 : c < 2048
        · have hlo : 128 ≤ c := by omega
          have hhi : c ≤ 2047 := by omega
          go_wp2_with (at_builtin; refine wpList_append_own _ rfl _ _ 82 rfl w.heap.size 5 i0 (.int .u8 0) 1 1 Tryz.underlying82 hi0 hz0 hz1 hz2 rfl (by decide) _ _ _ rfl (World.ownsRow.alloc HO.out _) ⟨wr.heap.size, 0, none⟩ 2 2 [.int .u8 _, .int .u8 _] rfl rfl (cells_new wr _ _) (one_u8 [_, _]) (by have := HL.out; omega) (by have := HL.out; omega) (by have := HL.out; simp; omega) ?_; intro v9 w9 hown9 hg9 _)
          have hnx := ownY_next HC.out (by simp [Lib.runeCells, Lib.encodeRuneZ_two hlo hhi]) rfl hown9
          have hBn := (hB.alloc hBs _).grown hg9 (by simp; omega) (fun j hj => (World.ownsRow.lt HO.out j hj).1)
          go_roundw
          case rel => exact ⟨i + 1, by go_num, by omega, hnx, hBn⟩
          case measure => simp [intOf]; omega
        · by_cases h3 : c < 65536
          · have hlo : (2048 ≤ c ∧ c < 55296) ∨ (57343 < c ∧ c ≤ 65535) := by omega
            go_wp2_with (at_builtin; refine wpList_append_own _ rfl _ _ 82 rfl w.heap.size 5 i0 (.int .u8 0) 1 1 Tryz.underlying82 hi0 hz0 hz1 hz2 rfl (by decide) _ _ _ rfl (World.ownsRow.alloc HO.out _) ⟨wr.heap.size, 0, none⟩ 3 3 [.int .u8 _, .int .u8 _, .int .u8 _] rfl rfl (cells_new wr _ _) (one_u8 [_, _, _]) (by have := HL.out; omega) (by have := HL.out; omega) (by have := HL.out; simp; omega) ?_; intro v9 w9 hown9 hg9 _)
            have hnx := ownY_next HC.out (by simp [Lib.runeCells, Lib.encodeRuneZ_three hlo]) rfl hown9
            have hBn := (hB.alloc hBs _).grown hg9 (by simp; omega) (fun j hj => (World.ownsRow.lt HO.out j hj).1)
            go_roundw
            case rel => exact ⟨i + 1, by go_num, by omega, hnx, hBn⟩
            case measure => simp [intOf]; omega
          · have hlo : 65536 ≤ c := by omega
            have hhi : c ≤ 1114111 := by omega
            go_wp2_with (at_builtin; refine wpList_append_own _ rfl _ _ 82 rfl w.heap.size 5 i0 (.int .u8 0) 1 1 Tryz.underlying82 hi0 hz0 hz1 hz2 rfl (by decide) _ _ _ rfl (World.ownsRow.alloc HO.out _) ⟨wr.heap.size, 0, none⟩ 4 4 [.int .u8 _, .int .u8 _, .int .u8 _, .int .u8 _] rfl rfl (cells_new wr _ _) (one_u8 [_, _, _, _]) (by have := HL.out; omega) (by have := HL.out; omega) (by have := HL.out; simp; omega) ?_; intro v9 w9 hown9 hg9 _)
            have hnx := ownY_next HC.out (by simp [Lib.runeCells, Lib.encodeRuneZ_four hlo hhi]) rfl hown9
            have hBn := (hB.alloc hBs _).grown hg9 (by simp; omega) (fun j hj => (World.ownsRow.lt HO.out j hj).1)
            go_roundw
            case rel => exact ⟨i + 1, by go_num, by omega, hnx, hBn⟩
            case measure => simp [intOf]; omega
    · obtain rfl : i = vv.length := by omega
      rw [List.take_length] at hO
      rcases hO.2 with ⟨hv, h0⟩ | ⟨g, cap, cur, hv, hg, hh, hnc, _, hcs, htk⟩
      · subst hv
        have e0 : encL vv = [] := List.length_eq_zero_iff.1 h0
        have hcv : ∀ x : World, (convert 82 9 (.slice none 0 0)).run Tryz.prog x = .ok (.string ⟨#[]⟩) x := fun x => by
          rw [run_convert_bytes_string x 82 9 5 none 0 0 Tryz.underlying82 Tryz.underlying5 Tryz.underlying9]
          simp [Conv.bytesToString]
          rfl
        replace e0 := hid_of' e0
        clear hO hu hn hr
        go_wp2
        go_ret
        exact ⟨by rw [e0.out]; rfl, hB⟩
      · subst hv
        have hcv := run_convert_bytes_back (P := Tryz.prog) wr 82 9 5 ⟨g, 0, none⟩ cap (encL vv) Tryz.underlying82 Tryz.underlying5 Tryz.underlying9 (fun j hj => by
          have hadd : (⟨g, 0, none⟩ : Addr).add j = ⟨g, j, none⟩ := by unfold Addr.add; split <;> simp_all
          rw [hadd, cell_of_row wr g j cur _ _ hh]
          have h1 : (cur.toList.take ((encL vv).length * 1))[j]? = some (.int .u8 ((encL vv)[j].toNat : Int)) := by rw [htk]; simp [Lib.byteCells, hj]
          rw [List.getElem?_take_of_lt (by omega)] at h1
          simpa using h1)
        clear hO hu hn hr htk hh
        go_wp2
        go_ret
        exact ⟨rfl, hB⟩
end Go.Proofs.YtdmiibihibikdaaGreatDoor
