
/-
  Package script: charOf, hasText, rows of steps.
-/
import Derived.Test.YtphdkniplhkkfaaDoorSq1
import Derived.LoopN
namespace Go.Proofs.YtphdkniplhkkfaaDoor
open Go.RowKit Go.Extern.Stop Go.Stop Go.Extern
set_option maxRecDepth 100000

/-- A row of steps of one's own. -/
def RwT (v : Value) (l : List Stp) (w : World) : Prop := Rw 30 5 v l.length (fc stc l) w
theorem info_t : (Tryd.prog.info? 30).map (fun i => (i.zero, i.size, i.bytes)) = some (some (.agg #[.int .i64 0, .int .i64 0, .int .i64 0, .int .i64 0, .string .empty]), 5, 48) := by kernel_rfl
theorem RwT.later {v : Value} {l : List Stp} {w w' : World} (h : RwT v l w) (hb : Below w.heap.size w w') : RwT v l w' := Rw.later h hb
theorem RwT.nil (w : World) : RwT (.slice none 0 0) [] w := Rw.nil _ _ _
theorem RwT.so {v : Value} {l : List Stp} {w : World} (h : RwT v l w) : So 5 v l.length (fc stc l) w := Rw.so h
section
variable {ops : Array Oper} {rest : List Oper} {o : Oper} {A : Act} {w : World} {Q : Exit → Act → World → Prop}
theorem wpL_appT (hgd : o.guard = none) (s x : Operand) (ho : o.op = .call { callee := .builtin .append, args := #[s, x], argTypes := #[22, 22] })
    {u v : Value} {l m : List Stp} (hs : A.eval s = v) (hx : A.eval x = u) (hv : RwT v l w) (hu : So 5 u m.length (fc stc m) w) (hl : l.length + m.length ≤ 2199023255552)
    (k : ∀ v' w', RwT v' (l ++ m) w' → w.grownBy w' v.ownBlock → At' w v v' → wpList Tryd.prog ops Q rest (A.put o.dst v') w') : wpList Tryd.prog ops Q (o :: rest) A w := by
  obtain ⟨i0, hi, h1, h2, h3⟩ := info_parts info_t
  refine wpL_app (P := Tryd.prog) hgd s x 22 ho 30 i0 _ 5 48 Tryd.underlying22 hi h1 h2 h3 rfl hs hx hv hu (stc_one _) (by unfold maxLen; omega) (by omega) fun v' w' q1 q2 q3 => k v' w' ?_ q2 q3
  unfold RwT
  rw [List.length_append, fc_app]
  exact q1
end
/-- The cells of one of a row. -/
theorem RwT.at {a : Option Addr} {n c : Nat} {l : List Stp} {w : World} (h : RwT (.slice a n c) l w) {i : Nat} {e : Stp} (he : l[i]? = some e) : ∃ g, a = some ⟨g, 0, none⟩ ∧ g < w.heap.size ∧ CsIn g (i * 5) (stc e).toArray w := by
  have h9 := h
  have hlt := Rw.lt h
  have hil := (List.getElem?_eq_some_iff.1 he).1
  rcases h.2 with ⟨hv, hn⟩ | ⟨g, cap, cur, hv, hg, _⟩
  · omega
  · cases hv
    refine ⟨g, rfl, hlt g rfl, hlt g rfl, fun j u hj => ?_⟩
    have h5 : j < 5 := by
      have := (Array.getElem?_eq_some_iff.1 hj).1
      simpa [stc] using this
    have := Rw.cells (o := 0) h9 (i * 5 + j) u (fc_at stc_len l i e he j u (by simpa using hj))
    rwa [Nat.zero_add] at this
theorem hasT_is (k : Int) (w : World) : Calls Tryd.prog 23 #[.int .i64 k] w fun e w' => e = .returned (.bool (hasT k)) ∧ w' = w := by
  unfold hasT
  by_cases h0 : k = 0
  · subst h0
    go_enter Tryd.func23, Tryd.ntmps23
    go_wp2
    go_ret
    exact ⟨rfl, rfl⟩
  · by_cases h4 : k = 4
    · subst h4
      go_enter Tryd.func23, Tryd.ntmps23
      go_wp2
      go_ret
      exact ⟨rfl, rfl⟩
    · go_enter Tryd.func23, Tryd.ntmps23
      go_wp2
      go_ret
      exact ⟨by simp [h0, h4], rfl⟩
theorem charOf_is (n : Nat) (hn : n < 256) (w : World) : Calls Tryd.prog 42 #[.int .u8 (n : Int)] w fun e w' => e = .returned (.int .i32 (chN n)) ∧ w' = w := by
  unfold chN
  by_cases h1 : 240 ≤ n
  · have hi : (240 : Int) ≤ (n : Int) := by omega
    rw [if_pos h1]
    go_enter Tryd.func42, Tryd.ntmps42
    go_wp2
    go_ret
    exact ⟨rfl, rfl⟩
  · rw [if_neg h1]
    have hi : ¬ (240 : Int) ≤ (n : Int) := by omega
    by_cases h2 : 224 ≤ n
    · have hj : (224 : Int) ≤ (n : Int) := by omega
      rw [if_pos h2]
      go_enter Tryd.func42, Tryd.ntmps42
      go_wp2
      go_ret
      exact ⟨rfl, rfl⟩
    · rw [if_neg h2]
      have hj : ¬ (224 : Int) ≤ (n : Int) := by omega
      by_cases h3 : 208 ≤ n
      · have hk : (208 : Int) ≤ (n : Int) := by omega
        rw [if_pos h3]
        go_enter Tryd.func42, Tryd.ntmps42
        go_wp2
        go_ret
        exact ⟨rfl, rfl⟩
      · rw [if_neg h3]
        have hk : ¬ (208 : Int) ≤ (n : Int) := by omega
        go_enter Tryd.func42, Tryd.ntmps42
        go_wp2
        go_ret
        exact ⟨rfl, rfl⟩
end Go.Proofs.YtphdkniplhkkfaaDoor
