
/-
  Rows of acts of one's own: append of one.
-/
import Derived.Test.YteffpnjgchihpaaGreatDoorPB34
import Derived.Laws.AppendOwn
import Derived.Lib.AppendZeros
import Derived.Lib.SlFresh
import Derived.Great.BuildSlice
import Derived.Great.FillDense
namespace Go.Proofs.YteffpnjgchihpaaGreatDoor
open Go.RowKit
set_option maxRecDepth 100000

def acells (l : List Pac) : List Value := (l.map acl).flatten
theorem acells_len : ∀ l : List Pac, (∀ a ∈ l, shA a) → (acells l).length = l.length * 13
  | [], _ => rfl
  | a :: l, h => by
    have ih := acells_len l (fun x hx => h x (by simp [hx]))
    have h1 := acl_len (h a (by simp))
    unfold acells at ih ⊢
    simp only [List.map_cons, List.flatten_cons, List.length_append, List.length_cons, ih, h1]
    omega
theorem acells_app (a b : List Pac) : acells (a ++ b) = acells a ++ acells b := by simp [acells]
theorem acells_one (a : Pac) : acells [a] = acl a := by simp [acells]
theorem acells_at : ∀ (l : List Pac), (∀ a ∈ l, shA a) → ∀ (i : Nat) (a : Pac), l[i]? = some a → ∀ (j : Nat) (v : Value), (acv a)[j]? = some v → (acells l)[i * 13 + j]? = some v
  | [], _, _, _, h, _, _, _ => by simp at h
  | x :: l, hs, 0, a, h, j, v, hv => by
    simp at h; subst h
    rw [Nat.zero_mul, Nat.zero_add]
    unfold acells
    simp only [List.map_cons, List.flatten_cons]
    exact at_app0 (by simpa [acv] using hv)
  | x :: l, hs, i + 1, a, h, j, v, hv => by
    have ih := acells_at l (fun y hy => hs y (by simp [hy])) i a (by simpa using h) j v hv
    have := at_app (A := acl x) ih
    rw [acl_len (hs x (by simp))] at this
    rw [show (i + 1) * 13 + j = 13 + (i * 13 + j) by omega]
    exact this
theorem acells_cell (l : List Pac) : ∀ u ∈ acells l, u.oneCell' = true := by
  intro v hv
  simp only [acells, List.mem_flatten, List.mem_map] at hv
  obtain ⟨_, ⟨r, _, rfl⟩, h⟩ := hv
  exact acl_one r v h

/-- A row of acts that is one's own. -/
def OwnA (base : Nat) (v : Value) (l : List Pac) (w : World) : Prop := w.ownsRow base 60 13 v l.length (acells l)
theorem OwnA.sl {base : Nat} {v : Value} {l : List Pac} {w : World} (h : OwnA base v l w) (hs : ∀ a ∈ l, shA a) : SlA w v l := by
  have h0 := h
  rcases h.2 with ⟨rfl, hn⟩ | ⟨g, cap, cur, rfl, _, hg, _⟩
  · exact .inl ⟨List.length_eq_zero_iff.1 hn, none, 0, rfl⟩
  · have hlt := (Array.getElem?_eq_some_iff.1 hg).1
    refine .inr ⟨g, 0, cap, rfl, hlt, fun i a ha => ⟨hlt, fun j v hv => ?_⟩⟩
    have := (World.ownsRow.cells h0 (g := g) rfl) (i * 13 + j) v (acells_at l hs i a ha j v hv)
    rw [Nat.zero_add]
    simpa [Addr.add_lit] using this
theorem OwnA.lt {base : Nat} {v : Value} {l : List Pac} {w : World} (h : OwnA base v l w) : ∀ k, v.ownBlock = some k → base ≤ k ∧ k < w.heap.size := fun k hk => World.ownsRow.lt h k hk
theorem OwnA.form {base : Nat} {v : Value} {l : List Pac} {w : World} (h : OwnA base v l w) : ∃ a c, v = .slice a l.length c := by
  rcases h.2 with ⟨rfl, hn⟩ | ⟨g, cap, cur, rfl, _⟩
  · exact ⟨none, 0, by rw [hn]⟩
  · exact ⟨_, _, rfl⟩
theorem OwnA.kept {base : Nat} {v : Value} {l : List Pac} {S : List Nat} {w w' : World} (h : OwnA base v l w) (k : Kept S w w') (hS : ∀ s ∈ S, s < base) : OwnA base v l w' := by
  unfold OwnA at h ⊢
  rcases h.2 with ⟨rfl, hn⟩ | ⟨g, cap, cur, rfl, hb, hg, rest⟩
  · exact ⟨h.1, .inl ⟨rfl, hn⟩⟩
  · exact ⟨h.1, .inr ⟨g, cap, cur, rfl, hb, k.heap hg (fun hm => by have := hS g hm; omega), rest⟩⟩
theorem info_act : (Tryz.prog.info? 60).map (fun i => (i.zero, i.size, i.bytes)) = some (some (.agg (acv zeroA)), 13, 104) := by kernel_rfl
theorem run_appA {base : Nat} {v : Value} {xs : List Pac} {w : World} (ty : TypeId) (hown : OwnA base v xs w) {g c : Nat} {a : Pac} (ha : shA a) (hu : RowAt g (acv a) 60 w) (hlen : xs.length + 1 ≤ 1000000000) (hbase : base ≤ w.heap.size) :
    ∃ v' w', (Builtin.append_ #[25, 25] ty #[v, .slice (some ⟨g, 0, none⟩) 1 c]).run Tryz.prog w = .ok v' w' ∧ OwnA base v' (xs ++ [a]) w' ∧ w.grownBy w' v.ownBlock := by
  obtain ⟨i0, hi, hi3⟩ := Option.map_eq_some_iff.1 info_act
  simp only [Prod.mk.injEq] at hi3
  obtain ⟨hz0, hz1, hz2⟩ := hi3
  obtain ⟨v', w', h1, h2, h3, _⟩ := run_append_own (P := Tryz.prog) w base 25 ty 60 i0 _ 13 104 Tryz.underlying25 hi hz0 hz1 hz2 rfl (by decide) v xs.length (acells xs) hown ⟨g, 0, none⟩ 1 c (acl a) (by rw [acl_len ha]) (fun j x hx => by
    rw [Addr.add_lit, Nat.zero_add, hu.cell]; simpa [acv] using hx) (acl_one a) (by unfold maxLen; omega) (by omega) hbase
  refine ⟨v', w', h1, ?_, h3⟩
  unfold OwnA
  rw [List.length_append, acells_app, acells_one]
  exact h2
theorem wpL_appA {ops : Array Oper} {rest : List Oper} {o : Oper} {A : Act} {w : World} {Q : Exit → Act → World → Prop} (hgd : o.guard = none) (s x : Operand) (ho : o.op = .call { callee := .builtin .append, args := #[s, x], argTypes := #[25, 25] })
    {base : Nat} {v : Value} {xs : List Pac} {g c : Nat} {a : Pac} (hs : A.eval s = v) (hx : A.eval x = .slice (some ⟨g, 0, none⟩) 1 c) (hown : OwnA base v xs w) (ha : shA a) (hu : RowAt g (acv a) 60 w) (hlen : xs.length + 1 ≤ 1000000000) (hbase : base ≤ w.heap.size)
    (k : ∀ v' w', OwnA base v' (xs ++ [a]) w' → w.grownBy w' v.ownBlock → wpList Tryz.prog ops Q rest (A.put o.dst v') w') : wpList Tryz.prog ops Q (o :: rest) A w := by
  obtain ⟨v', w', h1, h2, h3⟩ := run_appA o.type hown ha hu hlen hbase
  exact Lib.wpList_append_run_sl w hgd s x _ ho v _ hs hx h1 (k v' w' h2 h3)
theorem wpL_bs1 {ops : Array Oper} {rest : List Oper} {o : Oper} {A : Act} {w : World} {Q : Exit → Act → World → Prop} (hgd : o.guard = none) (x : Operand) (ho : o.op = .buildSlice 25 1 #[(0, x)]) {a : Pac} (ha : shA a) (hx : A.eval x = .agg (acv a))
    (k : wpList Tryz.prog ops Q rest (A.put o.dst (.slice (some ⟨w.heap.size, 0, none⟩) 1 1)) (w.alloc (.cells (acv a) 60))) : wpList Tryz.prog ops Q (o :: rest) A w := by
  have hs : (Tryz.prog.info? 60).isSome = true := by kernel_rfl
  have sz : ((Tryz.prog.info? 60).get hs).size = 13 := by kernel_rfl
  have e : ((#[(0, x)] : Array (Nat × Operand)).map fun (i, x) => (i, A.eval x)).toList = [(0, .agg (acv a))] := by
    simp only [List.map_toArray, List.map_cons, List.map_nil, hx]
  refine wpList_buildSlice hgd _ 60 1 _ ho (acv a) ((Tryz.prog.info? 60).get hs) (.agg (acv zeroA)) (by kernel_rfl) (Option.some_get hs).symm (by kernel_rfl) (by rw [sz]; decide) (by rw [sz]; decide) ?_ k
  rw [e, sz]
  have hf := Great.fill_whole (s := 13) (by decide) [.agg (acv a)] ((Array.range (1 * 13)).map ((Value.agg (acv zeroA)).cells[· % (Value.agg (acv zeroA)).cells.size]!)) (fun v hv => by
    simp at hv; subst hv; exact acv_sz ha) (by simp)
  simp only [List.zipIdx_cons, List.zipIdx_nil, List.map_cons, List.map_nil, List.flatMap_cons, List.flatMap_nil, List.append_nil] at hf
  rw [hf]
  simp [Value.cells]
end Go.Proofs.YteffpnjgchihpaaGreatDoor
