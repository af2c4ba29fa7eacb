
/-
  XformApply: one operation after the other, on a model and on the document's row.
-/
import Derived.Test.YtjalehlmldlooaaGreatDoorZap48
import Derived.Test.YtjalehlmldlooaaGreatDoorZap49
namespace Go.Proofs.YtjalehlmldlooaaGreatDoor
open Go.RowKit Go.Extern.Stop Go.Stop Go.Extern
set_option maxRecDepth 100000

theorem CsIn.kept {S : Nat → Prop} {b off : Nat} {cs : Array Value} {w w' : World} (h : CsIn b off cs w) (c : KeptP S w w') (hn : ¬ S b) : CsIn b off cs w' :=
  ⟨Nat.lt_of_lt_of_le h.1 c.size, fun j v hv => by rw [World.cell?_of_block (w := w) (c.block b h.1 hn)]; exact h.2 j v hv⟩
theorem RowAt.kept {S : Nat → Prop} {b : Nat} {cs : Array Value} {t : TypeId} {w w' : World} (h : RowAt b cs t w) (c : KeptP S w w') (hn : ¬ S b) : RowAt b cs t w' := (c.block b h.lt hn).trans h
theorem XsAt.kept {S : Nat → Prop} {v : Value} {l : List El} {w w' : World} (h : XsAt w v l) (c : KeptP S w w') (hn : ∀ k, v.ownBlock = some k → ¬ S k) : XsAt w' v l := by
  rcases h with h | ⟨g, cc, cs, rfl, h2, h3, h4⟩
  · exact .inl h
  · exact .inr ⟨g, cc, cs, rfl, fun i x hx => (h2 i x hx).kept c (hn g rfl), h3.kept c (hn g rfl), h4⟩
theorem NoS.kept {S : Nat → Prop} {B B' n : Nat} {op : Xo} {v : Value} {w w' : World} (h : NoS B n op v w) (c : KeptP S w w') (hS : ∀ s, S s → s < B) (hB : B' ≤ B) : NoS B' n op v w' := by
  have hn : ∀ s, B ≤ s → ¬ S s := fun s hs q => by have := hS s q; omega
  rcases h with ⟨h, g, g', e1, c1, c2, b1, b2⟩ | ⟨h, g, g', e1, c1, c2, b1, b2⟩ | ⟨h, g, g', c', e1, c1, c2, b1, b2⟩ | h
  · exact .inl ⟨h, g, g', e1, c1.kept c (hn _ b2), c2.kept c (hn _ b1), by omega, by omega⟩
  · exact .inr (.inl ⟨h, g, g', e1, c1.kept c (hn _ b2), c2.kept c (hn _ b1), by omega, by omega⟩)
  · exact .inr (.inr (.inl ⟨h, g, g', c', e1, c1.kept c (hn _ b2), c2.kept c (hn _ b1), by omega, by omega⟩))
  · exact .inr (.inr (.inr h))
theorem NoS.k2 {B n tb kb : Nat} {op : Xo} {v : Value} {w w' : World} (h : NoS B n op v w) (c : K2 tb kb w w') (h1 : tb < B) (h2 : kb < B) : NoS B n op v w' := by
  rcases h with ⟨h, g, g', e1, c1, c2, b1, b2⟩ | ⟨h, g, g', e1, c1, c2, b1, b2⟩ | ⟨h, g, g', c', e1, c1, c2, b1, b2⟩ | h
  · exact .inl ⟨h, g, g', e1, c1.k2 c (by omega) (by omega), c2.k2 c (by omega) (by omega), b1, b2⟩
  · exact .inr (.inl ⟨h, g, g', e1, c1.k2 c (by omega) (by omega), c2.k2 c (by omega) (by omega), b1, b2⟩)
  · exact .inr (.inr (.inl ⟨h, g, g', c', e1, c1.k2 c (by omega) (by omega), c2.k2 c (by omega) (by omega), b1, b2⟩))
  · exact .inr (.inr (.inr h))
theorem NoS.form {B n : Nat} {op : Xo} {v : Value} {w : World} (h : NoS B n op v w) : ∃ z0 z1 z2 z3 z4 z5 z6, v = .agg (nov z0 z1 z2 z3 z4 z5 z6) := by
  rcases h with ⟨_, g, g', e1, _⟩ | ⟨_, g, g', e1, _⟩ | ⟨_, g, g', c', e1, _⟩ | ⟨_, e1⟩ <;> exact ⟨_, _, _, _, _, _, _, e1⟩
theorem RfO.kept {S : Nat → Prop} {B B' : Nat} {u : Value} {l : List El} {op : Xo} {ix : Idn} {vr vn : Value} {w w' : World} (h : RfO B u l op ix vr vn w) (c : KeptP S w w') (hB : B' ≤ B) (hS : ∀ s, S s → s < B) (hS' : ∀ s, S s → B' ≤ s) (hu : ∀ k, u.ownBlock = some k → k < B') : XsAt w' vr (nxtL l op ix) ∧ NoS B' (vdO l op ix) op vn w' := by
  obtain ⟨h1, h2, h3⟩ := h
  refine ⟨h1.kept c fun k hk q => ?_, h3.kept c hS hB⟩
  have := hS k q
  have := hS' k q
  rcases h2 with rfl | h2
  · have := hu k hk; omega
  · have := h2 k hk; omega
theorem Mo.xs {mb tb kb N : Nat} {R : Rows} {l m : List El} {v : Value} {w w' : World} (h : Mo mb tb kb N R l w) (hx : XsAt w v m) (k : K2 tb kb w w') : XsAt w' v m := by
  obtain ⟨n, f, _, hM, _⟩ := h
  obtain ⟨ls, v1, ht, _⟩ := hM.tree
  refine hx.k2 k ht (by decide) ?_
  obtain ⟨D, ⟨es, cl, h1, _⟩, _⟩ := hM.map
  exact ⟨_, h1, rfl⟩
theorem Mo.lts {mb tb kb N : Nat} {R : Rows} {l : List El} {w : World} (h : Mo mb tb kb N R l w) : tb < w.heap.size ∧ kb < w.heap.size := by
  obtain ⟨n, f, _, hM, _⟩ := h
  obtain ⟨ls, v1, ht, _⟩ := hM.tree
  exact ⟨ht.lt, hM.map.lt⟩
theorem XsAt.lt {v : Value} {l : List El} {w : World} (h : XsAt w v l) : ∀ k, v.ownBlock = some k → k < w.heap.size := fun k hk => by
  rcases h with ⟨_, rfl⟩ | ⟨g, cc, cs, rfl, h2, h3, h4⟩
  · cases hk
  · cases hk; exact h3.lt
/-- IDs in memory. -/
def SlJ (w : World) (v : Value) (l : List Idn) : Prop := (l = [] ∧ ∃ a c, v = .slice a 0 c) ∨ ∃ g o_ c, v = .slice (some ⟨g, o_, none⟩) l.length c ∧ ∀ (i : Nat) (x : Idn), l[i]? = some x → CsIn g (o_ + i * 3) (idc x.a x.b x.c) w
theorem SlJ.later {w w' : World} {v : Value} {l : List Idn} (h : SlJ w v l) (hb : Below w.heap.size w w') : SlJ w' v l := by
  rcases h with ⟨h1, h2⟩ | ⟨g, o_, c, h1, h2⟩
  · exact .inl ⟨h1, h2⟩
  · exact .inr ⟨g, o_, c, h1, fun i x hx => (h2 i x hx).later hb⟩
theorem SlJ.form {w : World} {v : Value} {l : List Idn} (h : SlJ w v l) : ∃ a c, v = .slice a l.length c := by
  rcases h with ⟨h1, a, c, h2⟩ | ⟨g, o_, c, h1, _⟩
  · subst h1; exact ⟨a, c, h2⟩
  · exact ⟨_, c, h1⟩
theorem wpL_storeI {ops : Array Oper} {rest : List Oper} {o : Oper} {A : Act} {w : World} {Q : Exit → Act → World → Prop} (hgd : o.guard = none) (x y : Operand) (ho : o.op = .store 32 x y) {g : Nat} (hx : A.eval x = .pointer (some ⟨g, 0, none⟩)) {i : Idn} (hy : A.eval y = .agg (idc i.a i.b i.c)) {c0 c1 c2 : Value} (h : RowAt g #[c0, c1, c2] 32 w)
    (k : wpList Tryz.prog ops Q rest (A.put o.dst undef) (w.setRow g (idc i.a i.b i.c))) : wpList Tryz.prog ops Q (o :: rest) A w :=
  wpList_store_row hgd _ x y ho g (idc i.a i.b i.c) hx hy _ _ h (by kernel_rfl : (Tryz.prog.info? 32).map (·.size) = some 3) rfl (by simp [idc, Value.oneCell']) k
end Go.Proofs.YtjalehlmldlooaaGreatDoor
