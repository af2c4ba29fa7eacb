
/-
  Rows of acts in memory; names of acts as a map's keys; an Inbox in memory.
-/
import Derived.Test.YtlgdaaofpjpobaaDoorZca12
import Derived.Test.YtlgdaaofpjpobaaDoorZca13
import Derived.Maps.OwnSet
import Derived.DeepKeys4
import Derived.Deep.RegionWith
import Derived.BigRegion
import Derived.OwnWalk
namespace Go.Proofs.YtlgdaaofpjpobaaDoor
open Go.RowKit Go.Maps
set_option maxRecDepth 100000

theorem info_parts {P : Program} {t : TypeId} {z : Value} {s b : Nat} (h : (P.info? t).map (fun i => (i.zero, i.size, i.bytes)) = some (some z, s, b)) : ∃ i, P.info? t = some i ∧ i.zero = some z ∧ i.size = s ∧ i.bytes = b := by
  obtain ⟨i, h1, h2⟩ := Option.map_eq_some_iff.1 h
  simp only [Prod.mk.injEq] at h2
  exact ⟨i, h1, h2.1, h2.2.1, h2.2.2⟩
theorem hid_of' {p : Prop} (h : p) : Hid p := h
theorem row_new (w : World) (cs : Array Value) (t : TypeId) : RowAt w.heap.size cs t (w.alloc (.cells cs t)) := heap_alloc_last w _
theorem row_new2 (w : World) (o : Obj) (cs : Array Value) (t : TypeId) : RowAt (w.heap.size + 1) cs t ((w.alloc o).alloc (.cells cs t)) := by
  have := heap_alloc_last (w.alloc o) (.cells cs t)
  rw [World.size_alloc] at this
  exact this
theorem below_two (w : World) (o o' : Obj) : Below w.heap.size w ((w.alloc o).alloc o') := bgo (below_one w o) (below_one _ o')
theorem RowAt.cellIs {b : Nat} {cs : Array Value} {t : TypeId} {w : World} (h : RowAt b cs t w) (k : Nat) {v : Value} (hv : cs[k]? = some v) : w.cell? ⟨b, k, none⟩ = some v := (h.cell k).trans hv
theorem RowAt.froz {b : Nat} {cs : Array Value} {t : TypeId} {w : World} (h : RowAt b cs t w) (k : Nat) : w.frozen? ⟨b, k, none⟩ = false := Lib.frozen_of_heap h k

/-- The cells of a row of acts. -/
def acells : List Ac → List Value
  | [] => []
  | x :: l => (acv x).toList ++ acells l
/-- Every one has a clock of eight entries, all of them ints. -/
def AFit (l : List Ac) : Prop := ∀ x ∈ l, x.Fit
theorem acv_len {x : Ac} (h : x.Fit) : (acv x).toList.length = 13 := by rw [Array.length_toList, acv_size x h.1.1]
theorem AFit.nil : AFit [] := fun x h => by cases h
theorem AFit.cons {x : Ac} {l : List Ac} (h : x.Fit) (k : AFit l) : AFit (x :: l) := fun y hy => by
  rcases List.mem_cons.1 hy with rfl | hy
  · exact h
  · exact k y hy
theorem AFit.head {x : Ac} {l : List Ac} (h : AFit (x :: l)) : x.Fit := h x (by simp)
theorem AFit.tail {x : Ac} {l : List Ac} (h : AFit (x :: l)) : AFit l := fun y hy => h y (by simp [hy])
theorem AFit.app {a b : List Ac} (h : AFit a) (k : AFit b) : AFit (a ++ b) := fun y hy => (List.mem_append.1 hy).elim (h y) (k y)
theorem AFit.one {x : Ac} (h : x.Fit) : AFit [x] := AFit.cons h AFit.nil
theorem AFit.sub {a b : List Ac} (h : AFit b) (k : ∀ x ∈ a, x ∈ b) : AFit a := fun y hy => h y (k y hy)
theorem AFit.take {l : List Ac} (h : AFit l) (n : Nat) : AFit (l.take n) := h.sub fun _ hx => List.mem_of_mem_take hx
theorem AFit.drop {l : List Ac} (h : AFit l) (n : Nat) : AFit (l.drop n) := h.sub fun _ hx => List.mem_of_mem_drop hx
theorem AFit.at {l : List Ac} (h : AFit l) {i : Nat} {x : Ac} (hx : l[i]? = some x) : x.Fit := h x (List.mem_of_getElem? hx)
theorem acells_len : ∀ {l : List Ac}, AFit l → (acells l).length = l.length * 13
  | [], _ => rfl
  | x :: l, h => by simp only [acells, List.length_append, acv_len h.head, acells_len h.tail, List.length_cons]; omega
theorem acells_app : ∀ a b : List Ac, acells (a ++ b) = acells a ++ acells b
  | [], _ => rfl
  | x :: r, b => by simp [acells, acells_app r b]
theorem acells_one (x : Ac) : acells [x] = (acv x).toList := by simp [acells]
theorem acells_at : ∀ {l : List Ac} {i : Nat} {x : Ac}, AFit l → l[i]? = some x → ∀ j v, (acv x)[j]? = some v → (acells l)[i * 13 + j]? = some v
  | [], i, x, _, h, _, _, _ => by simp at h
  | y :: r, 0, x, hf, h, j, v, hv => by
    simp only [List.getElem?_cons_zero, Option.some.injEq] at h
    subst h
    have hj : j < 13 := by
      have := (Array.getElem?_eq_some_iff.1 hv).1
      rwa [acv_size _ hf.head.1.1] at this
    simp only [acells, Nat.zero_mul, Nat.zero_add]
    rw [List.getElem?_append_left (by rw [acv_len hf.head]; exact hj)]
    simpa using hv
  | y :: r, i + 1, x, hf, h, j, v, hv => by
    have ih := acells_at hf.tail (i := i) (by simpa using h) j v hv
    simp only [acells]
    rw [List.getElem?_append_right (by rw [acv_len hf.head]; omega), acv_len hf.head, show (i + 1) * 13 + j - 13 = i * 13 + j by omega]
    exact ih
theorem acells_take : ∀ {l : List Ac} (n : Nat), AFit l → (acells l).take (n * 13) = acells (l.take n)
  | [], n, _ => by simp [acells]
  | x :: l, 0, _ => by simp [acells]
  | x :: l, n + 1, h => by
    simp only [acells, List.take_succ_cons]
    rw [List.take_append, acv_len h.head, show (n + 1) * 13 - 13 = n * 13 by omega, acells_take n h.tail, List.take_of_length_le (by rw [acv_len h.head]; omega)]
theorem acells_drop : ∀ {l : List Ac} (n : Nat), AFit l → (acells l).drop (n * 13) = acells (l.drop n)
  | [], n, _ => by simp [acells]
  | x :: l, 0, _ => by simp [acells]
  | x :: l, n + 1, h => by
    simp only [acells, List.drop_succ_cons]
    rw [List.drop_append, acv_len h.head, show (n + 1) * 13 - 13 = n * 13 by omega, acells_drop n h.tail, List.drop_of_length_le (by rw [acv_len h.head]; omega), List.nil_append]
theorem acv_one (x : Ac) : ∀ v ∈ (acv x).toList, v.oneCell' = true := by
  intro v hv
  simp only [acv, cv, Array.toList_append, List.mem_append] at hv
  rcases hv with hv | hv
  · simp at hv
    rcases hv with rfl | rfl | rfl | rfl | rfl <;> rfl
  · simp at hv
    obtain ⟨a, _, rfl⟩ := hv
    rfl
theorem acv_allOne (x : Ac) : (acv x).all (·.oneCell') = true := by
  rw [Array.all_eq_true_iff_forall_mem]
  intro v hv
  exact acv_one x v (by simpa using hv)
theorem acells_oneC : ∀ l : List Ac, ∀ v ∈ acells l, v.oneCell' = true
  | [], v, h => by simp [acells] at h
  | x :: l, v, h => by
    rcases List.mem_append.1 h with h | h
    · exact acv_one x v h
    · exact acells_oneC l v h
theorem a_size {x : Ac} (h : x.Fit) : (Tryd.prog.info? 48).map (·.size) = some (acv x).size := ac_size h.1.1
/-- No act. -/
def ac0 : Ac := ⟨0, 0, 0, 0, 0, ck0⟩
theorem ac0_fit : ac0.Fit := by
  refine ⟨⟨rfl, fun k hk => ?_⟩, by unfold fitsI ac0; decide⟩
  match k, hk with
  | 0, _ | 1, _ | 2, _ | 3, _ | 4, _ | 5, _ | 6, _ | 7, _ => unfold fitsI en ac0 ck0; decide
theorem info_a : (Tryd.prog.info? 48).map (fun i => (i.zero, i.size, i.bytes)) = some (some (.agg (acv ac0)), 13, 104) := by kernel_rfl

/-- Acts that are only read. -/
def SlC (w : World) (v : Value) (l : List Ac) : Prop :=
  (l = [] ∧ ∃ a c, v = .slice a 0 c) ∨ ∃ g o c, v = .slice (some ⟨g, o, none⟩) l.length c ∧ g < w.heap.size ∧ ∀ j u, (acells l)[j]? = some u → w.cell? ⟨g, o + j, none⟩ = some u
theorem SlC.ch {S : Nat → Prop} {w w' : World} {v : Value} {l : List Ac} (h : SlC w v l) (c : Ch S w w') (hn : ∀ a n k, v = .slice (some a) n k → ¬ S a.block) : SlC w' v l := by
  rcases h with h | ⟨g, o, k, rfl, hg, hc⟩
  · exact .inl h
  · refine .inr ⟨g, o, k, rfl, Nat.lt_of_lt_of_le hg c.size, fun j u hj => ?_⟩
    rw [World.cell?_of_block (w := w) (c.block g hg (hn _ _ _ rfl))]
    exact hc j u hj
theorem SlC.later {w w' : World} {v : Value} {l : List Ac} (h : SlC w v l) (hb : Below w.heap.size w w') : SlC w' v l :=
  h.ch (S := fun _ => False) (Ch.of hb) (fun _ _ _ _ q => q)
theorem SlC.form {w : World} {v : Value} {l : List Ac} (h : SlC w v l) : ∃ a c, v = .slice a l.length c := by
  rcases h with ⟨rfl, a, c, rfl⟩ | ⟨g, o, c, rfl, _⟩
  · exact ⟨a, c, rfl⟩
  · exact ⟨_, c, rfl⟩
theorem SlC.in {w : World} {g o c : Nat} {l : List Ac} (hf : AFit l) (h : SlC w (.slice (some ⟨g, o, none⟩) l.length c) l) {i : Nat} {x : Ac} (hx : l[i]? = some x) : CsIn g (o + i * 13) (acv x) w := by
  rcases h with ⟨rfl, _⟩ | ⟨g', o', c', hv, hg, hc⟩
  · simp at hx
  · simp only [Value.slice.injEq, Option.some.injEq, Addr.mk.injEq] at hv
    obtain ⟨⟨rfl, rfl, _⟩, _, rfl⟩ := hv
    exact ⟨hg, fun j v hv => by rw [Nat.add_assoc]; exact hc _ _ (acells_at hf hx j v hv)⟩
/-- Where it is not empty, its place. -/
theorem SlC.pos {w : World} {v : Value} {l : List Ac} (h : SlC w v l) (hne : 0 < l.length) : ∃ g o c, v = .slice (some ⟨g, o, none⟩) l.length c ∧ g < w.heap.size := by
  rcases h with ⟨rfl, _⟩ | ⟨g, o, c, rfl, hg, _⟩
  · simp at hne
  · exact ⟨g, o, c, rfl, hg⟩
theorem SlC.so {w : World} {v : Value} {l : List Ac} (hf : AFit l) (h : SlC w v l) : So 13 v l.length (acells l) w := by
  refine ⟨acells_len hf, ?_⟩
  rcases h with ⟨rfl, a, c, rfl⟩ | ⟨g, o, c, rfl, hg, hc⟩
  · exact .inl ⟨rfl, a, c, rfl⟩
  · exact .inr ⟨_, c, rfl, fun j x hj => by rw [Addr.add_lit]; exact hc j x hj⟩
theorem slC_of_slA {w : World} {v : Value} {l : List Ac} (h : SlA w v l) : SlC w v l ∧ AFit l := by
  rcases h with ⟨rfl, a, c, rfl⟩ | ⟨g, o, c, rfl, _, hc⟩
  · exact ⟨.inl ⟨rfl, a, c, rfl⟩, AFit.nil⟩
  · have hf : AFit l := fun x hx => by
      obtain ⟨i, hi⟩ := List.getElem?_of_mem hx
      exact (hc i x hi).1
    refine ⟨?_, hf⟩
    by_cases h0 : l = []
    · subst h0; exact .inl ⟨rfl, _, _, rfl⟩
    · have hpos : 0 < l.length := List.length_pos_iff.2 h0
      refine .inr ⟨g, o, c, rfl, (hc 0 _ (List.getElem?_eq_getElem hpos)).2.1, fun j u hj => ?_⟩
      have hj13 : j < l.length * 13 := by
        have := (List.getElem?_eq_some_iff.1 hj).1
        rwa [acells_len hf] at this
      have hi : j / 13 < l.length := Nat.div_lt_of_lt_mul (by rw [Nat.mul_comm]; exact hj13)
      have hx := List.getElem?_eq_getElem hi
      obtain ⟨hfit, hin⟩ := hc _ _ hx
      have hjm : j % 13 < 13 := Nat.mod_lt _ (by decide)
      have he : (acv l[j / 13])[j % 13]? = some ((acv l[j / 13])[j % 13]'(by rw [acv_size _ hfit.1.1]; exact hjm)) := Array.getElem?_eq_getElem _
      have h1 := acells_at hf hx _ _ he
      have hsum : j / 13 * 13 + j % 13 = j := by omega
      rw [hsum, hj] at h1
      have h2 := hin.2 _ _ he
      rw [Nat.add_assoc, hsum] at h2
      rw [h2, h1]
/-- A row of acts of one's own. -/
def OwnA (v : Value) (l : List Ac) (w : World) : Prop := Rw 48 13 v l.length (acells l) w ∧ AFit l
theorem OwnA.sl {v : Value} {l : List Ac} {w : World} (h : OwnA v l w) : SlC w v l := by
  have h0 := h.1
  rcases h.1.2 with ⟨rfl, hn⟩ | ⟨g, cap, cur, rfl, hg, _⟩
  · exact .inl ⟨List.eq_nil_of_length_eq_zero hn, _, _, rfl⟩
  · exact .inr ⟨g, 0, cap, rfl, (Array.getElem?_eq_some_iff.1 hg).1, fun j u hj => h0.cells j u hj⟩
theorem OwnA.nil (w : World) : OwnA (.slice none 0 0) [] w := ⟨Rw.nil _ _ w, AFit.nil⟩
theorem OwnA.ch {v : Value} {l : List Ac} {S : Nat → Prop} {w w' : World} (h : OwnA v l w) (c : Ch S w w') (hn : ∀ k, v.ownBlock = some k → ¬ S k) : OwnA v l w' := ⟨h.1.ch c hn, h.2⟩
theorem OwnA.later {v : Value} {l : List Ac} {w w' : World} (h : OwnA v l w) (hb : Below w.heap.size w w') : OwnA v l w' := ⟨h.1.later hb, h.2⟩
theorem OwnA.form {v : Value} {l : List Ac} {w : World} (h : OwnA v l w) : ∃ a c, v = .slice a l.length c ∧ l.length ≤ c ∧ c ≤ maxLen := h.1.form
theorem OwnA.lt {v : Value} {l : List Ac} {w : World} (h : OwnA v l w) : ∀ k, v.ownBlock = some k → k < w.heap.size := h.1.lt

/-- append of acts to a row of one's own. -/
theorem wpL_appA {ops : Array Oper} {rest : List Oper} {o : Oper} {A : Act} {w : World} {Q : Exit → Act → World → Prop} (hgd : o.guard = none) (s x : Operand) (ho : o.op = .call { callee := .builtin .append, args := #[s, x], argTypes := #[37, 37] })
    {v u : Value} {l m : List Ac} (hs : A.eval s = v) (hx : A.eval x = u) (hv : OwnA v l w) (hu : SlC w u m) (hm : AFit m) (hn : l.length + m.length ≤ 1000000)
    (k : ∀ v' w', OwnA v' (l ++ m) w' → w.grownBy w' v.ownBlock → At' w v v' → wpList Tryd.prog ops Q rest (A.put o.dst v') w') : wpList Tryd.prog ops Q (o :: rest) A w := by
  obtain ⟨i0, hi, hz0, hz1, hz2⟩ := info_parts info_a
  refine wpL_app hgd s x 37 ho 48 i0 (.agg (acv ac0)) 13 104 Tryd.underlying37 hi hz0 hz1 hz2 rfl hs hx hv.1 (hu.so hm) (acells_oneC m) (by unfold maxLen; omega) (by omega) ?_
  intro v' w' h1 h2 h3
  refine k v' w' ⟨?_, hv.2.app hm⟩ h2 h3
  rw [List.length_append, acells_app]
  exact h1
/-- The literal slice of one act that append is handed. -/
theorem slC_new (w : World) (x : Ac) (c : Nat) : SlC (w.alloc (.cells (acv x) 48)) (.slice (some ⟨w.heap.size, 0, none⟩) 1 c) [x] := by
  refine .inr ⟨w.heap.size, 0, c, rfl, by simp, fun j u hj => ?_⟩
  rw [acells_one] at hj
  rw [Nat.zero_add, cell_of_row _ _ j _ _ _ (heap_alloc_last w _)]
  simpa using hj
section
variable {ops : Array Oper} {rest : List Oper} {o : Oper} {A : Act} {w : World} {Q : Exit → Act → World → Prop}
theorem opw_loadA {K : Act → World → Prop} (x : Operand) (ho : o.op = .load 48 x) {b off : Nat} (hx : A.eval x = .pointer (some ⟨b, off, none⟩)) {p : Ac} (hp : p.Fit) (h : CsIn b off (acv p) w)
    (k : K (A.put o.dst (.agg (acv p))) w) : o.wp Tryd.prog A w K Q := by
  unfold Oper.wp execOp
  simp only [ho, hx, Instr.loadAt, Instr.sureAddr, Sem.run_bind, Sem.run_pure, Result.andThen_ok, run_loadVar_in h Tryd.underlying48 rfl (a_size hp)]
  exact k
theorem wpL_loadA (hgd : o.guard = none) (x : Operand) (ho : o.op = .load 48 x) {b off : Nat} (hx : A.eval x = .pointer (some ⟨b, off, none⟩)) {p : Ac} (hp : p.Fit) (h : CsIn b off (acv p) w)
    (k : wpList Tryd.prog ops Q rest (A.put o.dst (.agg (acv p))) w) : wpList Tryd.prog ops Q (o :: rest) A w := wpList_plain hgd fun _ hK => opw_loadA x ho hx hp h (hK _ _ k)
theorem wpL_storeA (hgd : o.guard = none) (x y : Operand) (ho : o.op = .store 48 x y) {g off : Nat} (hx : A.eval x = .pointer (some ⟨g, off, none⟩)) {p : Ac} (hy : A.eval y = .agg (acv p)) (hp : p.Fit) (ht : w.there g off 13)
    (k : wpList Tryd.prog ops Q rest (A.put o.dst undef) (w.setCells g off (acv p).toList)) : wpList Tryd.prog ops Q (o :: rest) A w :=
  wpList_store_mid hgd _ x y ho g off (acv p) hx hy (by rw [acv_size _ hp.1.1]; exact ht) (a_size hp) (acv_allOne p) k
theorem wpL_storeAr (hgd : o.guard = none) (x y : Operand) (ho : o.op = .store 48 x y) {g : Nat} (hx : A.eval x = .pointer (some ⟨g, 0, none⟩)) {p q : Ac} (hy : A.eval y = .agg (acv p)) (hp : p.Fit) (hq : q.Fit) (h : RowAt g (acv q) 48 w)
    (k : wpList Tryd.prog ops Q rest (A.put o.dst undef) (w.setRow g (acv p))) : wpList Tryd.prog ops Q (o :: rest) A w :=
  wpList_store_row hgd _ x y ho g (acv p) hx hy _ _ h (a_size hp) (by rw [acv_size _ hp.1.1, acv_size _ hq.1.1]) (acv_allOne p) k
end
theorem RowAt.put {b : Nat} {cs : Array Value} {t : TypeId} {w : World} (h : RowAt b cs t w) (ds : Array Value) : RowAt b ds t (w.setRow b ds) := setRow_heap w b _ _ _ _ h
theorem RowAt.setc {b : Nat} {cs : Array Value} {t : TypeId} {w : World} (h : RowAt b cs t w) (k : Nat) (v : Value) : RowAt b (cs.setIfInBounds k v) t (w.setCell ⟨b, k, none⟩ v) := by
  unfold RowAt at *
  simp [World.setCell, Array.getElem?_modify, h]
theorem quiet_act {o : Oper} {a : Act} {C : World → Prop} {K : Act → Prop} (x : Operand) (ho : o.op = .load 48 x) {b off : Nat} (hx : a.eval x = .pointer (some ⟨b, off, none⟩)) {p : Ac} (hp : p.Fit) (h : ∀ w, C w → CsIn b off (acv p) w)
    (k : K (a.put o.dst (.agg (acv p)))) : o.quiet Tryd.prog a C K := quiet_load_in _ x ho hx h Tryd.underlying48 rfl (a_size hp) k
theorem quiet_ckIn {o : Oper} {a : Act} {C : World → Prop} {K : Act → Prop} (x : Operand) (ho : o.op = .load 44 x) {b off : Nat} (hx : a.eval x = .pointer (some ⟨b, off, none⟩)) {p : List Int} (hp : p.length = 8) (h : ∀ w, C w → CsIn b off (cv p) w)
    (k : K (a.put o.dst (.agg (cv p)))) : o.quiet Tryd.prog a C K := quiet_load_in _ x ho hx h Tryd.underlying44 rfl (ck_size hp) k
end Go.Proofs.YtlgdaaofpjpobaaDoor
