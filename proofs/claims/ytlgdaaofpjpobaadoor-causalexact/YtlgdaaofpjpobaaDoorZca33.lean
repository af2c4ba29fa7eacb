
/-
  Package causal: Acts, Clear, Sweep.
-/
import Derived.Test.YtlgdaaofpjpobaaDoorZca32
namespace Go.Proofs.YtlgdaaofpjpobaaDoor
open Go.RowKit Go.Maps
set_option maxRecDepth 100000

set_option maxHeartbeats 1000000 in
theorem cloneA_any {w : World} {v : Value} {l : List Ac} (h : OwnA v l w) (hn : l.length ≤ 1000) :
    Calls Tryd.prog 42 #[v] w fun e w' => ∃ r, e = .returned r ∧ OwnA r l w' ∧ NewB w r ∧ Below w.heap.size w w' := by
  obtain ⟨a, c, rfl, _, _⟩ := h.form
  have q37 : ∀ (w : World) (a : Option Addr) (n c n' c' : Nat), (binOp .eql 37 (.slice a n c) (.slice none n' c')).run Tryd.prog w = .ok (.bool a.isNone) w := fun w a n c n' c' => Lib.run_eql_slice_nil w _ _ a n c n' c' Tryd.underlying37
  have u37 : ∀ w, Sem.run Tryd.prog (underlying 37) w = .ok (TypeDesc.slice 48) w := run_underlying Tryd.underlying37
  cases a with
  | none =>
    have h0 : l = [] := by
      rcases h.1.2 with ⟨_, h0⟩ | ⟨g, cap, cur, h1, _⟩
      · exact List.eq_nil_of_length_eq_zero h0
      · cases h1
    subst h0
    go_enter Tryd.func42, Tryd.ntmps42
    go_wp2
    go_ret
    exact ⟨_, rfl, OwnA.nil _, newB_nil _, Below.refl _ _⟩
  | some ad =>
    have HU := hid_of' (And.intro (h.sl.later (below_one w (.cells #[] 48))) h.2)
    clear h
    go_enter Tryd.func42, Tryd.ntmps42
    go_wp2_with (at_builtin; refine wpL_appA rfl _ _ rfl rfl rfl (own_emptyA w) HU.out.1 HU.out.2 (by simp; omega) ?_; intro v' w1 ho hg ha)
    have hB0 : Below w.heap.size w w1 := Ch.none ((Ch.of (S := fun k => w.heap.size ≤ k) (below_one w (.cells #[] 48))).grown hg (fun k hk => by cases hk; exact .inl (Nat.le_refl _))) (fun s hs q => by omega)
    have hn0 : NewB w v' := fun k hk => (ha k hk).elim (fun q => by cases q; exact Nat.le_refl _) (fun q => by rw [World.size_alloc] at q; omega)
    rw [List.nil_append] at ho
    go_ret
    exact ⟨_, rfl, ho, hn0, hB0⟩
set_option maxHeartbeats 1000000 in
theorem acts_any {B : Nat} {v : Value} {kb n : Nat} {m : Int} {l : List Ac} {w : World} (h : IbAt B v kb n m l w) :
    Calls Tryd.prog 26 #[.pointer (some ⟨B, 0, none⟩)] w fun e w' => ∃ r, e = .returned r ∧ OwnA r l w' ∧ NewB w r ∧ Below w.heap.size w w' := by
  have hl : l.length ≤ 1000 := by have := h.room; have := h.most; omega
  have HC := hid_of' (cloneA_any h.row hl)
  obtain ⟨a, c, rfl, _⟩ := h.slice
  have c1 := h.lies.cellIs 1 rfl
  clear h
  go_enter Tryd.func26, Tryd.ntmps26
  go_wp2_with (go_at_call 42; refine HC.out.mono ?_; rintro e w1 ⟨r, rfl, h1, h2, h3⟩; clear HC)
  go_ret
  exact ⟨_, rfl, h1, h2, h3⟩
/-- clear of the set of names. -/
theorem MpS.clear {kb n : Nat} {f : Int → Int → Bool} {w : World} (h : MpS kb n f w) (ty : TypeId) :
    ∃ w', (Builtin.clear_ #[53] ty #[.map (some kb)]).run Tryd.prog w = .ok (.tuple #[]) w' ∧ MpS kb n (fun _ _ => false) w' ∧ w.grownBy w' (some kb) := by
  obtain ⟨D, ⟨es, cl, hb, F, hs, rfl⟩, hD⟩ := h
  have hrun : (Builtin.clear_ #[53] ty #[.map (some kb)]).run Tryd.prog w = .ok (.tuple #[]) (Go.ChangeMaps.setBlock w kb (.map #[] cl)) := by
    simp [Builtin.clear_, run_underlying Tryd.underlying53, MapKept.run_getObj_map hb, MapKept.run_setObj_map _ hb, Result.andThen, Go.ChangeMaps.setBlock]
  refine ⟨_, hrun, ⟨.map [], ⟨#[], cl, Go.ChangeMaps.heap_setBlock_same hb _, ⟨Nat.zero_le _, ?_, fun x hx => by simp at hx⟩, Nat.zero_le _, rfl⟩, fun a b _ _ => rfl⟩, ?_⟩
  · exact MapKept.stamped_empty _
  · exact World.mapTurned.grown ⟨es, cl, #[], cl, hb, rfl⟩
theorem opw_clrS {K : Act → World → Prop} {o : Oper} {A : Act} {w : World} {Q : Exit → Act → World → Prop} (m : Operand) (ho : o.op = .call { callee := .builtin .clear, args := #[m], argTypes := #[53] }) {kb n : Nat} {f : Int → Int → Bool} (hm : A.eval m = .map (some kb)) (h : MpS kb n f w)
    (kk : ∀ w', MpS kb n (fun _ _ => false) w' → w.grownBy w' (some kb) → K (A.put o.dst (.tuple #[])) w') : o.wp Tryd.prog A w K Q := by
  obtain ⟨w', h1, h2, h3⟩ := h.clear o.type
  unfold Oper.wp execOp
  simp only [ho, resolve, invoke, builtin, Sem.run_bind, Sem.run_pure, Result.andThen_ok, List.map_toArray, List.map_cons, List.map_nil, hm, h1]
  exact kk w' h2 h3
theorem wpL_clrS {ops : Array Oper} {rest : List Oper} {o : Oper} {A : Act} {w : World} {Q : Exit → Act → World → Prop} (hgd : o.guard = none) (m : Operand) (ho : o.op = .call { callee := .builtin .clear, args := #[m], argTypes := #[53] }) {kb n : Nat} {f : Int → Int → Bool} (hm : A.eval m = .map (some kb)) (h : MpS kb n f w)
    (kk : ∀ w', MpS kb n (fun _ _ => false) w' → w.grownBy w' (some kb) → wpList Tryd.prog ops Q rest (A.put o.dst (.tuple #[])) w') : wpList Tryd.prog ops Q (o :: rest) A w :=
  wpList_plain hgd fun _ hK => opw_clrS m ho hm h fun w' q1 q2 => hK _ _ (kk w' q1 q2)
theorem names_nil : namesOf [] = fun _ _ => false := rfl
set_option maxHeartbeats 1000000 in
theorem clearI_ok {B : Nat} {v : Value} {kb n : Nat} {m : Int} {l : List Ac} {w : World} (h : IbAt B v kb n m l w) :
    Calls Tryd.prog 25 #[.pointer (some ⟨B, 0, none⟩)] w fun e w' => (∃ z, e = .returned z) ∧ IbAt B (.slice none 0 0) kb n m [] w' ∧ Ch (ibS B v kb) w w' := by
  have c1 := h.lies.cellIs 1 rfl
  have f1 := h.lies.froz 1
  have s1 := ch_cell (w := w) (b := B) (k := 1) (.slice none 0 0)
  have r1 := h.lies.setc 1 (.slice none 0 0)
  have m1 := h.map.ch s1 h.neB
  have c2 := r1.cellIs 2 rfl
  have H := hid_of' (And.intro h (And.intro r1 (And.intro m1 s1)))
  obtain ⟨a, c, rfl, _⟩ := h.slice
  clear h m1 r1 s1
  go_enter Tryd.func25, Tryd.ntmps25
  go_wp2_with (refine wpL_clrS rfl _ rfl rfl H.out.2.2.1 ?_; intro w2 q1 q2)
  go_end0
  have hc : Ch (ibS B (.slice a l.length c) kb) w w2 := (H.out.2.2.2.mono (fun s q => .inl (.inl q))).grown q2 (fun k hk => .inl (.inr (.inl (Option.some.inj hk).symm)))
  refine ⟨⟨_, rfl⟩, ⟨H.out.2.1.ch (grown_ch q2) (fun e => H.out.1.neB (Option.some.inj e)), OwnA.nil _, q1, (fun x hx => by cases hx), List.Pairwise.nil, ?_, H.out.1.most⟩, hc⟩
  have := H.out.1.room
  simp only [List.length_nil]
  omega
/-- What is left behind a Sweep. -/
def swp (h : List Int) (l : List Ac) : List Ac := l.filter fun x => !hasA h x
end Go.Proofs.YtlgdaaofpjpobaaDoor
