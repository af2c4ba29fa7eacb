
/-
  The map of rows in memory: looked up, appended to, struck out.
-/
import Derived.Test.YtlkcjbmdeimocaaDoorCg1
namespace Go.Proofs.YtlkcjbmdeimocaaDoor
open Go.RowKit Go.Maps Go.WideElems Go.MapKept
open Go.ChangeMaps (setBlock heap_setBlock_same heap_setBlock_other modify_eq_set)
set_option maxRecDepth 100000

/-- The blocks of a map's rows. -/
def RowsOf (kb : Nat) (w : World) (k : Nat) : Prop := ∃ es cl x, w.heap[kb]? = some (.map es cl) ∧ x ∈ es.toList ∧ x.val.ownBlock = some k
/-- Rows of places by names, in memory: each from 'base' on, no two in one block. -/
structure GpE (kb n base : Nat) (g : Int → Int → List Nat) (es : Array MapEntry) (cl : Nat) (w : World) : Prop where
  size : es.size ≤ n
  st : Stamped es cl
  each : ∀ x ∈ es.toList, ∃ a b, fitsI a ∧ fitsI b ∧ x.key = .agg (nmc a b) ∧ OwnI x.val (g a b) w
  none : ∀ a b, fitsI a → fitsI b → (∀ x ∈ es.toList, x.key ≠ .agg (nmc a b)) → g a b = []
  apart : ∀ x ∈ es.toList, ∀ y ∈ es.toList, x.key ≠ y.key → ∀ k, x.val.ownBlock = some k → y.val.ownBlock ≠ some k
  above : ∀ x ∈ es.toList, ∀ k, x.val.ownBlock = some k → base ≤ k
def GpAt (kb n base : Nat) (g : Int → Int → List Nat) (w : World) : Prop := ∃ es cl, w.heap[kb]? = some (.map es cl) ∧ GpE kb n base g es cl w
theorem GpE.named {kb n base : Nat} {g : Int → Int → List Nat} {es : Array MapEntry} {cl : Nat} {w : World} (h : GpE kb n base g es cl w) : ∀ x ∈ es.toList, Named x := fun x hx => by
  obtain ⟨a, b, h1, h2, h3, _⟩ := h.each x hx
  exact ⟨a, b, h1, h2, h3⟩
theorem GpAt.lt {kb n base : Nat} {g : Int → Int → List Nat} {w : World} (h : GpAt kb n base g w) : kb < w.heap.size := by
  obtain ⟨es, cl, h1, _⟩ := h
  exact (Array.getElem?_eq_some_iff.1 h1).1
theorem GpAt.new (w : World) (base : Nat) : GpAt w.heap.size 0 base (fun _ _ => []) (w.alloc (.map #[] 0)) :=
  ⟨#[], 0, (MapKept.heap_alloc w _).1, Nat.le_refl _, ⟨by simp, by simp, by simp⟩, by simp, fun _ _ _ _ _ => rfl, by simp, by simp⟩
theorem RowsOf.same {kb : Nat} {w w' : World} (h : w'.heap[kb]? = w.heap[kb]?) {k : Nat} (r : RowsOf kb w' k) : RowsOf kb w k := by
  obtain ⟨es, cl, x, h1, h2⟩ := r
  exact ⟨es, cl, x, h.symm.trans h1, h2⟩
theorem GpAt.rows {kb n base : Nat} {g : Int → Int → List Nat} {w : World} (h : GpAt kb n base g w) {k : Nat} (r : RowsOf kb w k) : base ≤ k ∧ k < w.heap.size ∧ ∃ cs, w.heap[k]? = some (.cells cs 3 (0, 0)) := by
  obtain ⟨es, cl, h1, E⟩ := h
  obtain ⟨es', cl', x, h1', hx, hk⟩ := r
  rw [h1] at h1'
  cases h1'
  obtain ⟨a, b, _, _, _, ho⟩ := E.each x hx
  exact ⟨E.above x hx k hk, ho.lt k hk, ho.obj k hk⟩
theorem GpAt.ch {kb n base : Nat} {g : Int → Int → List Nat} {S : Nat → Prop} {w w' : World} (h : GpAt kb n base g w) (c : Ch S w w') (h1 : ¬ S kb) (h2 : ∀ k, RowsOf kb w k → ¬ S k) : GpAt kb n base g w' := by
  obtain ⟨es, cl, hb, E⟩ := h
  refine ⟨es, cl, c.heap hb h1, E.size, E.st, fun x hx => ?_, E.none, E.apart, E.above⟩
  obtain ⟨a, b, ha, hb', hk, ho⟩ := E.each x hx
  exact ⟨a, b, ha, hb', hk, ho.ch c (fun k q => h2 k ⟨es, cl, x, hb, hx, q⟩)⟩
theorem GpAt.later {kb n base : Nat} {g : Int → Int → List Nat} {w w' : World} (h : GpAt kb n base g w) (hb : Below w.heap.size w w') : GpAt kb n base g w' := h.ch (S := fun _ => False) (Ch.of hb) (fun q => q) (fun _ _ q => q)
theorem GpAt.back {kb n base : Nat} {g : Int → Int → List Nat} {S : Nat → Prop} {w w' : World} (h : GpAt kb n base g w) (c : Ch S w w') (h1 : ¬ S kb) {k : Nat} (r : RowsOf kb w' k) : RowsOf kb w k := r.same (c.block kb h.lt h1)
/-- The value at a name is of that name alone. -/
def Sole (kb : Nat) (a b : Int) (v : Value) (w : World) : Prop := ∀ es cl, w.heap[kb]? = some (.map es cl) → ∀ x ∈ es.toList, x.key ≠ .agg (nmc a b) → ∀ k, v.ownBlock = some k → x.val.ownBlock ≠ some k
theorem GpAt.look {kb n base : Nat} {g : Int → Int → List Nat} {w : World} (h : GpAt kb n base g w) {a b : Int} (ha : fitsI a) (hb : fitsI b) (hn : n ≤ maxLen) :
    ∃ v, (Instr.lookup 84 (.map (some kb)) (.agg (nmc a b)) false).run Tryd.prog w = .ok v w ∧ OwnI v (g a b) w ∧ Sole kb a b v w ∧ ∀ k, v.ownBlock = some k → RowsOf kb w k := by
  obtain ⟨es, cl, h1, E⟩ := h
  rcases Maps.fit_look false lawNm Tryd.underlying84 (zeroIs w) h1 (fit_of (Nat.le_trans E.size hn) E.st E.named) (key_nm ha hb) with ⟨hrun, hno, _⟩ | ⟨e0, y, hm0, h3, hrun, _⟩
  · refine ⟨.slice none 0 0, hrun, ?_, (fun _ _ _ x _ _ k hk => by cases hk), (fun k hk => by cases hk)⟩
    rw [E.none a b ha hb hno]
    exact OwnI.nil w
  · obtain ⟨a', b', _, _, hk, ho⟩ := E.each e0 hm0
    obtain ⟨rfl, rfl⟩ := nmc_inj (h3.symm.trans hk)
    refine ⟨e0.val, hrun, ho, fun es' cl' h1' x hx hne k hk' => ?_, fun k q => ⟨es, cl, e0, h1, hm0, q⟩⟩
    rw [h1] at h1'
    cases h1'
    exact E.apart e0 hm0 x hx (by rw [h3]; exact fun e => hne e.symm) k hk'
/-- Struck out. -/
def delG (g : Int → Int → List Nat) (r k : Int) : Int → Int → List Nat := fun a b => if a = r ∧ b = k then [] else g a b
def putG (g : Int → Int → List Nat) (r k : Int) (zs : List Nat) : Int → Int → List Nat := fun a b => if a = r ∧ b = k then zs else g a b
theorem GpAt.del {kb n base : Nat} {g : Int → Int → List Nat} {w : World} (h : GpAt kb n base g w) {r k : Int} (hr : fitsI r) (hk : fitsI k) (hn : n ≤ maxLen) (ty : TypeId) {v : Value} (hv : Sole kb r k v w) :
    ∃ w', (Builtin.delete_ #[84, 92] ty #[.map (some kb), .agg (nmc r k)]).run Tryd.prog w = .ok (.tuple #[]) w' ∧ GpAt kb n base (delG g r k) w' ∧ Ch (fun j => j = kb) w w' ∧ (∀ j, RowsOf kb w' j → RowsOf kb w j) ∧ ∀ j, v.ownBlock = some j → ¬ RowsOf kb w' j := by
  obtain ⟨es, cl, h1, E⟩ := h
  obtain ⟨es', hrun, F', hsz, _, hsub, hwho⟩ := fit_drop_who (ty := ty) lawNm Tryd.underlying84 h1 (fit_of (Nat.le_trans E.size hn) E.st E.named) (key_nm hr hk)
  have hc : Ch (fun j => j = kb) w (setBlock w kb (.map es' cl)) := ⟨rfl, rfl, rfl, by simp [setBlock], fun i _ hi => heap_setBlock_other h1 _ hi⟩
  have hnew := heap_setBlock_same h1 (.map es' cl)
  refine ⟨_, hrun, ⟨es', cl, hnew, Nat.le_trans hsz E.size, F'.stamped, fun x hx => ?_, fun a b ha hb hno => ?_, fun x hx y hy => E.apart x ((hwho x).1 hx).1 y ((hwho y).1 hy).1, fun x hx => E.above x ((hwho x).1 hx).1⟩, hc, fun j q => ?_, fun j hj q => ?_⟩
  · obtain ⟨hx0, hne⟩ := (hwho x).1 hx
    obtain ⟨a, b, ha, hb, hkk, ho⟩ := E.each x hx0
    refine ⟨a, b, ha, hb, hkk, ?_⟩
    unfold delG
    rw [if_neg (fun e => hne (by rw [hkk, e.1, e.2]))]
    refine ho.ch hc (fun j hj e => ?_)
    obtain ⟨cs, hcs⟩ := ho.obj j hj
    rw [e, h1] at hcs
    cases hcs
  · unfold delG
    split
    · rfl
    · rename_i hne
      refine E.none a b ha hb fun x hx e => ?_
      exact hno x ((hwho x).2 ⟨hx, fun e' => hne (nmc_inj (e.symm.trans e'))⟩) e
  · obtain ⟨es2, cl2, x, h2, hx, hj⟩ := q
    rw [hnew] at h2
    cases h2
    exact ⟨es, cl, x, h1, ((hwho x).1 hx).1, hj⟩
  · obtain ⟨es2, cl2, x, h2, hx, hj'⟩ := q
    rw [hnew] at h2
    cases h2
    obtain ⟨hx0, hne⟩ := (hwho x).1 hx
    exact hv es cl h1 x hx0 hne j hj hj'
/-- Appended to: the entry, and the store behind it. -/
theorem GpAt.entry {kb n base : Nat} {g : Int → Int → List Nat} {w : World} (h : GpAt kb n base g w) {r k : Int} (hr : fitsI r) (hk : fitsI k) (_hn : n < 1099511627776) :
    ∃ (v0 : Value) (st : Nat) (es1 : Array MapEntry) (cl1 : Nat), OwnI v0 (g r k) w ∧ (∀ j, v0.ownBlock = some j → RowsOf kb w j) ∧ (∀ x : World, x.heap[kb]? = w.heap[kb]? → (Instr.mapEntry 84 (.map (some kb)) (.agg (nmc r k))).run Tryd.prog x = .ok (.tuple #[v0, goInt st]) (setBlock x kb (.map es1 cl1))) ∧
      ∀ (w2 : World) (v : Value) (zs : List Nat), w2.heap[kb]? = some (.map es1 cl1) → Ch (fun j => j = kb ∨ v0.ownBlock = some j) w w2 → OwnI v zs w2 → (∀ j, v.ownBlock = some j → v0.ownBlock = some j ∨ (w.heap.size ≤ j ∧ base ≤ j)) →
        ∃ w3, (Instr.entryStore 84 (.map (some kb)) (goInt st) v).run Tryd.prog w2 = .ok () w3 ∧ GpAt kb (n + 1) base (putG g r k zs) w3 ∧ Ch (fun j => j = kb) w2 w3 ∧ ∀ j, RowsOf kb w3 j → RowsOf kb w j ∨ w.heap.size ≤ j := by
  obtain ⟨es, cl, h1, E⟩ := h
  -- the entry, found or made
  obtain ⟨v0, es1, cl1, jx, e1, hj, hek, hst1, hsz1, hin1, hno1, hv0, hrow0, hsole0, hval1, hrun⟩ : ∃ (v0 : Value) (es1 : Array MapEntry) (cl1 jx : Nat) (e1 : MapEntry), es1.toList[jx]? = some e1 ∧ e1.key = .agg (nmc r k) ∧ Stamped es1 cl1 ∧ es1.size ≤ n + 1 ∧ (∀ x ∈ es1.toList, x.key ≠ .agg (nmc r k) → x ∈ es.toList) ∧ (∀ x ∈ es.toList, x.key ≠ .agg (nmc r k) → x ∈ es1.toList) ∧ OwnI v0 (g r k) w ∧ (∀ j, v0.ownBlock = some j → RowsOf kb w j) ∧ (∀ x ∈ es.toList, x.key ≠ .agg (nmc r k) → ∀ j, v0.ownBlock = some j → x.val.ownBlock ≠ some j) ∧ True ∧
      ∀ x : World, x.heap[kb]? = w.heap[kb]? → (Instr.mapEntry 84 (.map (some kb)) (.agg (nmc r k))).run Tryd.prog x = .ok (.tuple #[v0, goInt e1.born]) (setBlock x kb (.map es1 cl1)) := by
    by_cases hex : ∃ e0 ∈ es.toList, e0.key = .agg (nmc r k)
    · obtain ⟨e0, he, hek⟩ := hex
      obtain ⟨jx, hj⟩ := List.getElem?_of_mem he
      obtain ⟨a, b, _, _, hkk, ho⟩ := E.each e0 he
      obtain ⟨rfl, rfl⟩ := nmc_inj (hek.symm.trans hkk)
      exact ⟨e0.val, es, cl, jx, e0, hj, hek, E.st, Nat.le_succ_of_le E.size, fun x hx _ => hx, fun x hx _ => hx, ho, fun j q => ⟨es, cl, e0, h1, he, q⟩, fun x hx hne j q => E.apart e0 he x hx (by rw [hek]; exact fun e => hne e.symm) j q, trivial, fun x hx => entry_some (hx.trans h1) E.st E.named hr hk he hek⟩
    · have hno : ∀ e ∈ es.toList, e.key ≠ .agg (nmc r k) := fun e he q => hex ⟨e, he, q⟩
      refine ⟨.slice none 0 0, es.push ⟨.agg (nmc r k), .slice none 0 0, cl⟩, cl + 1, es.size, ⟨.agg (nmc r k), .slice none 0 0, cl⟩, by simp, rfl, ?_, by simpa using E.size, fun x hx hne => ?_, (fun x hx _ => by rw [Array.toList_push]; exact List.mem_append_left _ hx), ?_, (fun j q => by cases q), (fun x _ _ j q => by cases q), trivial, fun x hx => entry_none (hx.trans h1) E.named hr hk hno⟩
      · refine ⟨fun x hx => ?_, ?_, ?_⟩
        · rw [Array.toList_push, List.mem_append, List.mem_singleton] at hx
          rcases hx with hx | rfl
          · exact Nat.lt_succ_of_lt (E.st.1 x hx)
          · exact Nat.lt_succ_self _
        · rw [Array.toList_push, List.map_append, List.nodup_append]
          refine ⟨E.st.2.1, by simp, fun a ha c hc e => ?_⟩
          obtain ⟨x, hx, rfl⟩ := List.mem_map.1 ha
          simp at hc
          have := E.st.1 x hx
          omega
        · rw [Array.toList_push, List.map_append, List.nodup_append]
          refine ⟨E.st.2.2, by simp, fun a ha c hc e => ?_⟩
          obtain ⟨x, hx, rfl⟩ := List.mem_map.1 ha
          simp at hc
          exact hno x hx (e.trans hc)
      · rw [Array.toList_push, List.mem_append, List.mem_singleton] at hx
        rcases hx with hx | rfl
        · exact hx
        · exact absurd rfl hne
      · rw [E.none r k hr hk hno]
        exact OwnI.nil w
  refine ⟨v0, e1.born, es1, cl1, hv0, hrow0, hrun, fun w2 v zs hb2 hc hown hat => ?_⟩
  obtain ⟨m1, m2, m3⟩ := mod_who hst1 hj v
  rw [hek] at m1 m2
  have hc3 : Ch (fun j => j = kb) w2 (setBlock w2 kb (.map (es1.modify jx (valAt v)) cl1)) := ⟨rfl, rfl, rfl, by simp [setBlock], fun i _ hi => heap_setBlock_other hb2 _ hi⟩
  have hnew := heap_setBlock_same hb2 (.map (es1.modify jx (valAt v)) cl1)
  have notkb : ∀ {u : Value} {ys : List Nat} {x : World}, OwnI u ys x → (∃ es cl, x.heap[kb]? = some (.map es cl)) → ∀ j, u.ownBlock = some j → ¬ j = kb := fun {u ys x} ho ⟨es', cl', hm⟩ j hj' e => by
    obtain ⟨cs, hcs⟩ := ho.obj j hj'
    rw [e, hm] at hcs
    cases hcs
  have old : ∀ x ∈ es.toList, x.key ≠ .agg (nmc r k) → ∀ j, x.val.ownBlock = some j → v.ownBlock ≠ some j := fun x hx hne j hj' e => by
    obtain ⟨a, b, _, _, _, ho⟩ := E.each x hx
    rcases hat j e with q | ⟨q, _⟩
    · exact hsole0 x hx hne j q hj'
    · have := ho.lt j hj'
      omega
  refine ⟨_, store_at hb2 hst1 hj v, ⟨_, cl1, hnew, by simpa using hsz1, mod_stamped hst1 hj v, fun x hx => ?_, fun a b ha hb hno => ?_, fun x hx y hy hne j hxj hyj => ?_, fun x hx j hxj => ?_⟩, hc3, fun j q => ?_⟩
  · rcases m1 x hx with ⟨hx1, hne⟩ | rfl
    · have hx0 := hin1 x hx1 hne
      obtain ⟨a, b, ha, hb, hkk, ho⟩ := E.each x hx0
      refine ⟨a, b, ha, hb, hkk, ?_⟩
      unfold putG
      rw [if_neg (fun e => hne (by rw [hkk, e.1, e.2]))]
      refine (ho.ch hc (fun j hj' e => ?_)).ch hc3 (fun j hj' e => notkb ho ⟨es, cl, h1⟩ j hj' e)
      rcases e with e | e
      · exact notkb ho ⟨es, cl, h1⟩ j hj' e
      · exact hsole0 x hx0 hne j e hj'
    · refine ⟨r, k, hr, hk, hek, ?_⟩
      unfold putG
      rw [if_pos ⟨rfl, rfl⟩]
      exact OwnI.ch (show OwnI v zs w2 from hown) hc3 (fun j hj' e => notkb hown ⟨_, _, hb2⟩ j hj' e)
  · unfold putG
    split
    · rename_i e
      exact absurd (by show e1.key = _; rw [hek, e.1, e.2]) (hno _ m3)
    · rename_i hne
      refine E.none a b ha hb fun x hx e => hno x (m2 x (hno1 x hx ?_) ?_) e
      · exact fun e' => hne (nmc_inj (e.symm.trans e'))
      · exact fun e' => hne (nmc_inj (e.symm.trans e'))
  · rcases m1 x hx with ⟨hx1, hxe⟩ | rfl <;> rcases m1 y hy with ⟨hy1, hye⟩ | rfl
    · exact E.apart x (hin1 x hx1 hxe) y (hin1 y hy1 hye) hne j hxj hyj
    · exact old x (hin1 x hx1 hxe) hxe j hxj hyj
    · exact old y (hin1 y hy1 hye) hye j hyj hxj
    · exact hne rfl
  · rcases m1 x hx with ⟨hx1, hxe⟩ | rfl
    · exact E.above x (hin1 x hx1 hxe) j hxj
    · rcases hat j hxj with q | ⟨_, q⟩
      · obtain ⟨es', cl', y, h1', hy, hyj⟩ := hrow0 j q
        rw [h1] at h1'
        cases h1'
        exact E.above y hy j hyj
      · exact q
  · obtain ⟨es2, cl2, x, h2, hx, hxj⟩ := q
    rw [hnew] at h2
    cases h2
    rcases m1 x hx with ⟨hx1, hxe⟩ | rfl
    · exact .inl ⟨es, cl, x, h1, hin1 x hx1 hxe, hxj⟩
    · exact (hat j hxj).elim (fun q => .inl (hrow0 j q)) (fun q => .inr q.1)
end Go.Proofs.YtlkcjbmdeimocaaDoor
