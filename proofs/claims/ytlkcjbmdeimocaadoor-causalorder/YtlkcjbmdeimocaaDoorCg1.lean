
/-
  A map of rows of places, by the names of acts.
-/
import Derived.Test.YtlkcjbmdeimocaaDoorCa5
import Derived.WideKeyEntry
import Derived.Maps.GroupsBeside
import Derived.Maps.Range
namespace Go.Proofs.YtlkcjbmdeimocaaDoor
open Go.RowKit Go.Maps Go.WideElems Go.MapKept
open Go.ChangeMaps (setBlock heap_setBlock_same heap_setBlock_other modify_eq_set)
set_option maxRecDepth 100000

/-- A row of places. -/
def OwnI (v : Value) (zs : List Nat) (w : World) : Prop := Rw 3 1 v zs.length (zs.map fun z : Nat => Value.int .i64 (z : Int)) w
theorem OwnI.later {v : Value} {zs : List Nat} {w w' : World} (h : OwnI v zs w) (hb : Below w.heap.size w w') : OwnI v zs w' := Rw.later h hb
theorem OwnI.ch {v : Value} {zs : List Nat} {S : Nat → Prop} {w w' : World} (h : OwnI v zs w) (c : Ch S w w') (hn : ∀ k, v.ownBlock = some k → ¬ S k) : OwnI v zs w' := Rw.ch h c hn
theorem OwnI.lt {v : Value} {zs : List Nat} {w : World} (h : OwnI v zs w) : ∀ k, v.ownBlock = some k → k < w.heap.size := Rw.lt h
theorem OwnI.nil (w : World) : OwnI (.slice none 0 0) [] w := Rw.nil _ _ w
/-- Which block it is: cells of int. -/
theorem OwnI.obj {v : Value} {zs : List Nat} {w : World} (h : OwnI v zs w) : ∀ k, v.ownBlock = some k → ∃ cs, w.heap[k]? = some (.cells cs 3 (0, 0)) := fun k hk => by
  rcases h.2 with ⟨rfl, _⟩ | ⟨g, cap, cur, rfl, hg, _⟩
  · cases hk
  · cases hk
    exact ⟨_, hg⟩

/-- No reader. -/
def trivR : Value → Option (DataW Unit × List MemPlace) := fun _ => some (.nil, [])
def Named (x : MapEntry) : Prop := ∃ a b, fitsI a ∧ fitsI b ∧ x.key = .agg (nmc a b)
theorem fit_of {es : Array MapEntry} {cl : Nat} (hs : es.size ≤ maxLen) (hst : Stamped es cl) (hn : ∀ x ∈ es.toList, Named x) : Fit Tryd.prog 92 trivR es cl := ⟨hs, hst, fun x hx => by
  obtain ⟨a, b, ha, hb, hk⟩ := hn x hx
  exact ⟨(nml a b, .nil), by simp [rd, hk, key_nm ha hb, trivR]⟩⟩
theorem zeroIs (w : World) : (zeroValue 30).run Tryd.prog w = .ok (.slice none 0 0) w := by kernel_rfl
theorem keys_of {es : Array MapEntry} (hn : ∀ x ∈ es.toList, Named x) : ∀ x ∈ es.toList, ∃ l, keyOf Tryd.prog 92 x.key = some l := fun x hx => by
  obtain ⟨a, b, ha, hb, hk⟩ := hn x hx
  exact ⟨_, by rw [hk]; exact key_nm ha hb⟩
theorem nodup_pair {es : Array MapEntry} {cl : Nat} (h : Stamped es cl) : es.toList.Pairwise (fun x y => x.key ≠ y.key) := by
  have := h.2.2
  unfold List.Nodup at this
  rwa [List.pairwise_map] at this
theorem nmc_inj {a b c d : Int} (h : (Value.agg (nmc a b)) = .agg (nmc c d)) : a = c ∧ b = d := by simpa [nmc] using h

/-- An entry that is there. -/
theorem entry_some {x : World} {kb : Nat} {es : Array MapEntry} {cl : Nat} (hb : x.heap[kb]? = some (.map es cl)) (hst : Stamped es cl) (hn : ∀ x ∈ es.toList, Named x) {a b : Int} (ha : fitsI a) (hb' : fitsI b) {e0 : MapEntry} (he : e0 ∈ es.toList) (hk : e0.key = .agg (nmc a b)) :
    (Instr.mapEntry 84 (.map (some kb)) (.agg (nmc a b))).run Tryd.prog x = .ok (.tuple #[e0.val, goInt e0.born]) (setBlock x kb (.map es cl)) := by
  rcases lawNm.find x (key_nm ha hb') es.toList (keys_of hn) with ⟨_, h2⟩ | ⟨j, e, h1, h2, h3⟩
  · exact absurd hk (h2 e0 he)
  · have e1 : e = e0 := entry_eq_of_key (nodup_pair hst) (List.mem_of_getElem? h2) he (h3.trans hk.symm)
    subst e1
    have hj : es[j]? = some e := by simpa using h2
    have hsame : es.modify j (fun e' => { e' with key := .agg (nmc a b) }) = es := by
      apply Array.ext'
      rw [Array.toList_modify, modify_eq_set _ _ _ _ h2]
      have : ({ e with key := .agg (nmc a b) } : MapEntry) = e := by rw [← h3]
      rw [this]
      exact set_self _ _ _ h2
    simp [Instr.mapEntry, run_underlying Tryd.underlying84, MapKept.run_getObj_map hb, lawNm.check x false (key_nm ha hb'), h1, hj, h3, lawNm.stays x (key_nm ha hb'), hsame, MapKept.run_setObj_map _ hb, Result.andThen, setBlock]
/-- An entry that is not. -/
theorem entry_none {x : World} {kb : Nat} {es : Array MapEntry} {cl : Nat} (hb : x.heap[kb]? = some (.map es cl)) (hn : ∀ x ∈ es.toList, Named x) {a b : Int} (ha : fitsI a) (hb' : fitsI b) (hno : ∀ e ∈ es.toList, e.key ≠ .agg (nmc a b)) :
    (Instr.mapEntry 84 (.map (some kb)) (.agg (nmc a b))).run Tryd.prog x = .ok (.tuple #[.slice none 0 0, goInt cl]) (setBlock x kb (.map (es.push ⟨.agg (nmc a b), .slice none 0 0, cl⟩) (cl + 1))) := by
  rcases lawNm.find x (key_nm ha hb') es.toList (keys_of hn) with ⟨h1, _⟩ | ⟨j, e, _, h2, h3⟩
  · simp [Instr.mapEntry, run_underlying Tryd.underlying84, MapKept.run_getObj_map hb, lawNm.check x false (key_nm ha hb'), h1, MapKept.run_setObj_map _ hb, Result.andThen, setBlock]
  · exact absurd h3 (hno e (List.mem_of_getElem? h2))
/-- What is stored at an entry. -/
def valAt (val : Value) (e : MapEntry) : MapEntry := { e with val := val }
theorem store_at {x : World} {kb : Nat} {es : Array MapEntry} {cl : Nat} (hb : x.heap[kb]? = some (.map es cl)) (hst : Stamped es cl) {j : Nat} {e : MapEntry} (hj : es.toList[j]? = some e) (val : Value) :
    (Instr.entryStore 84 (.map (some kb)) (goInt e.born) val).run Tryd.prog x = .ok () (setBlock x kb (.map (es.modify j (valAt val)) cl)) := by
  have hidx : es.findIdx? (fun y => ((y.born : Nat) : Int) == ((e.born : Nat) : Int)) = some j := by
    rw [findIdx_arr]
    exact findIdx_born hst.2.1 hj
  simp [Instr.entryStore, MapKept.run_getObj_map hb, asInt, asIntOf, goInt, hidx, MapKept.run_setObj_map _ hb, Result.andThen, setBlock]
  rfl
theorem mod_list {es : Array MapEntry} {j : Nat} {e : MapEntry} (hj : es.toList[j]? = some e) (val : Value) : (es.modify j (valAt val)).toList = es.toList.set j (valAt val e) := by
  rw [Array.toList_modify, modify_eq_set _ _ _ _ hj]
theorem mod_stamped {es : Array MapEntry} {cl j : Nat} {e : MapEntry} (hst : Stamped es cl) (hj : es.toList[j]? = some e) (val : Value) : Stamped (es.modify j (valAt val)) cl := by
  have h1 : ∀ {β : Type} (f : MapEntry → β), f (valAt val e) = f e → ((es.toList.set j (valAt val e)).map f) = es.toList.map f := fun f hf => by
    rw [List.map_set, hf]
    exact set_self _ _ _ (by rw [List.getElem?_map, hj]; rfl)
  unfold Stamped
  rw [mod_list hj, h1 (·.born) rfl, h1 (·.key) rfl]
  refine ⟨fun x hx => ?_, hst.2.1, hst.2.2⟩
  have : x.born ∈ (es.toList.set j (valAt val e)).map (·.born) := List.mem_map_of_mem hx
  rw [h1 (·.born) rfl] at this
  obtain ⟨y, hy, hyb⟩ := List.mem_map.1 this
  rw [← hyb]
  exact hst.1 y hy
theorem mod_who {es : Array MapEntry} {cl j : Nat} {e : MapEntry} (hst : Stamped es cl) (hj : es.toList[j]? = some e) (val : Value) :
    (∀ x ∈ (es.modify j (valAt val)).toList, (x ∈ es.toList ∧ x.key ≠ e.key) ∨ x = valAt val e) ∧ (∀ x ∈ es.toList, x.key ≠ e.key → x ∈ (es.modify j (valAt val)).toList) ∧ valAt val e ∈ (es.modify j (valAt val)).toList := by
  have hjl := (List.getElem?_eq_some_iff.1 hj).1
  rw [mod_list hj]
  refine ⟨fun x hx => ?_, fun x hx hne => ?_, List.mem_set hjl _⟩
  · by_cases hk : x.key = e.key
    · refine .inr ?_
      obtain ⟨i, hi⟩ := List.getElem?_of_mem hx
      by_cases hij : j = i
      · subst hij
        rw [List.getElem?_set_self hjl] at hi
        exact (Option.some.inj hi).symm
      · rw [List.getElem?_set_ne hij] at hi
        have e1 := entry_eq_of_key (nodup_pair hst) (List.mem_of_getElem? hi) (List.mem_of_getElem? hj) hk
        subst e1
        have hb := hst.2.1
        have hil := (List.getElem?_eq_some_iff.1 hi).1
        have : j = i := by
          have h1 : (es.toList.map (·.born))[j]? = (es.toList.map (·.born))[i]? := by rw [List.getElem?_map, List.getElem?_map, hi, hj]
          exact (List.getElem?_inj (by simpa using hjl) hb).1 h1
        exact absurd this hij
    · refine .inl ⟨?_, hk⟩
      rcases List.mem_or_eq_of_mem_set hx with q | q
      · exact q
      · exact absurd (by rw [q]; rfl) hk
  · obtain ⟨i, hi⟩ := List.getElem?_of_mem hx
    have hij : ¬ j = i := fun q => by
      subst q
      rw [hj] at hi
      exact hne (by rw [← Option.some.inj hi])
    exact List.mem_of_getElem? (i := i) (by rw [List.getElem?_set_ne hij]; exact hi)
end Go.Proofs.YtlkcjbmdeimocaaDoor
