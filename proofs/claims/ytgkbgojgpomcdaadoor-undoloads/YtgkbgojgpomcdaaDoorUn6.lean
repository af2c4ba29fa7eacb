
/-
  slices.Clone of changes; undo.copied, withNewest, moveNewest.
-/
import Derived.Test.YtgkbgojgpomcdaaDoorUn5
import Derived.Test.YtgkbgojgpomcdaaDoorUn3c
import Derived.Test.YtgkbgojgpomcdaaDoorUn3s
namespace Go.Proofs.YtgkbgojgpomcdaaDoor
open Go.RowKit Go.Extern.Stop Go.Stop Go.Extern
set_option maxRecDepth 100000

theorem own_emptyX (w : World) : RwX (.slice (some ⟨w.heap.size, 0, none⟩) 0 0) [] (w.alloc (.cells #[] 66)) :=
  ⟨rfl, .inr ⟨w.heap.size, 0, #[], rfl, heap_alloc_last w _, Nat.le_refl _, Nat.zero_le _, by simp, by simp [xcells]⟩⟩
set_option maxHeartbeats 2000000 in
theorem clone_ok {w : World} {v : Value} {l : List Xg} (h : SlD w v l) (hne : l ≠ []) (hl : l.length ≤ 4398046510976) :
    Calls Tryd.prog 57 #[v] w fun e w' => ∃ u, e = .returned u ∧ NwX w.heap.size u l w' ∧ Below w.heap.size w w' := by
  obtain ⟨a, c, rfl⟩ := h.form
  obtain ⟨_, g, o_, rfl, hc⟩ := h.some' hne
  have hq : ∀ x, (binOp .eql 33 (.slice (some ⟨g, o_, none⟩) l.length c) (.slice none 0 0)).run Tryd.prog x = .ok (.bool false) x := fun x => by kernel_rfl
  have HS := hid_of' (h.later (below_one w (.cells #[] 66))).so
  clear hc h
  go_enter Tryd.func57, Tryd.ntmps57
  go_wp2_with (at_builtin; refine wpL_appG (m := l) rfl _ _ rfl rfl rfl (own_emptyX w) HS.out (by show 0 + _ ≤ _; omega) ?_; intro v' w1 ho hg ha)
  go_ret
  have hb := below_one w (.cells #[] 66)
  refine ⟨_, rfl, ⟨ho, fun k hk => ?_⟩, hb.grown hg (by simp) (fun k hk => by cases hk; exact Nat.le_refl _)⟩
  rcases ha k hk with q | q
  · cases q; exact Nat.le_refl _
  · rw [World.size_alloc] at q; omega

theorem OwnV.later {v : Value} {l : List Value} {w w' : World} (h : OwnV v l w) (hb : Below w.heap.size w w') : OwnV v l w' := ⟨h.1.later hb, h.2⟩
theorem OwnV.ch {S : Nat → Prop} {v : Value} {l : List Value} {w w' : World} (h : OwnV v l w) (c : Ch S w w') (hn : ∀ k, v.ownBlock = some k → ¬ S k) : OwnV v l w' := ⟨h.1.ch c hn, h.2⟩
theorem OwnV.nil (w : World) : OwnV (.slice none 0 0) [] w := ⟨Rw.nil _ _ _, fun u hu => by cases hu⟩
theorem OwnV.form {v : Value} {l : List Value} {w : World} (h : OwnV v l w) : ∃ a c, v = .slice a l.length c := by
  obtain ⟨a, c, h1, _⟩ := h.1.form
  exact ⟨a, c, h1⟩
theorem OwnV.at {v : Value} {l : List Value} {w : World} (h : OwnV v l w) {i : Nat} {u : Value} (hu : l[i]? = some u) : ∃ g c, v = .slice (some ⟨g, 0, none⟩) l.length c ∧ w.cell? ⟨g, i, none⟩ = some u ∧ w.frozen? ⟨g, i, none⟩ = false := by
  have h0 := h.1
  have hi := (List.getElem?_eq_some_iff.1 hu).1
  rcases h.1.2 with ⟨_, hn⟩ | ⟨g, cap, cur, rfl, hg, _⟩
  · omega
  · refine ⟨g, cap, rfl, ?_, Lib.frozen_of_heap hg _⟩
    have := h0.cells _ _ hu
    rwa [Nat.zero_add] at this
theorem EsAt.slices {K : Nat → Prop} {us : List Value} {ls : List (List Xg)} {w : World} (h : EsAt K us ls w) : ∀ u ∈ us, ∃ a n c, u = .slice a n c := fun u hu => by
  obtain ⟨i, hi⟩ := List.getElem?_of_mem hu
  have hlt := (List.getElem?_eq_some_iff.1 hi).1
  obtain ⟨a, c, h1, _⟩ := Rw.form (h.2 i u _ hi (List.getElem?_eq_getElem (by rw [← h.1]; exact hlt))).row
  exact ⟨a, _, c, h1⟩
theorem ERow.open {K : Nat → Prop} {v : Value} {ls : List (List Xg)} {w : World} (h : ERow K v ls w) : ∃ us, OwnV v us w ∧ EsAt K us ls w := by
  obtain ⟨us, h1, h2⟩ := h.ex
  exact ⟨us, ⟨by rw [h2.1]; exact h1, h2.slices⟩, h2⟩
theorem ERow.of {K : Nat → Prop} {v : Value} {us : List Value} {ls : List (List Xg)} {w : World} (h : OwnV v us w) (h2 : EsAt K us ls w) : ERow K v ls w := ⟨us, by rw [← h2.1]; exact h.1, h2⟩
theorem wpL_appE {ops : Array Oper} {rest : List Oper} {o : Oper} {A : Act} {w : World} {Q : Exit → Act → World → Prop} (hgd : o.guard = none) (s x : Operand) (ho : o.op = .call { callee := .builtin .append, args := #[s, x], argTypes := #[27, 27] })
    {u v : Value} {l m : List Value} {n : Nat} (hs : A.eval s = v) (hx : A.eval x = u) (hv : OwnV v l w) (hu : So 1 u n m w) (h1 : ∀ y ∈ m, ∃ a n c, y = .slice a n c) (hl : l.length + n ≤ 1000000)
    (k : ∀ v' w', OwnV v' (l ++ m) w' → w.grownBy w' v.ownBlock → At' w v v' → wpList Tryd.prog ops Q rest (A.put o.dst v') w') : wpList Tryd.prog ops Q (o :: rest) A w := by
  obtain ⟨i0, hi, h2, h3, h4⟩ := info_parts info_gs
  refine wpL_app (P := Tryd.prog) hgd s x 27 ho 33 i0 _ 1 24 Tryd.underlying27 hi h2 h3 h4 rfl hs hx hv.1 hu (fun y hy => slice_one (h1 y hy)) (by unfold maxLen; omega) (by omega) fun v' w' q1 q2 q3 => k v' w' ⟨?_, ?_⟩ q2 q3
  · rw [List.length_append, show m.length = n by have := hu.1; omega]
    exact q1
  · intro y hy
    rcases List.mem_append.1 hy with q | q
    · exact hv.2 y q
    · exact h1 y q
theorem so_e (w : World) (u : Value) : So 1 (.slice (some ⟨w.heap.size, 0, none⟩) 1 1) 1 [u] (w.alloc (.cells #[u] 33)) := by
  refine ⟨rfl, .inr ⟨⟨w.heap.size, 0, none⟩, 1, rfl, fun j x hx => ?_⟩⟩
  match j, hx with
  | 0, hx =>
    cases hx
    exact (row_new w #[u] 33).cell 0
  | j + 1, hx => simp at hx

/-- Edits that are only read. -/
def SlE (w : World) (v : Value) (ls : List (List Xg)) : Prop := (ls = [] ∧ ∃ a c, v = .slice a 0 c) ∨ ∃ (g o_ c : Nat) (us : List Value), v = .slice (some ⟨g, o_, none⟩) ls.length c ∧ us.length = ls.length ∧ (∀ i u, us[i]? = some u → w.cell? ⟨g, o_ + i, none⟩ = some u) ∧ ∀ (i : Nat) (u : Value) (l : List Xg), us[i]? = some u → ls[i]? = some l → SlD w u l
theorem SlE.form {w : World} {v : Value} {ls : List (List Xg)} (h : SlE w v ls) : ∃ a c, v = .slice a ls.length c := by
  rcases h with ⟨rfl, a, c, rfl⟩ | ⟨g, o_, c, us, rfl, _⟩
  · exact ⟨a, c, rfl⟩
  · exact ⟨_, c, rfl⟩
theorem SlE.at {w : World} {a : Option Addr} {n c : Nat} {ls : List (List Xg)} (h : SlE w (.slice a n c) ls) {i : Nat} {l : List Xg} (hl : ls[i]? = some l) : ∃ g o_ u, a = some ⟨g, o_, none⟩ ∧ w.cell? ⟨g, o_ + i, none⟩ = some u ∧ SlD w u l := by
  have hi := (List.getElem?_eq_some_iff.1 hl).1
  rcases h with ⟨rfl, _⟩ | ⟨g, o_, c', us, hv, h1, h2, h3⟩
  · simp at hi
  · simp only [Value.slice.injEq] at hv
    have hu := List.getElem?_eq_getElem (l := us) (i := i) (by omega)
    exact ⟨g, o_, _, hv.1, h2 i _ hu, h3 i _ l hu hl⟩
theorem ERow.sl {K : Nat → Prop} {v : Value} {ls : List (List Xg)} {w : World} (h : ERow K v ls w) : SlE w v ls := by
  obtain ⟨us, h1, h2⟩ := h.ex
  have h0 := h1
  rcases h1.2 with ⟨rfl, hn⟩ | ⟨g, cap, cur, rfl, hg, _⟩
  · exact .inl ⟨List.eq_nil_of_length_eq_zero hn, _, _, rfl⟩
  · exact .inr ⟨g, 0, cap, us, rfl, h2.1, fun i u hu => h0.cells _ _ hu, fun i u l a b => (h2.2 i u l a b).row.sl⟩
theorem ERow.fits {K : Nat → Prop} {v : Value} {ls : List (List Xg)} {w : World} (h : ERow K v ls w) : ∀ l ∈ ls, l ≠ [] ∧ l.length ≤ 4398046510976 := fun l hl => by
  obtain ⟨us, _, h2⟩ := h.ex
  obtain ⟨i, hi⟩ := List.getElem?_of_mem hl
  obtain ⟨u, _, hu⟩ := h2.at hi
  exact ⟨hu.ne, hu.le⟩
theorem SlD.ofCell {w w' : World} {v : Value} {l : List Xg} (h : SlD w v l) (hb : Below w.heap.size w w') : SlD w' v l := h.later hb
/-- No two of them lie in one block. -/
def Dst (us : List Value) : Prop := ∀ (i j : Nat) (u u' : Value), us[i]? = some u → us[j]? = some u' → i ≠ j → ∀ k, u.ownBlock = some k → ¬ u'.ownBlock = some k
theorem Dst.nil : Dst [] := fun i j u u' h => by simp at h
theorem Dst.app {K : Nat → Prop} {us : List Value} {ls : List (List Xg)} {w : World} {u : Value} (h : Dst us) (he : EsAt K us ls w) (hu : ∀ k, u.ownBlock = some k → w.heap.size ≤ k) : Dst (us ++ [u]) := by
  have hlt : ∀ (i : Nat) (x : Value), us[i]? = some x → ∀ k, x.ownBlock = some k → k < w.heap.size := fun i x hx k hk => by
    have hi := (List.getElem?_eq_some_iff.1 hx).1
    exact Rw.lt (he.2 i x _ hx (List.getElem?_eq_getElem (by rw [← he.1]; exact hi))).row k hk
  have hcase : ∀ (i : Nat) (x : Value), (us ++ [u])[i]? = some x → (us[i]? = some x ∧ i < us.length) ∨ (x = u ∧ i = us.length) := fun i x hx => by
    by_cases e : i < us.length
    · rw [List.getElem?_append_left e] at hx
      exact .inl ⟨hx, e⟩
    · rw [List.getElem?_append_right (by omega)] at hx
      have hl := (List.getElem?_eq_some_iff.1 hx).1
      simp only [List.length_cons, List.length_nil] at hl
      have e0 : i - us.length = 0 := by omega
      rw [e0] at hx
      exact .inr ⟨by simpa using hx.symm, by omega⟩
  intro i j x y hx hy hij k hk hk'
  rcases hcase i x hx with ⟨h1, _⟩ | ⟨h1, e1⟩
  · rcases hcase j y hy with ⟨h2, _⟩ | ⟨h2, _⟩
    · exact h i j x y h1 h2 hij k hk hk'
    · have := hlt i x h1 k hk
      rw [h2] at hk'
      have := hu k hk'
      omega
  · rcases hcase j y hy with ⟨h2, _⟩ | ⟨_, e2⟩
    · have := hlt j y h2 k hk'
      rw [h1] at hk
      have := hu k hk
      omega
    · omega
/-- A row of edits that came about since, each edit too. -/
structure NwE (B : Nat) (v : Value) (ls : List (List Xg)) (w : World) : Prop where
  ex : ∃ us, OwnV v us w ∧ EsAt (fun k => B ≤ k) us ls w ∧ Dst us
  own : ∀ k, v.ownBlock = some k → B ≤ k
theorem NwE.later {B : Nat} {v : Value} {ls : List (List Xg)} {w w' : World} (h : NwE B v ls w) (hb : Below w.heap.size w w') : NwE B v ls w' := by
  obtain ⟨⟨us, h1, h2, h3⟩, h4⟩ := h
  exact ⟨⟨us, h1.later hb, h2.later hb, h3⟩, h4⟩
theorem NwE.row {B : Nat} {v : Value} {ls : List (List Xg)} {w : World} (h : NwE B v ls w) : ERow (fun k => B ≤ k) v ls w := by
  obtain ⟨⟨us, h1, h2, _⟩, _⟩ := h
  exact ERow.of h1 h2
set_option maxHeartbeats 4000000 in
theorem copied_ok {w : World} {v : Value} {ls : List (List Xg)} (h : SlE w v ls) (hf : ∀ l ∈ ls, l ≠ [] ∧ l.length ≤ 4398046510976) (hn : ls.length ≤ 100000) :
    Calls Tryd.prog 41 #[v] w fun e w' => ∃ u, e = .returned u ∧ NwE w.heap.size u ls w' ∧ Below w.heap.size w w' := by
  obtain ⟨a, c, rfl⟩ := h.form
  have H := hid_of' (And.intro h hf)
  obtain ⟨n, hnn⟩ : ∃ n, n = ls.length := ⟨_, rfl⟩
  rw [← hnn] at hn H ⊢
  replace hnn := hid_of' hnn
  clear h hf
  go_enter Tryd.func41, Tryd.ntmps41
  go_wp2
  go_loopw [3, 8] (fun ov iv wr => ∃ (k : Nat) (us : List Value), iv = .int .i64 (k : Int) ∧ k ≤ n ∧ OwnV ov us wr ∧ EsAt (fun k => w.heap.size ≤ k) us (ls.take k) wr ∧ Dst us ∧ (∀ k, ov.ownBlock = some k → w.heap.size ≤ k) ∧ Below w.heap.size w wr) (fun _ iv _ => n - (intOf iv).toNat)
  case atStart => exact ⟨0, [], rfl, Nat.zero_le _, OwnV.nil _, by rw [List.take_zero]; exact EsAt.nil _ _, Dst.nil, (fun k hk => by cases hk), Below.refl _ _⟩
  case round =>
    obtain ⟨k, us, rfl, hk, hO, hE, hD, hw, hB⟩ := hrel
    have hkn := hnn.out
    obtain ⟨ao, co, ho9⟩ := hO.form
    have hul : us.length = k := by rw [hE.1, List.length_take]; omega
    rw [hul] at ho9
    subst ho9
    clear hkn
    by_cases hkl : k < n
    · have hki : (k : Int) < (n : Int) := by omega
      obtain ⟨l, hl⟩ : ∃ l, ls[k]? = some l := ⟨_, List.getElem?_eq_getElem (by rw [← hnn.out]; exact hkl)⟩
      have hfl := H.out.2 l (List.mem_of_getElem? hl)
      obtain ⟨g, o_, u, rfl, hcu, hsu⟩ := H.out.1.at hl
      have cu : wr.cell? ⟨g, o_ + k, none⟩ = some u := by rw [hB.cell (World.block_lt_of_cell? _ _ hcu)]; exact hcu
      have HC := hid_of' (clone_ok (hsu.later hB) hfl.1 hfl.2)
      obtain ⟨a1, c1, rfl⟩ := hsu.form
      generalize l.length = n1 at cu HC hsu
      have HT : Hid (ls.take (k + 1) = ls.take k ++ [l]) := by show _ = _; rw [List.take_add_one, hl]; rfl
      have HR := hid_of' (And.intro hO (And.intro hE (And.intro hD (And.intro hw (And.intro hB (And.intro hfl hul))))))
      clear hO hE hD hw hB hcu hsu hl hfl hul
      go_upto_region 6 with (first | (go_at_call 57; refine HC.out.mono ?_; rintro e w1 ⟨u1, rfl, hu1, hb1⟩; clear HC; obtain ⟨a5, c5, hv5, _⟩ := Rw.form hu1.1; generalize List.length _ = n5 at hv5; subst hv5; have HU := hid_of' (And.intro hu1 hb1); clear hu1 hb1) | (at_builtin; refine wpL_appE (m := [.slice a5 n5 c5]) rfl _ _ rfl rfl rfl ((HR.out.1.later HU.out.2).later (below_one w1 (.cells #[.slice a5 n5 c5] 33))) (so_e w1 (.slice a5 n5 c5)) (fun y hy => by rw [List.mem_singleton] at hy; subst hy; exact ⟨_, _, _, rfl⟩) (by have := HR.out.2.2.2.2.2.2; omega) ?_; intro v6 w6 q1 q2 q3; obtain ⟨a6, c6, hv6⟩ := q1.form; generalize List.length _ = n6 at hv6; subst hv6; have HZ := hid_of' (And.intro q1 (And.intro q2 q3)); clear q1 q2 q3))
      go_wp2
      go_roundw
      case rel =>
        obtain ⟨hO, hE, hD, hw, hB, hfl, hul⟩ := HR.out
        obtain ⟨hu1, hb1⟩ := HU.out
        obtain ⟨q1, q2, q3⟩ := HZ.out
        have hb2 := bgo hb1 (below_one w1 (.cells #[.slice a5 n5 c5] 33))
        have hs := hB.size
        have hs1 := hb1.size
        refine ⟨k + 1, us ++ [.slice a5 n5 c5], by go_num, by omega, q1, ?_, hD.app hE hu1.2, ?_, ?_⟩
        · rw [HT.out]
          have hne : ∀ (i : Nat) (u : Value) (x : List Xg), EdAt (fun k => w.heap.size ≤ k) u x w1 → ∀ g, u.ownBlock = some g → ¬ Value.ownBlock (.slice ao k co) = some g := fun i u x hx g hg hq => by
            obtain ⟨cur, h1⟩ := Rw.typ (hO.later hb1).1 g hq
            obtain ⟨_, _, cur', h2⟩ := hx.typ g hg
            rw [h1] at h2
            simp at h2
          have hE1 : EsAt (fun k => w.heap.size ≤ k) (us ++ [.slice a5 n5 c5]) (ls.take k ++ [l]) w1 := (hE.later hb1).app (EsAt.one ⟨hu1.1, fun g hg => by have := hu1.2 g hg; omega, hfl.1, hfl.2⟩)
          refine ⟨hE1.1, fun i u x hi hx => ?_⟩
          have h9 := hE1.2 i u x hi hx
          have h8 := h9.later (below_one w1 (.cells #[.slice a5 n5 c5] 33))
          exact ⟨Rw.grow h8.row q2 (fun g hg hq => hne i u x h9 g hg hq), h8.own, h8.ne, h8.le⟩
        · intro g hg
          rcases q3 g hg with q | q
          · exact hw g q
          · rw [World.size_alloc] at q; omega
        · exact (bgo hB hb2).grown q2 (by rw [World.size_alloc]; omega) (fun g hg => hw g hg)
      case measure => simp [intOf]; omega
    · have hki : ¬ (k : Int) < (n : Int) := by omega
      have HR := hid_of' (And.intro hO (And.intro hE (And.intro hD (And.intro hw hB))))
      clear hO hE hD hw hB
      go_wp2
      go_ret
      obtain ⟨hO, hE, hD, hw, hB⟩ := HR.out
      rw [List.take_of_length_le (by have := hnn.out; omega)] at hE
      exact ⟨_, rfl, ⟨⟨us, hO, hE, hD⟩, hw⟩, hB⟩
end Go.Proofs.YtgkbgojgpomcdaaDoor
