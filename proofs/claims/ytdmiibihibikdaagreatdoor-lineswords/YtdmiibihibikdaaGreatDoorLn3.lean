/-
  barrowlaw06.begun: a model of some characters.
  barrowlaw06.begun's walk.
-/
import Derived.Test.YtdmiibihibikdaaGreatDoorLn1
namespace Go.Proofs.YtdmiibihibikdaaGreatDoor
open Go.RowKit Go.Extern.Stop Go.Stop Go.Extern
set_option maxRecDepth 100000

/-- A list of characters in memory. -/
def SlR (w : World) (v : Value) (cs : List Int) : Prop := (cs = [] ∧ ∃ a c, v = .slice a 0 c) ∨ ∃ g o_ c, v = .slice (some ⟨g, o_, none⟩) cs.length c ∧ g < w.heap.size ∧ ∀ (i : Nat) (x : Int), cs[i]? = some x → w.cell? ⟨g, o_ + i, none⟩ = some (.int .i32 x)
/-- A list of yes and no. -/
def SlB (w : World) (v : Value) (hs : List Bool) : Prop := (hs = [] ∧ ∃ a c, v = .slice a 0 c) ∨ ∃ g o_ c, v = .slice (some ⟨g, o_, none⟩) hs.length c ∧ g < w.heap.size ∧ ∀ (i : Nat) (x : Bool), hs[i]? = some x → w.cell? ⟨g, o_ + i, none⟩ = some (.bool x)
theorem SlR.form {w : World} {v : Value} {cs : List Int} (h : SlR w v cs) : ∃ a c, v = .slice a cs.length c := by
  rcases h with ⟨h, a, c, e⟩ | ⟨g, o_, c, e, _⟩
  · subst h; exact ⟨a, c, e⟩
  · exact ⟨_, _, e⟩
theorem SlB.form {w : World} {v : Value} {cs : List Bool} (h : SlB w v cs) : ∃ a c, v = .slice a cs.length c := by
  rcases h with ⟨h, a, c, e⟩ | ⟨g, o_, c, e, _⟩
  · subst h; exact ⟨a, c, e⟩
  · exact ⟨_, _, e⟩
theorem SlR.at {w w' : World} {v : Value} {cs : List Int} (h : SlR w v cs) (hb : Below w.heap.size w w') {i : Nat} {x : Int} (hx : cs[i]? = some x) : ∃ g o_ c, v = .slice (some ⟨g, o_, none⟩) cs.length c ∧ w'.cell? ⟨g, o_ + i, none⟩ = some (.int .i32 x) := by
  rcases h with ⟨h, _⟩ | ⟨g, o_, c, e, hg, hc⟩
  · subst h; simp at hx
  · exact ⟨g, o_, c, e, by rw [hb.cell (p := ⟨g, o_ + i, none⟩) hg]; exact hc i x hx⟩
theorem SlB.at {w w' : World} {v : Value} {cs : List Bool} (h : SlB w v cs) (hb : Below w.heap.size w w') {i : Nat} {x : Bool} (hx : cs[i]? = some x) : ∃ g o_ c, v = .slice (some ⟨g, o_, none⟩) cs.length c ∧ w'.cell? ⟨g, o_ + i, none⟩ = some (.bool x) := by
  rcases h with ⟨h, _⟩ | ⟨g, o_, c, e, hg, hc⟩
  · subst h; simp at hx
  · exact ⟨g, o_, c, e, by rw [hb.cell (p := ⟨g, o_ + i, none⟩) hg]; exact hc i x hx⟩
/-- A list of characters of the call's own. -/
def OwnR (base : Nat) (v : Value) (cs : List Int) (w : World) : Prop := w.ownsRow base 21 1 v cs.length (cs.map (Value.int .i32))
theorem OwnR.later {base : Nat} {v : Value} {cs : List Int} {w w' : World} (h : OwnR base v cs w) (hb : Below w.heap.size w w') : OwnR base v cs w' := by
  obtain ⟨e1, e2⟩ := h
  refine ⟨e1, ?_⟩
  rcases e2 with h | ⟨g, cap, cur, q1, q2, q3, q4⟩
  · exact .inl h
  · exact .inr ⟨g, cap, cur, q1, q2, (hb.block _ (Array.getElem?_eq_some_iff.1 q3).1).trans q3, q4⟩
theorem own_nil (base : Nat) (w : World) : OwnR base (.slice none 0 0) [] w := ⟨rfl, .inl ⟨rfl, rfl⟩⟩
theorem ownE_nil (base : Nat) (w : World) : OwnE base (.slice none 0 0) [] w := ⟨rfl, .inl ⟨rfl, rfl⟩⟩
theorem OwnR.sl {base : Nat} {v : Value} {cs : List Int} {w : World} (h : OwnR base v cs w) : SlR w v cs := by
  obtain ⟨e1, e2⟩ := h
  rcases e2 with ⟨h1, h2⟩ | ⟨g, cap, cur, q1, q2, q3, q4, q5, q6, q7⟩
  · exact .inl ⟨List.length_eq_zero_iff.1 h2, none, 0, h1⟩
  · refine .inr ⟨g, 0, cap, q1, (Array.getElem?_eq_some_iff.1 q3).1, fun i x hx => ?_⟩
    have hi := (List.getElem?_eq_some_iff.1 hx).1
    rw [cell_of_row w g (0 + i) cur _ _ q3, Nat.zero_add]
    have : (cur.toList.take (cs.length * 1))[i]? = some (.int .i32 x) := by rw [q7]; simp [hx]
    rw [List.getElem?_take_of_lt (by omega)] at this
    simpa using this
theorem own_ne {w : World} {b1 b2 e1 e2 s1 s2 n1 n2 : Nat} {v1 v2 : Value} {x1 x2 : List Value} (h1 : w.ownsRow b1 e1 s1 v1 n1 x1) (h2 : w.ownsRow b2 e2 s2 v2 n2 x2) (he : e1 ≠ e2) : v1.ownBlock = none ∨ v1.ownBlock ≠ v2.ownBlock := by
  rcases h1.2 with ⟨a1, _⟩ | ⟨g, cap, cur, a1, _, a3, _⟩
  · exact .inl (by rw [a1]; rfl)
  · rcases h2.2 with ⟨c1, _⟩ | ⟨g', cap', cur', c1, _, c3, _⟩
    · refine .inr ?_
      rw [a1, c1]
      simp [Value.ownBlock]
    · refine .inr ?_
      rw [a1, c1]
      simp [Value.ownBlock]
      intro e
      subst e
      rw [a3] at c3
      simp at c3
      exact he c3.2
theorem info_rune : (Tryz.prog.info? 21).map (fun i => (i.zero, i.size, i.bytes)) = some (some (.int .i32 0), 1, 4) := by kernel_rfl
/-- The k-th element. -/
def bgEl (hs : List Bool) (k : Nat) (c : Int) : El := ⟨0, 0, (k : Int) + 1, c, if (hs[k]?).getD false = true then 1 else 0⟩
/-- The elements behind k rounds. -/
def bgE (cs : List Int) (hs : List Bool) : Nat → List El
  | 0 => []
  | k + 1 => match cs[k]? with
    | some c => if rightC c = true then bgE cs hs k ++ [bgEl hs k c] else bgE cs hs k
    | none => bgE cs hs k
theorem bgE_bad {cs : List Int} {hs : List Bool} {k : Nat} {c : Int} (h : cs[k]? = some c) (hr : rightC c = false) : bgE cs hs (k + 1) = bgE cs hs k := by
  show (match cs[k]? with
    | some c => if rightC c = true then bgE cs hs k ++ [bgEl hs k c] else bgE cs hs k
    | none => bgE cs hs k) = _
  rw [h]; simp [hr]
theorem bgE_ok {cs : List Int} {hs : List Bool} {k : Nat} {c : Int} (h : cs[k]? = some c) (hr : rightC c = true) : bgE cs hs (k + 1) = bgE cs hs k ++ [bgEl hs k c] := by
  show (match cs[k]? with
    | some c => if rightC c = true then bgE cs hs k ++ [bgEl hs k c] else bgE cs hs k
    | none => bgE cs hs k) = _
  rw [h]; simp [hr]
theorem bgE_all {cs : List Int} {hs : List Bool} : ∀ (k : Nat), (bgE cs hs k).length ≤ k ∧ ∀ (i : Nat) (e : El), (bgE cs hs k)[i]? = some e → e.ep = 0 ∧ e.rp = 0 ∧ 1 ≤ e.no ∧ e.no ≤ k ∧ rightC e.ch = true ∧ (e.hd = 0 ∨ e.hd = 1)
  | 0 => ⟨Nat.le_refl _, fun i e h => by simp [bgE] at h⟩
  | k + 1 => by
    obtain ⟨a1, a2⟩ := bgE_all (cs := cs) (hs := hs) k
    cases hk : cs[k]? with
    | none =>
      have : bgE cs hs (k + 1) = bgE cs hs k := by
        show (match cs[k]? with
          | some c => if rightC c = true then bgE cs hs k ++ [bgEl hs k c] else bgE cs hs k
          | none => bgE cs hs k) = _
        rw [hk]
      rw [this]
      exact ⟨by omega, fun i e h => by obtain ⟨b1, b2, b3, b4, b5⟩ := a2 i e h; exact ⟨b1, b2, b3, by omega, b5⟩⟩
    | some c =>
      cases hr : rightC c with
      | false =>
        rw [bgE_bad hk hr]
        exact ⟨by omega, fun i e h => by obtain ⟨b1, b2, b3, b4, b5⟩ := a2 i e h; exact ⟨b1, b2, b3, by omega, b5⟩⟩
      | true =>
        rw [bgE_ok hk hr]
        refine ⟨by simp; omega, fun i e h => ?_⟩
        rw [List.getElem?_append] at h
        split at h
        · obtain ⟨b1, b2, b3, b4, b5⟩ := a2 i e h; exact ⟨b1, b2, b3, by omega, b5⟩
        · rename_i hi
          have hi0 : i - (bgE cs hs k).length = 0 := by
            rcases Nat.eq_zero_or_pos (i - (bgE cs hs k).length) with h0 | h0
            · exact h0
            · rw [List.getElem?_eq_none (by simp; omega)] at h; cases h
          rw [hi0] at h
          simp at h
          subst h
          refine ⟨rfl, rfl, by simp [bgEl]; omega, by simp [bgEl], hr, ?_⟩
          show (if (hs[k]?).getD false = true then (1 : Int) else 0) = 0 ∨ (if (hs[k]?).getD false = true then (1 : Int) else 0) = 1
          split
          · exact .inr rfl
          · exact .inl rfl
theorem bgE_rise {cs : List Int} {hs : List Bool} : ∀ (k i j : Nat) (x y : El), i < j → (bgE cs hs k)[i]? = some x → (bgE cs hs k)[j]? = some y → x.no < y.no
  | 0, i, j, x, y, _, h, _ => by simp [bgE] at h
  | k + 1, i, j, x, y, hij, hx, hy => by
    cases hk : cs[k]? with
    | none =>
      have : bgE cs hs (k + 1) = bgE cs hs k := by
        show (match cs[k]? with
          | some c => if rightC c = true then bgE cs hs k ++ [bgEl hs k c] else bgE cs hs k
          | none => bgE cs hs k) = _
        rw [hk]
      rw [this] at hx hy
      exact bgE_rise k i j x y hij hx hy
    | some c =>
      cases hr : rightC c with
      | false =>
        rw [bgE_bad hk hr] at hx hy
        exact bgE_rise k i j x y hij hx hy
      | true =>
        rw [bgE_ok hk hr] at hx hy
        have hj : j < (bgE cs hs k).length + 1 := by have := (List.getElem?_eq_some_iff.1 hy).1; simpa using this
        rw [List.getElem?_append_left (by omega)] at hx
        rw [List.getElem?_append] at hy
        split at hy
        · exact bgE_rise k i j x y hij hx hy
        · have hj0 : j - (bgE cs hs k).length = 0 := by omega
          rw [hj0] at hy
          simp at hy
          subst hy
          have := ((bgE_all (cs := cs) (hs := hs) k).2 i x hx).2.2.2.1
          simp [bgEl]; omega
theorem bgE_good (cs : List Int) (hs : List Bool) (k : Nat) (hk : k ≤ 1000) : (∀ (i : Nat) (e : El), (bgE cs hs k)[i]? = some e → e.Good) ∧ Apart (bgE cs hs k) ∧ Ch32 (bgE cs hs k) := by
  refine ⟨fun i e h => ?_, fun i j x y hij hx hy e => ?_, fun i e h => ?_⟩
  · obtain ⟨b1, b2, b3, b4, b5, b6⟩ := (bgE_all (cs := cs) (hs := hs) k).2 i e h
    refine ⟨⟨?_, ?_, ?_⟩, b5, ?_⟩
    · show In64 e.ep
      rw [b1]; exact ⟨by omega, by omega⟩
    · show In64 e.rp
      rw [b2]; exact ⟨by omega, by omega⟩
    · show In64 e.no
      exact ⟨by omega, by omega⟩
    · unfold fairH
      simp
      omega
  · have h1 := bgE_rise k i j x y hij hx hy
    have h2 : x.no = y.no := congrArg Idn.c e
    omega
  · obtain ⟨_, _, _, _, b5, _⟩ := (bgE_all (cs := cs) (hs := hs) k).2 i e h
    unfold rightC at b5
    simp at b5
    omega
end Go.Proofs.YtdmiibihibikdaaGreatDoor
namespace Go.Proofs.YtdmiibihibikdaaGreatDoor
open Go.RowKit Go.Extern.Stop Go.Stop Go.Extern
set_option maxRecDepth 100000

/-- So many rounds. -/
def bgN (cs : List Int) : Nat := min cs.length 150
theorem vis_snoc (l : List El) (e : El) : vis (l ++ [e]) = if e.hd > 0 then vis l else vis l ++ [e.ch] := by
  rw [vis_app]
  by_cases h : e.hd > 0
  · rw [if_pos h, vis_hid _ h]; simp [vis]
  · rw [if_neg h, vis_live _ h]; simp [vis]
theorem OwnE.lat {base : Nat} {v : Value} {l : List El} {w w' : World} (h : OwnE base v l w) (hb : Below w.heap.size w w') : OwnE base v l w' := by
  obtain ⟨e1, e2⟩ := h
  refine ⟨e1, ?_⟩
  rcases e2 with h | ⟨g, cap, cur, q1, q2, q3, q4⟩
  · exact .inl h
  · exact .inr ⟨g, cap, cur, q1, q2, (hb.block _ (Array.getElem?_eq_some_iff.1 q3).1).trans q3, q4⟩
theorem RowAt.keptO {g b e s n : Nat} {cs : Array Value} {ty : TypeId} {v : Value} {xs : List Value} {w w' : World} (h : RowAt g cs ty w) (h2 : w.ownsRow b e s v n xs) (hne : ty ≠ e) (hg : w.grownBy w' v.ownBlock) : RowAt g cs ty w' := by
  refine (hg.block _ h.lt ?_).trans h
  intro e9
  rcases h2.2 with ⟨a1, _⟩ | ⟨g9, cap, cur, a1, _, a3, _⟩
  · rw [a1] at e9; simp [Value.ownBlock] at e9
  · rw [a1] at e9
    simp only [Value.ownBlock, Option.some.injEq] at e9
    subst e9
    rw [show w.heap[g]? = _ from h] at a3
    cases a3
    exact hne rfl
theorem OwnE.keptR {b1 b2 : Nat} {v1 v2 : Value} {l : List El} {cs : List Int} {w w' : World} (h : OwnE b1 v1 l w) (h2 : OwnR b2 v2 cs w) (hg : w.grownBy w' v2.ownBlock) : OwnE b1 v1 l w' := World.ownsRow.kept h hg (own_ne h h2 (by decide))
theorem OwnR.keptE {b1 b2 : Nat} {v1 v2 : Value} {l : List El} {cs : List Int} {w w' : World} (h : OwnR b1 v1 cs w) (h2 : OwnE b2 v2 l w) (hg : w.grownBy w' v2.ownBlock) : OwnR b1 v1 cs w' := World.ownsRow.kept h hg (own_ne h h2 (by decide))

set_option maxHeartbeats 4000000 in
theorem begun_ok {w : World} {u uh : Value} {cs : List Int} {hs : List Bool} (hu : SlR w u cs) (hh : SlB w uh hs) :
    Calls Tryz.prog 8 #[u, uh] w fun r w' => ∃ mb vs, r = .returned (.tuple #[pv mb, vs]) ∧ MvAt mb (bgE cs hs (bgN cs)) w' ∧ SlR w' vs (vis (bgE cs hs (bgN cs))) ∧ Below w.heap.size w w' := by
  obtain ⟨a1, c1, rfl⟩ := hu.form
  obtain ⟨a2, c2, rfl⟩ := hh.form
  go_enter Tryz.func8, Tryz.ntmps8
  go_wp2
  go_loopw [6, 7, 8] (fun mv sv i wr => ∃ k : Nat, i = .int .i64 (k : Int) ∧ k ≤ bgN cs ∧ OwnE w.heap.size mv (bgE cs hs k) wr ∧ OwnR w.heap.size sv (vis (bgE cs hs k)) wr ∧ Below w.heap.size w wr) (fun _ _ i _ => 150 - (intOf i).toNat)
  case atStart => exact ⟨0, rfl, Nat.zero_le _, ownE_nil _ _, own_nil _ _, Below.refl _ _⟩
  case round =>
    obtain ⟨k, rfl, hk, hE, hR, hB⟩ := hrel
    have hk1 : k ≤ cs.length ∧ k ≤ 150 := by unfold bgN at hk; omega
    by_cases hlt : k < bgN cs
    · have q1 : (k : Int) < (cs.length : Int) := by unfold bgN at hlt; omega
      have q2 : (k : Int) < 150 := by unfold bgN at hlt; omega
      obtain ⟨c, hc⟩ : ∃ c, cs[k]? = some c := ⟨_, List.getElem?_eq_getElem (by omega)⟩
      obtain ⟨g, o_, cc, hv, hcell⟩ := hu.at hB hc
      simp only [Value.slice.injEq] at hv
      obtain ⟨rfl, _, rfl⟩ := hv
      have HRt := hid_of' (refRight_any c)
      cases hr : rightC c with
      | false =>
        rw [hr] at HRt
        go_wp2_with (go_at_call 24; refine (HRt.out _).mono ?_; rintro r w2 ⟨rfl, hw⟩; obtain rfl := hw.symm)
        go_roundw
        case rel => exact ⟨k + 1, by go_num, by omega, by rw [bgE_bad hc hr]; exact hE, by rw [bgE_bad hc hr]; exact hR, hB⟩
        case measure => simp [intOf]; omega
      | true =>
        rw [hr] at HRt
        go_upto_region 8 with (first | (go_at_call 24; refine (HRt.out _).mono ?_; rintro r w2 ⟨rfl, hw⟩; obtain rfl := hw.symm))
        obtain ⟨e0, he0⟩ : ∃ e0 : El, e0 = ⟨0, 0, (k : Int) + 1, c, 0⟩ := ⟨_, rfl⟩
        have hr8 : RowAt wr.heap.size (ev e0) 65 (wr.alloc (.cells (ev e0) 65)) := row_new wr _ _
        have hb8 := below_one wr (.cells (ev e0) 65)
        have hev : ev e0 = #[.int .i64 0, .int .i64 0, .int .i64 ((k : Int) + 1), .int .i32 c, .int .i64 0] := by rw [he0]; rfl
        rw [← hev]
        clear hev
        replace he0 := hid_of' he0
        have hE8 := hE.lat hb8
        have hR8 := hR.later hb8
        have hB8 := bgo hB hb8
        have hc8 : (wr.alloc (.cells (ev e0) 65)).cell? ⟨g, o_ + k, none⟩ = some (.int .i32 c) := by
          obtain ⟨g', o', c', hv', hcell'⟩ := hu.at hB8 hc
          simp only [Value.slice.injEq, Option.some.injEq, Addr.mk.injEq] at hv'
          obtain ⟨⟨rfl, rfl, _⟩, _⟩ := hv'
          exact hcell'
        have HH := hid_of' (And.intro hE (And.intro hR hb8))
        clear hE hR hb8 hcell HRt
        cases hhk : hs[k]? with
        | none =>
          have q3 : ¬ (k : Int) < (hs.length : Int) := by have := List.getElem?_eq_none_iff.1 hhk; omega
          generalize wr.alloc (.cells (ev e0) 65) = W8 at hr8 hE8 hR8 hB8 hc8 ⊢
          obtain ⟨i0, hi, hi3⟩ := Option.map_eq_some_iff.1 info_rune
          simp only [Prod.mk.injEq] at hi3
          obtain ⟨hz0, hz1, hz2⟩ := hi3
          have hvl : (vis (bgE cs hs k)).length ≤ 150 := by have := vis_le (bgE cs hs k); have := (bgE_all (cs := cs) (hs := hs) k).1; omega
          have hsz8 := hB8.size
          have HR8 := hid_of' hR8
          obtain ⟨sa, sc, hsf⟩ : ∃ a c, u7 = .slice a (vis (bgE cs hs k)).length c := hR8.sl.form
          subst hsf
          have HC2 : Hid (∀ u ∈ [Value.int .i32 c], u.oneCell' = true) := by intro u hu; simp at hu; subst hu; rfl
          have HC3 : Hid ((vis (bgE cs hs k)).length + 1 ≤ maxLen ∧ ((vis (bgE cs hs k)).length + 1) * 4 ≤ 140737488355328 ∧ w.heap.size ≤ (W8.alloc (.cells #[.int .i32 c] 21)).heap.size) := ⟨by unfold maxLen; omega, by omega, by simp; omega⟩
          clear hR8
          go_upto_region 11 with (first | (at_builtin; refine wpList_append_own _ rfl _ _ 22 rfl w.heap.size 21 i0 (.int .i32 0) 1 4 Tryz.underlying22 hi hz0 hz1 hz2 rfl (by decide) _ _ _ rfl (World.ownsRow.alloc HR8.out _) ⟨W8.heap.size, 0, none⟩ 1 1 [.int .i32 c] rfl rfl (cell_one_new _ _ _) HC2.out HC3.out.1 HC3.out.2.1 HC3.out.2.2 ?_; intro v0 w9 hown9 hg9 _))
          have hR9 : OwnR w.heap.size v0 (vis (bgE cs hs k) ++ [c]) w9 := by
            unfold OwnR
            simpa using hown9
          have hE9 : OwnE w.heap.size u6 (bgE cs hs k) w9 := (hE8.lat (below_one W8 (.cells #[.int .i32 c] 21))).keptR (HR8.out.later (below_one W8 _)) hg9
          have hB9 := (hB8.alloc hsz8 (.cells #[.int .i32 c] 21)).grown hg9 (by simp; omega) (fun j hj => (World.ownsRow.lt HR8.out j hj).1)
          have hr9 : RowAt wr.heap.size (ev e0) 65 w9 := (hr8.later (below_one W8 (.cells #[.int .i32 c] 21))).keptO (World.ownsRow.alloc HR8.out _) (by decide) hg9
          clear hown9 hg9 HR8 hE8 hB8 hr8
          have hbg : bgE cs hs (k + 1) = bgE cs hs k ++ [e0] := by rw [bgE_ok hc hr, he0.out]; unfold bgEl; rw [hhk]; rfl
          have hvs : vis (bgE cs hs k ++ [e0]) = vis (bgE cs hs k) ++ [c] := by rw [vis_snoc, he0.out]; rfl
          have hrA := hr9
          have hEA := hE9
          have hRA := hR9
          have hBA := hB9
          clear hr9 hE9 hR9 hB9
          have HEA := hid_of' hEA
          have HRA := hid_of' hRA
          have hlen : (bgE cs hs k).length + [e0].length ≤ 1099511627776 := by have := (bgE_all (cs := cs) (hs := hs) k).1; simp; omega
          have hszA := hBA.size
          clear hEA hRA
          go_wp2_with (first | (refine wpL_loadE rfl _ rfl rfl hrA.in ?_; unfold ev) | (at_builtin; refine wpL_appE rfl _ _ rfl rfl rfl (HEA.out.lat (below_one w9 _)) (sl_new w9 [e0] 1 1 rfl) hlen (by rw [World.size_alloc]; omega) ?_; intro v2 wz ho3 hg3))
          have hBz := (hBA.alloc hszA (.cells (ecells [e0]).toArray 65)).grown hg3 (by rw [World.size_alloc]; omega) (fun j hj => (HEA.out.lt j hj).1)
          have hRz := (HRA.out.later (below_one w9 (.cells (ecells [e0]).toArray 65))).keptE (HEA.out.lat (below_one w9 _)) hg3
          go_roundw
          case rel => exact ⟨k + 1, by go_num, by omega, by rw [hbg]; exact ho3, by rw [hbg, hvs]; exact hRz, hBz⟩
          case measure => simp [intOf]; omega
        | some b =>
          obtain ⟨gh, oh, ch, hvh, hch⟩ := hh.at hB8 hhk
          simp only [Value.slice.injEq] at hvh
          obtain ⟨rfl, _, rfl⟩ := hvh
          have q3 : (k : Int) < (hs.length : Int) := by have := (List.getElem?_eq_some_iff.1 hhk).1; omega
          generalize wr.alloc (.cells (ev e0) 65) = W8 at hr8 hE8 hR8 hB8 hc8 hch HH ⊢
          cases b with
          | false =>
            obtain ⟨i0, hi, hi3⟩ := Option.map_eq_some_iff.1 info_rune
            simp only [Prod.mk.injEq] at hi3
            obtain ⟨hz0, hz1, hz2⟩ := hi3
            have hvl : (vis (bgE cs hs k)).length ≤ 150 := by have := vis_le (bgE cs hs k); have := (bgE_all (cs := cs) (hs := hs) k).1; omega
            have hsz8 := hB8.size
            have HR8 := hid_of' hR8
            obtain ⟨sa, sc, hsf⟩ : ∃ a c, u7 = .slice a (vis (bgE cs hs k)).length c := hR8.sl.form
            subst hsf
            have HC2 : Hid (∀ u ∈ [Value.int .i32 c], u.oneCell' = true) := by intro u hu; simp at hu; subst hu; rfl
            have HC3 : Hid ((vis (bgE cs hs k)).length + 1 ≤ maxLen ∧ ((vis (bgE cs hs k)).length + 1) * 4 ≤ 140737488355328 ∧ w.heap.size ≤ (W8.alloc (.cells #[.int .i32 c] 21)).heap.size) := ⟨by unfold maxLen; omega, by omega, by simp; omega⟩
            clear hR8
            go_upto_region 11 with (first | (at_builtin; refine wpList_append_own _ rfl _ _ 22 rfl w.heap.size 21 i0 (.int .i32 0) 1 4 Tryz.underlying22 hi hz0 hz1 hz2 rfl (by decide) _ _ _ rfl (World.ownsRow.alloc HR8.out _) ⟨W8.heap.size, 0, none⟩ 1 1 [.int .i32 c] rfl rfl (cell_one_new _ _ _) HC2.out HC3.out.1 HC3.out.2.1 HC3.out.2.2 ?_; intro v0 w9 hown9 hg9 _))
            have hR9 : OwnR w.heap.size v0 (vis (bgE cs hs k) ++ [c]) w9 := by
              unfold OwnR
              simpa using hown9
            have hE9 : OwnE w.heap.size u6 (bgE cs hs k) w9 := (hE8.lat (below_one W8 (.cells #[.int .i32 c] 21))).keptR (HR8.out.later (below_one W8 _)) hg9
            have hB9 := (hB8.alloc hsz8 (.cells #[.int .i32 c] 21)).grown hg9 (by simp; omega) (fun j hj => (World.ownsRow.lt HR8.out j hj).1)
            have hr9 : RowAt wr.heap.size (ev e0) 65 w9 := (hr8.later (below_one W8 (.cells #[.int .i32 c] 21))).keptO (World.ownsRow.alloc HR8.out _) (by decide) hg9
            clear hown9 hg9 HR8 hE8 hB8 hr8
            have hbg : bgE cs hs (k + 1) = bgE cs hs k ++ [e0] := by rw [bgE_ok hc hr, he0.out]; unfold bgEl; rw [hhk]; rfl
            have hvs : vis (bgE cs hs k ++ [e0]) = vis (bgE cs hs k) ++ [c] := by rw [vis_snoc, he0.out]; rfl
            have hrA := hr9
            have hEA := hE9
            have hRA := hR9
            have hBA := hB9
            clear hr9 hE9 hR9 hB9
            have HEA := hid_of' hEA
            have HRA := hid_of' hRA
            have hlen : (bgE cs hs k).length + [e0].length ≤ 1099511627776 := by have := (bgE_all (cs := cs) (hs := hs) k).1; simp; omega
            have hszA := hBA.size
            clear hEA hRA
            go_wp2_with (first | (refine wpL_loadE rfl _ rfl rfl hrA.in ?_; unfold ev) | (at_builtin; refine wpL_appE rfl _ _ rfl rfl rfl (HEA.out.lat (below_one w9 _)) (sl_new w9 [e0] 1 1 rfl) hlen (by rw [World.size_alloc]; omega) ?_; intro v2 wz ho3 hg3))
            have hBz := (hBA.alloc hszA (.cells (ecells [e0]).toArray 65)).grown hg3 (by rw [World.size_alloc]; omega) (fun j hj => (HEA.out.lt j hj).1)
            have hRz := (HRA.out.later (below_one w9 (.cells (ecells [e0]).toArray 65))).keptE (HEA.out.lat (below_one w9 _)) hg3
            go_roundw
            case rel => exact ⟨k + 1, by go_num, by omega, by rw [hbg]; exact ho3, by rw [hbg, hvs]; exact hRz, hBz⟩
            case measure => simp [intOf]; omega
          | true =>
            have c84 : W8.cell? ⟨wr.heap.size, 4, none⟩ = some (.int .i64 e0.hd) := hr8.cell 4
            have f84 : W8.frozen? ⟨wr.heap.size, 4, none⟩ = false := Lib.frozen_of_heap hr8 4
            clear hE8 hR8
            go_upto_region 11 with fail
            obtain ⟨e1, he1⟩ : ∃ e1 : El, e1 = ⟨0, 0, (k : Int) + 1, c, 1⟩ := ⟨_, rfl⟩
            replace he1 := hid_of' he1
            have hrA : RowAt wr.heap.size (ev e1) 65 (W8.setCell ⟨wr.heap.size, 4, none⟩ (.int .i64 1)) := by
              have := heap_setCell_at hr8 4 (.int .i64 1)
              rw [he0.out] at this
              rw [he1.out]
              exact this
            have hbA := HH.out.2.2.setCell (p := ⟨wr.heap.size, 4, none⟩) (Nat.le_refl _) (.int .i64 1)
            generalize W8.setCell ⟨wr.heap.size, 4, none⟩ (.int .i64 1) = WA at hrA hbA ⊢
            have hEA := HH.out.1.lat hbA
            have hRA := HH.out.2.1.later hbA
            have hBA := bgo hB hbA
            have hbg : bgE cs hs (k + 1) = bgE cs hs k ++ [e1] := by rw [bgE_ok hc hr, he1.out]; unfold bgEl; rw [hhk]; rfl
            have hvs : vis (bgE cs hs k ++ [e1]) = vis (bgE cs hs k) := by rw [vis_snoc, he1.out]; rfl
            clear HH hr8 hB8 hc8 hch c84 f84 he0 hbA
            have HEA := hid_of' hEA
            have HRA := hid_of' hRA
            have hlen : (bgE cs hs k).length + [e1].length ≤ 1099511627776 := by have := (bgE_all (cs := cs) (hs := hs) k).1; simp; omega
            have hszA := hBA.size
            clear hEA hRA
            go_wp2_with (first | (refine wpL_loadE rfl _ rfl rfl hrA.in ?_; unfold ev) | (at_builtin; refine wpL_appE rfl _ _ rfl rfl rfl (HEA.out.lat (below_one WA _)) (sl_new WA [e1] 1 1 rfl) hlen (by rw [World.size_alloc]; omega) ?_; intro v2 wz ho3 hg3))
            have hBz := (hBA.alloc hszA (.cells (ecells [e1]).toArray 65)).grown hg3 (by rw [World.size_alloc]; omega) (fun j hj => (HEA.out.lt j hj).1)
            have hRz := (HRA.out.later (below_one WA (.cells (ecells [e1]).toArray 65))).keptE (HEA.out.lat (below_one WA _)) hg3
            go_roundw
            case rel => exact ⟨k + 1, by go_num, by omega, by rw [hbg]; exact ho3, by rw [hbg, hvs]; exact hRz, hBz⟩
            case measure => simp [intOf]; omega
    · obtain rfl : k = bgN cs := by omega
      obtain ⟨g1, g2, g3⟩ := bgE_good cs hs (bgN cs) (by unfold bgN; omega)
      have hbl := (bgE_all (cs := cs) (hs := hs) (bgN cs)).1
      have hbn : bgN cs ≤ 150 := by unfold bgN; omega
      have HO := hid_of' (of_ok hE.sl (by omega) g1 g2)
      have HX := hid_of' (And.intro hR hB)
      have hx : (decide (((bgN cs : Nat) : Int) < (cs.length : Int)) && decide (((bgN cs : Nat) : Int) < 150)) = false := by unfold bgN; simp; omega
      by_cases q1 : ((bgN cs : Nat) : Int) < (cs.length : Int)
      · have q2 : ¬ ((bgN cs : Nat) : Int) < 150 := by unfold bgN at q1 ⊢; omega
        clear hE hR hB hk hk1 hlt g1 g2 g3 hbl hbn hx
        go_wp2_with (go_at_call 25; refine HO.out.mono ?_; rintro r w2 ⟨mb, tb, kb, n, R, rfl, _, _, _, hM, hb2⟩)
        go_ret2
        exact ⟨mb, _, rfl, hM.mv, (HX.out.1.later hb2).sl, bgo HX.out.2 hb2⟩
      · clear hE hR hB hk hk1 hlt g1 g2 g3 hbl hbn hx
        go_wp2_with (go_at_call 25; refine HO.out.mono ?_; rintro r w2 ⟨mb, tb, kb, n, R, rfl, _, _, _, hM, hb2⟩)
        go_ret2
        exact ⟨mb, _, rfl, hM.mv, (HX.out.1.later hb2).sl, bgo HX.out.2 hb2⟩
end Go.Proofs.YtdmiibihibikdaaGreatDoor
