
/-
  The document's side: a clock's bytes. The document's bytes: a row that grows.
-/
import Derived.Test.YteffpnjgchihpaaGreatDoorPB15
import Derived.Test.YteffpnjgchihpaaGreatDoorPB20
namespace Go.Proofs.YteffpnjgchihpaaGreatDoor
open Go.RowKit
set_option maxRecDepth 100000

theorem lenG_snocF {α : Type} (nz : α → Bool) (x : α) : ∀ l : List α, lenG nz (l ++ [x]) = if nz x then l.length + 1 else lenG nz l
  | [] => by cases h : nz x <;> simp [lenG, h]
  | a :: l => by
    have ih := lenG_snocF nz x l
    simp only [List.cons_append, lenG, ih]
    cases h : nz x
    · simp
    · simp
theorem wpL_appO {ops : Array Oper} {rest : List Oper} {o : Oper} {A : Act} {w : World} {Q : Exit → Act → World → Prop} (hgd : o.guard = none) (s x : Operand) (ho : o.op = .call { callee := .builtin .append, args := #[s, x], argTypes := #[33, 33] })
    {base b2 : Nat} {v u : Value} {xs l : List UInt8} (hs : A.eval s = v) (hx : A.eval x = u) (hown : OwnB base v xs w) (hu : OwnB b2 u l w) (hl : 0 < l.length) (hlen : (xs ++ l).length ≤ 1000000) (hbase : base ≤ w.heap.size)
    (k : ∀ v' w', OwnB base v' (xs ++ l) w' → w.grownBy w' v.ownBlock → wpList Tryz.prog ops Q rest (A.put o.dst v') w') : wpList Tryz.prog ops Q (o :: rest) A w := by
  obtain ⟨g, cap, hv⟩ : ∃ g cap, u = .slice (some ⟨g, 0, none⟩) l.length cap := by
    rcases hu.2 with ⟨_, h0⟩ | ⟨g, cap, cur, rfl, _⟩
    · omega
    · exact ⟨g, cap, rfl⟩
  subst hv
  exact wpL_appB hgd s x ho hs hx rfl rfl hown (ownB_sl hu).news hlen hbase k
theorem ownB_later {B : Nat} {v : Value} {l : List UInt8} {w w' : World} (h : OwnB B v l w) (hb : Below w.heap.size w w') : OwnB B v l w' := by
  refine ⟨h.1, ?_⟩
  rcases h.2 with h2 | ⟨g, cap, cur, h1, h2, h3, h4⟩
  · exact .inl h2
  · exact .inr ⟨g, cap, cur, h1, h2, by rw [hb.block g (lt_of_heap h3)]; exact h3, h4⟩
theorem ownB_mono {B B' : Nat} {v : Value} {l : List UInt8} {w : World} (h : OwnB B v l w) (hB : B' ≤ B) : OwnB B' v l w := by
  refine ⟨h.1, ?_⟩
  rcases h.2 with h2 | ⟨g, cap, cur, h1, h2, h4⟩
  · exact .inl h2
  · exact .inr ⟨g, cap, cur, h1, Nat.le_trans hB h2, h4⟩
theorem row_grown {b : Nat} {cs : Array Value} {t : TypeId} {w w' : World} {row : Option Nat} (h : RowAt b cs t w) (hg : w.grownBy w' row) (hr : ∀ k, row = some k → b < k) : RowAt b cs t w' := by
  unfold RowAt
  rw [hg.block b h.lt (fun e => by have := hr b e.symm; omega)]
  exact h
theorem flat9 : ∀ l : List Int, (∀ x ∈ l, x ≤ 9223372036854775807) → ((l.map fN).flatten).length ≤ 9 * l.length
  | [], _ => by simp
  | a :: l, h => by
    have ih := flat9 l (fun x hx => h x (List.mem_cons_of_mem _ hx))
    have h1 : (fN a).length ≤ 9 := form_len9 _ (by have := h a (by simp); omega)
    simp only [List.map_cons, List.flatten_cons, List.length_append, List.length_cons]
    omega
theorem take_succ_of {α : Type} {l : List α} {k : Nat} {x : α} (h : l[k]? = some x) : l.take (k + 1) = l.take k ++ [x] := by rw [List.take_add_one, h]; rfl
theorem flat_stepF {l : List Int} {k : Nat} {x : Int} (h : l[k]? = some x) : ((l.take (k + 1)).map fN).flatten = ((l.take k).map fN).flatten ++ fN x := by
  rw [take_succ_of h]; simp

set_option maxHeartbeats 2000000 in
theorem refClock_any (c : List Int) (hc : okRow mx63 c) (w : World) :
    Calls Tryz.prog 18 #[.agg (cv c)] w fun e w' => ∃ v, e = .returned v ∧ OwnB w.heap.size v (fRow c) w' ∧ Below w.heap.size w w' := by
  have hl := hc.1
  have HC := hid_of' hc
  have h0 := RowAt.new w (cv c) 24
  have hB0 := below_one w (.cells (cv c) 24)
  clear hc
  go_enter Tryz.func18, Tryz.ntmps18
  go_wp2
  go_loopw [3, 4] (fun nv iv wr => ∃ k N : Nat, iv = .int .i64 (k : Int) ∧ nv = .int .i64 (N : Int) ∧ Hid (lenG nzI (c.take k) = N) ∧ k ≤ 8 ∧ N ≤ 8 ∧ RowAt w.heap.size (cv c) 24 wr ∧ Below w.heap.size w wr) (fun _ iv _ => 8 - (intOf iv).toNat)
  case atStart => exact ⟨0, 0, rfl, rfl, rfl, by decide, by decide, h0, hB0⟩
  case round =>
    clear h0 hB0
    obtain ⟨k, N, rfl, rfl, hN, hk, hN8, h1, hB⟩ := hrel
    by_cases hk8 : k < 8
    · have hki : (k : Int) < 8 := by omega
      obtain ⟨z, hz⟩ : ∃ z, c[k]? = some z := ⟨_, List.getElem?_eq_getElem (by rw [hl]; exact hk8)⟩
      have c1 : wr.cell? ⟨w.heap.size, k, none⟩ = some (.int .i64 z) := by rw [h1.cell, cv_get (by omega)]; unfold en; rw [List.getD_eq_getElem?_getD, hz]; rfl
      have HZ := hid_of' hz
      clear hz
      cases hzz : (z != 0)
      · go_wp2
        go_roundw
        case rel => exact ⟨k + 1, N, by go_num, rfl, by rw [Hid, take_succ_of HZ.out, lenG_snocF, if_neg (by simpa [nzI] using hzz)]; exact hN.out, by omega, hN8, h1, hB⟩
        case measure => simp [intOf]; omega
      · go_wp2
        go_roundw
        case rel => exact ⟨k + 1, k + 1, by go_num, by go_num, by rw [Hid, take_succ_of HZ.out, lenG_snocF, if_pos (by simpa [nzI] using hzz)]; simp; omega, by omega, by omega, h1, hB⟩
        case measure => simp [intOf]; omega
    · have hki : ¬ (k : Int) < 8 := by omega
      have hNN : lenG nzI c = N := by have := hN.out; rwa [List.take_of_length_le (by rw [hl]; omega)] at this
      have HN := hid_of' hNN
      clear hNN hN
      go_upto_region 8 with (go_at_call 15; have hh := fun w => refForm_any N (by omega) w; (with_reducible refine (hh _).mono ?_); clear hh; rintro e w2 ⟨v2, rfl, o2, hb2⟩; obtain ⟨xa, xn, xc, rfl⟩ := ownB_form o2)
      have o3 := ownB_mono o2 (B' := w.heap.size + 1) h1.lt
      replace h1 := h1.later hb2
      replace hB := bgo hB hb2
      clear o2 hb2
      go_wp2
      go_loopw [5, 6] (fun ov jv wr => ∃ (j : Nat) (sa : Option Addr) (sn sc : Nat), jv = .int .i64 (j : Int) ∧ ov = .slice sa sn sc ∧ j ≤ N ∧ OwnB (w.heap.size + 1) (.slice sa sn sc) (formN N ++ ((c.take j).map fN).flatten) wr ∧ RowAt w.heap.size (cv c) 24 wr ∧ Below w.heap.size w wr) (fun _ jv _ => N - (intOf jv).toNat)
      case atStart => exact ⟨0, _, _, _, rfl, rfl, by omega, by simpa using o3, h1, hB⟩
      case round =>
        clear h1 hB o3
        obtain ⟨j, sa, sn, sc, rfl, rfl, hj, hO, h1, hB⟩ := hrel
        by_cases hjN : j < N
        · have hji : (j : Int) < (N : Int) := by omega
          have hj8 : (j : Int) < 8 := by omega
          obtain ⟨z, hz⟩ : ∃ z, c[j]? = some z := ⟨_, List.getElem?_eq_getElem (by rw [hl]; omega)⟩
          have c1 : wr.cell? ⟨w.heap.size, j, none⟩ = some (.int .i64 z) := by rw [h1.cell, cv_get (by omega)]; unfold en; rw [List.getD_eq_getElem?_getD, hz]; rfl
          have hb := HC.out.2 z (List.mem_of_getElem? hz)
          have hh := fun w => refForm_any z.toNat (by unfold mx63 at hb; omega) w
          rw [Int.toNat_of_nonneg hb.1] at hh
          have hpos : 0 < (formN z.toNat).length := List.length_pos_iff.2 (form_ne _)
          have hll : (formN N ++ ((c.take j).map fN).flatten ++ formN z.toNat).length ≤ 1000000 := by
            have e1 := form_len9 N (by omega)
            have e2 := form_len9 z.toNat (by unfold mx63 at hb; omega)
            have e3 := flat9 (c.take j) (fun x hx => (HC.out.2 x (List.mem_of_mem_take hx)).2)
            have e4 : (c.take j).length ≤ 8 := by rw [List.length_take]; omega
            rw [List.length_append, List.length_append]
            omega
          have HH := hid_of' (And.intro hh (And.intro hpos hll))
          have HZ := hid_of' hz
          have HO := hid_of' hO
          have HR := hid_of' (And.intro h1 hB)
          have hsz := h1.lt
          clear hz hb hh hpos hll hO h1 hB
          go_wp2_with (first | (go_at_call 15; (with_reducible refine (HH.out.1 _).mono ?_); rintro e w5 ⟨v5, rfl, o5, hb5⟩; obtain ⟨ya, yn, yc, rfl⟩ := ownB_form o5; have O1 := ownB_later HO.out hb5) | (at_builtin; refine wpL_appO rfl _ _ rfl rfl rfl O1 o5 HH.out.2.1 HH.out.2.2 (by have := hb5.size; omega) ?_; intro v6 w6 o6 hg6; have b6 : Below w.heap.size w w6 := (bgo HR.out.2 hb5).grown hg6 (by have := hb5.size; omega) (fun k hk => by have := (ownB_lt O1 k hk).1; omega); have r6 : RowAt w.heap.size (cv c) 24 w6 := row_grown ((HR.out.1).later hb5) hg6 (fun k hk => by have := (ownB_lt O1 k hk).1; omega); obtain ⟨za, zn, zc, rfl⟩ := ownB_form o6))
          go_roundw
          case rel => exact ⟨j + 1, _, _, _, by go_num, rfl, by omega, by rw [flat_stepF HZ.out, ← List.append_assoc]; exact o6, r6, b6⟩
          case measure => simp [intOf]; omega
        · have hji : ¬ (j : Int) < (N : Int) := by omega
          have hjj : j = N := by omega
          have HO := hid_of' hO
          have HJ := hid_of' hjj
          have HB := hid_of' hB
          clear hO hjj hB
          go_wp2
          go_ret
          refine ⟨_, rfl, ?_, HB.out⟩
          have e : fRow c = formN N ++ ((c.take j).map fN).flatten := by rw [HJ.out, ← HN.out]; rfl
          rw [e]
          exact ownB_mono HO.out (Nat.le_succ _)
end Go.Proofs.YteffpnjgchihpaaGreatDoor
namespace Go.Proofs.YteffpnjgchihpaaGreatDoor
open Go.RowKit
set_option maxRecDepth 100000

theorem row_apart {B b : Nat} {v : Value} {l : List UInt8} {cs : Array Value} {t : TypeId} {w : World} (h : OwnB B v l w) (r : RowAt b cs t w) (ht : t ≠ 5) : ∀ k, v.ownBlock = some k → b ≠ k := by
  intro k hk e
  subst e
  rcases h.2 with ⟨rfl, _⟩ | ⟨g, cap, cur, rfl, _, hg, _⟩
  · simp [Value.ownBlock] at hk
  · simp only [Value.ownBlock, Option.some.injEq] at hk
    subst hk
    unfold RowAt at r
    rw [hg] at r
    simp at r
    exact ht r.2.symm
theorem row_grownT {b : Nat} {cs : Array Value} {t : TypeId} {w w' : World} {row : Option Nat} (h : RowAt b cs t w) (hg : w.grownBy w' row) (hr : ∀ k, row = some k → b ≠ k) : RowAt b cs t w' := by
  unfold RowAt
  rw [hg.block b h.lt (fun e => hr b e.symm rfl)]
  exact h
/-- Bytes of one's own that were written since W. -/
structure WrQ (W : World) (xs : List UInt8) (v : Value) (w : World) : Prop where
  own : OwnB W.heap.size v xs w
  k : Below W.heap.size W w
theorem WrQ.next {W w w1 w2 : World} {xs l : List UInt8} {v v' : Value} (h : WrQ W xs v w) (hb : Below w.heap.size w w1) (q1 : OwnB W.heap.size v' (xs ++ l) w2) (q2 : w1.grownBy w2 v.ownBlock) : WrQ W (xs ++ l) v' w2 :=
  ⟨q1, (h.k.trans (hb.mono h.k.size)).grown q2 (Nat.le_trans h.k.size hb.size) (fun k hk => (ownB_lt h.own k hk).1)⟩
theorem WrQ.row {W w w1 w2 : World} {xs : List UInt8} {v : Value} {b : Nat} {cs : Array Value} {t : TypeId} (h : WrQ W xs v w) (hb : Below w.heap.size w w1) (q2 : w1.grownBy w2 v.ownBlock) (r : RowAt b cs t w) (ht : t ≠ 5) : RowAt b cs t w2 :=
  row_grownT (r.later hb) q2 (row_apart (ownB_later h.own hb) (r.later hb) ht)
theorem WrQ.later {W w w' : World} {xs : List UInt8} {v : Value} (h : WrQ W xs v w) (hb : Below w.heap.size w w') : WrQ W xs v w' := ⟨ownB_later h.own hb, h.k.trans (hb.mono h.k.size)⟩
theorem refFormI (z : Int) (h0 : 0 ≤ z) (h1 : z ≤ mx63) (w : World) :
    Calls Tryz.prog 15 #[.int .i64 z] w fun e w' => ∃ v, e = .returned v ∧ OwnB w.heap.size v (fN z) w' ∧ Below w.heap.size w w' := by
  have := refForm_any z.toNat (by unfold mx63 at h1; omega) w
  rw [Int.toNat_of_nonneg h0] at this
  exact this
theorem fN_le {z : Int} (h : z ≤ mx63) : (fN z).length ≤ 9 := form_len9 _ (by unfold mx63 at h; omega)
theorem fRow_le {c : List Int} (h : okRow mx63 c) : (fRow c).length ≤ 81 := by
  unfold fRow fRowG
  have hl := lenG_le nzI c
  have h8 := h.1
  have e1 := form_len9 (lenG nzI c) (by omega)
  have e2 := flat9 (c.take (lenG nzI c)) (fun x hx => (h.2 x (List.mem_of_mem_take hx)).2)
  have e4 : (c.take (lenG nzI c)).length ≤ 8 := by rw [List.length_take]; omega
  rw [List.length_append]
  omega
theorem okRow_up {m : Int} {c : List Int} (hm : m ≤ mx63) (h : okRow m c) : okRow mx63 c := ⟨h.1, fun x hx => ⟨(h.2 x hx).1, Int.le_trans (h.2 x hx).2 hm⟩⟩
theorem fAct_le {a : Pac} (h : okAct a) : (fAct a).length ≤ 128 := by
  obtain ⟨⟨_, ⟨h1, h2⟩, ⟨h3, h4⟩, h5⟩, ⟨h6, h7⟩, h8⟩ := h
  have e1 := fN_le (show a.1.2.1 ≤ mx63 by unfold mx63; omega)
  have e2 := fN_le h4
  have e3 : (if a.1.1 = 1 then fN a.1.2.2.2 else []).length ≤ 9 := by
    split
    · rename_i hk
      rw [if_pos hk] at h5
      exact fN_le (by unfold mx63; omega)
    · simp
  have e4 := fN_le h7
  have e5 := fRow_le h8
  unfold fAct fOp
  simp only [List.length_append, List.length_cons]
  omega
theorem fActs_le {l : List Pac} (h : ∀ a ∈ l, okAct a) : ((l.map fAct).flatten).length ≤ 128 * l.length := by
  induction l with
  | nil => simp
  | cons a l ih =>
    have h1 := fAct_le (h a (by simp))
    have h2 := ih (fun x hx => h x (by simp [hx]))
    simp only [List.map_cons, List.flatten_cons, List.length_append, List.length_cons]
    omega
theorem fActs_step {l : List Pac} {k : Nat} {a : Pac} (h : l[k]? = some a) : ((l.take (k + 1)).map fAct).flatten = ((l.take k).map fAct).flatten ++ fAct a := by
  rw [take_succ_of h]; simp
theorem u8_kind {k : Int} (h0 : 0 ≤ k) (h1 : k ≤ 255) : IntKind.u8.wrap k = k := by rw [IntKind.wrap_u8']; omega
theorem u8_of {k : Int} (h0 : 0 ≤ k) (h1 : k ≤ 255) : k = ((UInt8.ofNat k.toNat).toNat : Int) := by rw [UInt8.toNat_ofNat']; omega
theorem opv_one9 (o : Pop) : (opv o).all (·.oneCell') = true := by simp [opv, Value.oneCell']
end Go.Proofs.YteffpnjgchihpaaGreatDoor
