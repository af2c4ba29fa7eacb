
/-
  Package causal: slices.Delete of an act; Next.
-/
import Derived.Test.YtlgdaaofpjpobaaDoorZca17
import Derived.Test.YtlgdaaofpjpobaaDoorZca18
namespace Go.Proofs.YtlgdaaofpjpobaaDoor
open Go.RowKit Go.Maps
set_option maxRecDepth 100000

/-- append where there is room. -/
theorem run_appR {P : Program} (w : World) (t ty e : TypeId) (i : TypeInfo) (ht : P.underlying t = some (.slice e)) (hi : P.info? e = some i) {g n cap : Nat} {cur : Array Value} (hg : w.heap[g]? = some (.cells cur e (0, 0))) (hnc : n ≤ cap)
    {u : Value} {m : Nat} {ys : List Value} (hu : So i.size u m ys w) (h1 : ∀ y ∈ ys, y.oneCell' = true) (hroom : n + m ≤ cap) (hcs : cap * i.size ≤ cur.size) :
    ∃ w' cur', (Builtin.append_ #[t, t] ty #[.slice (some ⟨g, 0, none⟩) n cap, u]).run P w = .ok (.slice (some ⟨g, 0, none⟩) (n + m) cap) w' ∧ w'.heap[g]? = some (.cells cur' e (0, 0)) ∧ cur'.size = cur.size ∧ cur'.toList.take ((n + m) * i.size) = cur.toList.take (n * i.size) ++ ys ∧ w.grownBy w' (some g) := by
  have hnn : n * i.size ≤ cur.size := Nat.le_trans (Nat.mul_le_mul_right _ hnc) hcs
  by_cases hm0 : m = 0
  · subst hm0
    have hy : ys = [] := List.eq_nil_of_length_eq_zero (by simpa using hu.1)
    subst hy
    have hs : Src P i.size t u 0 [] w := by
      rcases hu.2 with ⟨_, a', c', rfl⟩ | ⟨a', c', rfl, hc⟩
      · cases a' with
        | none => exact Src.ofNil w ht c'
        | some a' => exact Src.ofSlice w ht a' 0 c' [] (by simp) (fun j u h => by simp at h) (fun u h => by simp at h)
      · exact Src.ofSlice w ht a' 0 c' [] (by simp) (fun j u h => by simp at h) (fun u h => by simp at h)
    exact ⟨w, cur, run_append_nothing w t t ty e i ht hi _ n cap hnc u hs, hg, rfl, by simp, ⟨rfl, rfl, rfl, Nat.le_refl _, fun _ _ _ => rfl⟩⟩
  · obtain ⟨a, c, rfl, hnews⟩ : ∃ a c, u = .slice (some a) m c ∧ ∀ j x, ys[j]? = some x → w.cell? (a.add j) = some x := by
      rcases hu.2 with ⟨q, _⟩ | q
      · exact absurd q hm0
      · exact q
    have hfit : n * i.size + ys.length ≤ cur.size := by rw [hu.1, ← Nat.add_mul]; exact Nat.le_trans (Nat.mul_le_mul_right _ hroom) hcs
    refine ⟨_, _, run_append_room (P := P) w t ty e i ht hi g n cap cur hg a m c ys hu.1 hnews h1 hroom hfit, setRow_heap w g cur _ e _ hg, ?_, ?_, ⟨rfl, rfl, rfl, by simp, fun k _ hk => setRow_other w g k _ (fun e => hk (by simp [e]))⟩⟩
    · simp only [List.size_toArray, List.length_append, List.length_take, List.length_drop, Array.length_toList]
      omega
    · have hlen : (cur.toList.take (n * i.size) ++ ys).length = (n + m) * i.size := by
        rw [List.length_append, List.length_take, Array.length_toList, hu.1, Nat.min_eq_left hnn, Nat.add_mul]
      rw [← hlen]
      exact List.take_left
theorem opw_appR {P : Program} {K : Act → World → Prop} {o : Oper} {A : Act} {w : World} {Q : Exit → Act → World → Prop} (s x : Operand) (t : TypeId) (ho : o.op = .call { callee := .builtin .append, args := #[s, x], argTypes := #[t, t] })
    (e : TypeId) (i : TypeInfo) (ht : P.underlying t = some (.slice e)) (hi : P.info? e = some i) {g n cap : Nat} {cur : Array Value} {u : Value} (hs : A.eval s = .slice (some ⟨g, 0, none⟩) n cap) (hx : A.eval x = u) (hg : w.heap[g]? = some (.cells cur e (0, 0))) (hnc : n ≤ cap)
    {m : Nat} {ys : List Value} (hu : So i.size u m ys w) (h1 : ∀ y ∈ ys, y.oneCell' = true) (hroom : n + m ≤ cap) (hcs : cap * i.size ≤ cur.size)
    (k : ∀ w' cur', w'.heap[g]? = some (.cells cur' e (0, 0)) → cur'.size = cur.size → cur'.toList.take ((n + m) * i.size) = cur.toList.take (n * i.size) ++ ys → w.grownBy w' (some g) → K (A.put o.dst (.slice (some ⟨g, 0, none⟩) (n + m) cap)) w') : o.wp P A w K Q := by
  obtain ⟨w', cur', hr, h2, h3, h4, h5⟩ := run_appR (P := P) w t o.type e i ht hi hg hnc hu h1 hroom hcs
  unfold Oper.wp execOp
  simp only [ho, resolve, invoke, builtin, Sem.run_bind, Sem.run_pure, Result.andThen_ok, List.map_toArray, List.map_cons, List.map_nil, hs, hx, hr]
  exact k w' cur' h2 h3 h4 h5
theorem zeroA : Builtin.zeroCells (acv ac0) 1 = acv ac0 := by kernel_rfl
theorem zeroVA (w : World) : (zeroValue 48).run Tryd.prog w = .ok (.agg (acv ac0)) w := by kernel_rfl
/-- clear of a slice of one act. -/
theorem run_clearA (w : World) (ty : TypeId) {g off c : Nat} {cur : Array Value} (hg : w.heap[g]? = some (.cells cur 48 (0, 0))) (hfit : off + 13 ≤ cur.size) :
    (Builtin.clear_ #[37] ty #[.slice (some ⟨g, off, none⟩) 1 c]).run Tryd.prog w = .ok (.tuple #[]) (w.setRow g (cur.toList.take off ++ (acv ac0).toList ++ cur.toList.drop (off + 13)).toArray) := by
  have hst := run_storeCells_at Tryd.prog g off 48 (acv ac0).toList 0 cur w hg (by rw [acv_len ac0_fit]; omega) (acv_one ac0)
  rw [acv_len ac0_fit, Nat.add_zero] at hst
  have hz := zeroVA w
  simp [Builtin.clear_, run_underlying Tryd.underlying37, hz, Value.cells, zeroA, hst]
theorem opw_clearA {K : Act → World → Prop} {o : Oper} {A : Act} {w : World} {Q : Exit → Act → World → Prop} (x : Operand) (ho : o.op = .call { callee := .builtin .clear, args := #[x], argTypes := #[37] }) {g off c : Nat} {cur : Array Value} (hx : A.eval x = .slice (some ⟨g, off, none⟩) 1 c) (hg : w.heap[g]? = some (.cells cur 48 (0, 0))) (hfit : off + 13 ≤ cur.size)
    (k : ∀ w' cur', w'.heap[g]? = some (.cells cur' 48 (0, 0)) → cur'.size = cur.size → cur'.toList.take off = cur.toList.take off → w.grownBy w' (some g) → K (A.put o.dst (.tuple #[])) w') : o.wp Tryd.prog A w K Q := by
  unfold Oper.wp execOp
  simp only [ho, resolve, invoke, builtin, Sem.run_bind, Sem.run_pure, Result.andThen_ok, List.map_toArray, List.map_cons, List.map_nil, hx, run_clearA w o.type hg hfit]
  refine k _ _ (setRow_heap w g cur _ _ _ hg) ?_ ?_ ⟨rfl, rfl, rfl, by simp, fun k _ hk => setRow_other w g k _ (fun e => hk (by simp [e]))⟩
  · simp only [List.size_toArray, List.length_append, List.length_take, List.length_drop, Array.length_toList, acv_size _ ac0_fit.1.1]
    omega
  · have : (cur.toList.take off).length = off := by rw [List.length_take, Array.length_toList]; omega
    simp only [List.append_assoc]
    rw [List.take_append_of_le_length (by omega), List.take_of_length_le (by omega)]
theorem wpL_clearA {ops : Array Oper} {rest : List Oper} {o : Oper} {A : Act} {w : World} {Q : Exit → Act → World → Prop} (hgd : o.guard = none) (x : Operand) (ho : o.op = .call { callee := .builtin .clear, args := #[x], argTypes := #[37] }) {g off c : Nat} {cur : Array Value} (hx : A.eval x = .slice (some ⟨g, off, none⟩) 1 c) (hg : w.heap[g]? = some (.cells cur 48 (0, 0))) (hfit : off + 13 ≤ cur.size)
    (k : ∀ w' cur', w'.heap[g]? = some (.cells cur' 48 (0, 0)) → cur'.size = cur.size → cur'.toList.take off = cur.toList.take off → w.grownBy w' (some g) → wpList Tryd.prog ops Q rest (A.put o.dst (.tuple #[])) w') : wpList Tryd.prog ops Q (o :: rest) A w :=
  wpList_plain hgd fun _ hK => opw_clearA x ho hx hg hfit fun w' cur' q1 q2 q3 q4 => hK _ _ (k w' cur' q1 q2 q3 q4)
set_option maxHeartbeats 4000000 in
theorem delA_ok {v : Value} {l : List Ac} {w : World} (h : OwnA v l w) {i : Nat} (hi : i < l.length) (hl : l.length ≤ 1000000) :
    Calls Tryd.prog 38 #[v, .int .i64 (i : Int), .int .i64 ((i : Int) + 1)] w fun e w' => ∃ g cap, v = .slice (some ⟨g, 0, none⟩) l.length cap ∧ e = .returned (.slice (some ⟨g, 0, none⟩) (l.length - 1) cap) ∧ OwnA (.slice (some ⟨g, 0, none⟩) (l.length - 1) cap) (l.take i ++ l.drop (i + 1)) w' ∧ w.grownBy w' (some g) := by
  obtain ⟨g, cap, cur, hv, hg, hnc, hcm, hcs, htake⟩ : ∃ g cap cur, v = .slice (some ⟨g, 0, none⟩) l.length cap ∧ w.heap[g]? = some (.cells cur 48 (0, 0)) ∧ l.length ≤ cap ∧ cap ≤ maxLen ∧ cap * 13 ≤ cur.size ∧ cur.toList.take (l.length * 13) = acells l := by
    rcases h.1.2 with ⟨_, h0⟩ | ⟨g, cap, cur, h1, h2, h3, h4, h5, h6⟩
    · omega
    · exact ⟨g, cap, cur, h1, h2, h3, h4, h5, h6⟩
  subst hv
  have hcells := h.1.cells
  have hf := h.2
  clear h
  obtain ⟨N, hN⟩ : ∃ N, l.length = N := ⟨_, rfl⟩
  rw [hN] at hi hl hnc htake ⊢
  unfold maxLen at hcm
  obtain ⟨j, hj⟩ : ∃ j, j = i + 1 := ⟨_, rfl⟩
  have hji : (i : Int) + 1 = (j : Int) := by omega
  rw [hji]
  obtain ⟨AD, hAD, hsrc⟩ : ∃ AD : Addr, (if cap = j then some (⟨g, 0, none⟩ : Addr) else some ⟨g, j * 13, none⟩) = some AD ∧ ∀ X, Below w.heap.size w X → So 13 (.slice (some AD) (N - j) (cap - j)) (N - j) (acells (l.drop j)) X := by
    have hsl : (acells (l.drop j)).length = (N - j) * 13 := by rw [acells_len (hf.drop _), List.length_drop, hN]
    by_cases hc : cap = j
    · refine ⟨_, by rw [if_pos hc], fun X _ => ⟨hsl, .inl ⟨by omega, ?_⟩⟩⟩
      rw [show N - j = 0 by omega]
      exact ⟨_, _, rfl⟩
    · refine ⟨_, by rw [if_neg hc], fun X hb => ⟨hsl, .inr ⟨_, _, rfl, fun k u hk => ?_⟩⟩⟩
      rw [Addr.add_lit, ← acells_drop _ hf, List.getElem?_drop] at *
      have h1 := hcells _ _ hk
      rw [Nat.zero_add] at h1
      rw [hb.cell (p := ⟨g, j * 13 + k, none⟩) (Array.getElem?_eq_some_iff.1 hg).1]
      exact h1
  have HSO := hid_of' hsrc
  have HG : Hid (g < w.heap.size ∧ w.heap[g]? = some (.cells cur 48 (0, 0)) ∧ cap * 13 ≤ cur.size ∧ cur.toList.take (i * 13) = acells (l.take i)) := ⟨(Array.getElem?_eq_some_iff.1 hg).1, hg, hcs, by
    rw [← acells_take i hf, ← htake, List.take_take, Nat.min_eq_left (by omega)]⟩
  have HF := hid_of' (And.intro hf (And.intro hN hcm))
  clear hsrc hg hcs htake hcells hf hN
  have k1 : 0 ≤ (i : Int) := by omega
  have k2 : (i : Int) ≤ (cap : Int) := by omega
  have k3 : (j : Int) ≤ (N : Int) := by omega
  have k4 : (N : Int) ≤ (cap : Int) := by omega
  have k5 : (i : Int) ≤ (j : Int) := by omega
  have k6 : ¬ (i : Int) = (j : Int) := by omega
  have n3 : j ≤ N := by omega
  have k7 : 0 ≤ (j : Int) := by omega
  have n5 : i ≤ j := by omega
  have n6 : ¬ i = j := by omega
  have n7 : i ≤ cap := by omega
  have HJ := hid_of' hj
  clear hcm hj hji
  go_enter Tryd.func38, Tryd.ntmps38
  go_upto_region 5 with fail
  refine wp_region_onceN 7 (by kernel_rfl) (fun _ => none) (by kernel_rfl) (by kernel_rfl) (by decide) (fun ii u X => match ii with
    | 0 => u = .slice (some ⟨g, 0, none⟩) N cap
    | 1 => u = .int .i64 (i : Int)
    | 2 => u = .slice (some ⟨g, 0, none⟩) i cap
    | 3 => u = .slice (some ⟨g, 0, none⟩) N cap
    | 4 => u = .int .i64 (j : Int)
    | 5 => u = .slice (some AD) (N - j) (cap - j)
    | 6 => u = .slice (some ⟨g, 0, none⟩) (i + (N - j)) cap ∧ ∃ cur', X.heap[g]? = some (.cells cur' 48 (0, 0)) ∧ cur'.size = cur.size ∧ cur'.toList.take ((i + (N - j)) * 13) = acells (l.take i) ++ acells (l.drop j)
    | _ => True) (fun _ => false) (fun _ _ _ _ h => by cases h) 6 (by decide) (fun a b => World.grownBy a b (some g)) (fun a b => World.grownBy a b (some g)) (fun _ _ g h => grown_later g h) (fun _ h => grown_of h) (fun _ _ h g => grown_first h g) (fun _ _ g => g.size) ?_ ?_ ?_ ?_
  · intro ii u X X' hR hb
    match ii, hR with
    | 0, h => exact h
    | 1, h => exact h
    | 2, h => exact h
    | 3, h => exact h
    | 4, h => exact h
    | 5, h => exact h
    | 6, h => exact (by obtain ⟨h0, c', h1, h2⟩ := h; exact ⟨h0, c', (hb.block g (Array.getElem?_eq_some_iff.1 h1).1).trans h1, h2⟩)
    | m + 7, h => exact h
  · intro ii u X X' hne hR hb
    match ii, hne, hR with
    | 0, hne, h => exact h
    | 1, hne, h => exact h
    | 2, hne, h => exact h
    | 3, hne, h => exact h
    | 4, hne, h => exact h
    | 5, hne, h => exact h
    | 6, hne, h => exact absurd rfl hne
    | m + 7, _, h => exact h
  · intro ii o hi ho q X vals hX hC hdep hoth
    have t0 : q.tmps[0]? = some (.slice (some ⟨g, 0, none⟩) N cap) := by rw [hoth 0 (by kernel_rfl)]; rfl
    have t1 : q.tmps[1]? = some (.int .i64 (i : Int)) := by rw [hoth 1 (by kernel_rfl)]; rfl
    have t2 : q.tmps[2]? = some (.int .i64 (j : Int)) := by rw [hoth 2 (by kernel_rfl)]; rfl
    match ii, hi, ho, hC with
    | 0, _, ho, hC =>
      simp only [List.getElem?_cons_zero, Option.some.injEq] at ho
      subst ho
      unfold Oper.wp
      simp [execOp, go_sem, t0]
      exact cameB _ rfl (by decide) (Below.refl _ _) rfl (fun h => absurd h (by decide))
    | 1, _, ho, hC =>
      simp only [List.getElem?_cons_succ, List.getElem?_cons_zero, Option.some.injEq] at ho
      subst ho
      unfold Oper.wp
      simp [execOp, go_sem, t1]
      exact cameB _ rfl (by decide) (Below.refl _ _) rfl (fun h => absurd h (by decide))
    | 2, _, ho, hC =>
      simp only [List.getElem?_cons_succ, List.getElem?_cons_zero, Option.some.injEq] at ho
      subst ho
      obtain ⟨u0, e0⟩ := hdep ⟨0, .data⟩ (by simp) rfl _ 20 rfl rfl
      rw [show vals 0 = .slice (some ⟨g, 0, none⟩) N cap from e0] at u0
      obtain ⟨u1, e1⟩ := hdep ⟨1, .data⟩ (by simp) rfl _ 21 rfl rfl
      rw [show vals 1 = .int .i64 (i : Int) from e1] at u1
      unfold Oper.wp
      simp [execOp, go_sem, u0, u1, k1, k2]
      exact cameB _ rfl (by decide) (Below.refl _ _) rfl (fun h => absurd h (by decide))
    | 3, _, ho, hC =>
      simp only [List.getElem?_cons_succ, List.getElem?_cons_zero, Option.some.injEq] at ho
      subst ho
      unfold Oper.wp
      simp [execOp, go_sem, t0]
      exact cameB _ rfl (by decide) (Below.refl _ _) rfl (fun h => absurd h (by decide))
    | 4, _, ho, hC =>
      simp only [List.getElem?_cons_succ, List.getElem?_cons_zero, Option.some.injEq] at ho
      subst ho
      unfold Oper.wp
      simp [execOp, go_sem, t2]
      exact cameB _ rfl (by decide) (Below.refl _ _) rfl (fun h => absurd h (by decide))
    | 5, _, ho, hC =>
      simp only [List.getElem?_cons_succ, List.getElem?_cons_zero, Option.some.injEq] at ho
      subst ho
      obtain ⟨u3, e3⟩ := hdep ⟨3, .data⟩ (by simp) rfl _ 23 rfl rfl
      rw [show vals 3 = .slice (some ⟨g, 0, none⟩) N cap from e3] at u3
      obtain ⟨u4, e4⟩ := hdep ⟨4, .data⟩ (by simp) rfl _ 24 rfl rfl
      rw [show vals 4 = .int .i64 (j : Int) from e4] at u4
      unfold Oper.wp
      simp [execOp, go_sem, u3, u4, k3, k7, hAD]
      exact cameB _ rfl (by decide) (Below.refl _ _) rfl (fun h => absurd h (by decide))
    | 6, _, ho, hC =>
      simp only [List.getElem?_cons_succ, List.getElem?_cons_zero, Option.some.injEq] at ho
      subst ho
      obtain ⟨u2, e2⟩ := hdep ⟨2, .data⟩ (by simp) rfl _ 22 rfl rfl
      rw [show vals 2 = .slice (some ⟨g, 0, none⟩) i cap from e2] at u2
      obtain ⟨u5, e5⟩ := hdep ⟨5, .data⟩ (by simp) rfl _ 25 rfl rfl
      rw [show vals 5 = .slice (some AD) (N - j) (cap - j) from e5] at u5
      have hb := hC (.inl rfl)
      have hg := (hb.block g HG.out.1).trans HG.out.2.1
      obtain ⟨i0, hi0, hz0, hz1, hz2⟩ := info_parts info_a
      have hso : So i0.size (.slice (some AD) (N - j) (cap - j)) (N - j) (acells (l.drop j)) X := by rw [hz1]; exact HSO.out X hb
      refine opw_appR (P := Tryd.prog) _ _ 37 rfl 48 i0 Tryd.underlying37 hi0 (by simp [Act.eval, u2]) (by simp [Act.eval, u5]) hg (n := i) (cap := cap) (by omega) hso (acells_oneC _) (by omega) (by rw [hz1]; exact HG.out.2.2.1) ?_
      intro x' cur' q2 q3 q4 q5
      rw [hz1] at q4
      exact cameX _ rfl q5 ⟨rfl, cur', q2, q3, by rw [q4, HG.out.2.2.2]⟩ rfl
    | m + 7, hi, _, _ => exact absurd hi (by omega)
  · intro vals X hX hR _
    obtain ⟨e6, cur1, hg1, hs1, ht1⟩ : vals 6 = .slice (some ⟨g, 0, none⟩) (i + (N - j)) cap ∧ ∃ cur', X.heap[g]? = some (.cells cur' 48 (0, 0)) ∧ cur'.size = cur.size ∧ cur'.toList.take ((i + (N - j)) * 13) = acells (l.take i) ++ acells (l.drop j) := hR 6 (by decide)
    have HJ1 := HJ.out
    obtain ⟨M, hM⟩ : ∃ M, i + (N - j) = M := ⟨_, rfl⟩
    rw [hM] at e6 ht1
    have hMN : M + 1 = N := by omega
    have m1 : M ≤ N := by omega
    have m2 : (M : Int) ≤ (N : Int) := by omega
    have m3 : 0 ≤ (M : Int) := by omega
    have m4 : N - M = 1 := by omega
    have m5 : ¬ cap = M := by omega
    have hfit : M * 13 + 13 ≤ cur1.size := by have := HG.out.2.2.1; rw [hs1]; omega
    have HX := hid_of' (And.intro hg1 (And.intro hs1 (And.intro ht1 (And.intro hX (And.intro hMN hM)))))
    have HFT := hid_of' hfit
    clear hR hX hg1 hs1 ht1 hMN hM HJ1 hfit
    simp only [List.drop, List.take, putAll, List.setIfInBounds_toArray, List.set_cons_succ, List.set_cons_zero, e6]
    clear e6
    go_wp2_with (refine wpL_clearA rfl (.tmp 31) rfl rfl HX.out.1 HFT.out ?_; intro w2 cur2 q1 q2 q3 q4)
    go_ret
    have hMN := HX.out.2.2.2.2.1
    have hNM : N - 1 = M := by omega
    have hj := HJ.out
    refine ⟨g, cap, rfl, by rw [hNM]; rfl, ?_, ?_⟩
    · have hlen : (l.take i ++ l.drop (i + 1)).length = M := by
        have hN := HF.out.2.1
        rw [List.length_append, List.length_take, List.length_drop, hN]
        omega
      refine ⟨?_, (HF.out.1.take i).app (HF.out.1.drop _)⟩
      rw [hlen, hNM]
      refine ⟨by rw [acells_len ((HF.out.1.take i).app (HF.out.1.drop _)), hlen], .inr ⟨g, cap, cur2, rfl, q1, by omega, by have := HF.out.2.2; unfold maxLen; omega, ?_, ?_⟩⟩
      · rw [q2, HX.out.2.1]; exact HG.out.2.2.1
      · rw [q3, HX.out.2.2.1, acells_app, hj]
    · have hX := HX.out.2.2.2.1
      exact ⟨q4.os.trans hX.os, q4.tape.trans hX.tape, q4.output.trans hX.output, Nat.le_trans hX.size q4.size, fun k hk hn => (q4.block k (Nat.lt_of_lt_of_le hk hX.size) hn).trans (hX.block k hk hn)⟩
end Go.Proofs.YtlgdaaofpjpobaaDoor
