
/-
  diff.between, diff.Edits.
-/
import Derived.Test.YtaimmjoekahleaaDoorZa26
import Derived.Test.YtaimmjoekahleaaDoorZa27
namespace Go.Proofs.YtaimmjoekahleaaDoor
open Go.RowKit Go.Extern.Stop Go.Stop Go.Extern
set_option maxRecDepth 100000

/-- The edits between places. -/
def bt (ys : List Int) : Nat → Nat → List (Nat × Nat) → List Edt
  | _, _, [] => []
  | i, j, (p, q) :: l => (if p = i ∧ q = j then [] else [⟨(j : Int), (p : Int) - (i : Int), tx ((ys.take q).drop j)⟩]) ++ bt ys (p + 1) (q + 1) l
theorem bt_app (ys : List Int) (p q : Nat) : ∀ (l : List (Nat × Nat)) (i j : Nat), ∃ i' j', (l = [] ∧ i' = i ∧ j' = j ∨ ∃ a b, l.getLast? = some (a, b) ∧ i' = a + 1 ∧ j' = b + 1) ∧ bt ys i j (l ++ [(p, q)]) = bt ys i j l ++ (if p = i' ∧ q = j' then [] else [⟨(j' : Int), (p : Int) - (i' : Int), tx ((ys.take q).drop j')⟩])
  | [], i, j => ⟨i, j, .inl ⟨rfl, rfl, rfl⟩, by simp [bt]⟩
  | (a, b) :: l, i, j => by
    obtain ⟨i', j', h1, h2⟩ := bt_app ys p q l (a + 1) (b + 1)
    refine ⟨i', j', .inr ?_, ?_⟩
    · rcases h1 with ⟨rfl, rfl, rfl⟩ | ⟨c, d, h3, h4, h5⟩
      · exact ⟨a, b, rfl, rfl, rfl⟩
      · refine ⟨c, d, ?_, h4, h5⟩
        cases l with
        | nil => simp at h3
        | cons x l => simpa using h3
    · rw [List.cons_append, bt, bt, h2, List.append_assoc]
theorem run_sub (a : Option Addr) (n c j q : Nat) (h1 : j ≤ q) (h2 : q ≤ c) (w : World) : (Instr.sliceAt 47 (.slice a n c) (some (.int .i64 (j : Int))) (some (.int .i64 (q : Int))) none).run Tryd.prog w = .ok (sliced a j q c 1) w := by
  rw [run_sliceAt_slice (P := Tryd.prog) (w := w) 47 _ _ _ _ Tryd.underlying47, run_slice_lh (P := Tryd.prog) w 47 a n c Tryd.underlying47 .i64 .i64 (j : Int) (q : Int) (by omega) (by omega) (by omega)]
  have hz : (sizeOf (Tryd.prog.elem 47)).run Tryd.prog w = .ok 1 w := by
    show (sizeOf 21).run Tryd.prog w = _
    simp [go_sem]
  rw [hz]
  simp [Result.andThen]
theorem str_sub {w : World} {a : Option Addr} {n c : Nat} {ys : List Int} (h : RwR (.slice a n c) ys w) (hr : ∀ r ∈ ys, Ru r) {j q : Nat} (h1 : j ≤ q) (h2 : q ≤ ys.length) : (convert 47 9 (sliced a j q c 1)).run Tryd.prog w = .ok (.string (tx ((ys.take q).drop j))) w := by
  obtain ⟨a', c', hv, hc1, _⟩ := h.form
  cases hv
  by_cases hjq : j = q
  · subst hjq
    have e : (ys.take j).drop j = [] := by rw [List.drop_eq_nil_iff, List.length_take]; omega
    rw [e]
    have hs : sliced a j j c 1 = .slice (if c = j then a else a.map (·.add (j * 1))) 0 (c - j) := by simp [sliced]
    rw [hs]
    generalize (if c = j then a else a.map (·.add (j * 1))) = a9
    cases a9 with
    | none =>
      rw [run_convert_runes_nil (P := Tryd.prog) w 47 9 21 0 (c - j) Tryd.underlying47 Tryd.underlying21 Tryd.underlying9]
      rfl
    | some a9 => exact (run_convert_runes (P := Tryd.prog) w 47 9 21 a9 0 (c - j) [] (Nat.le_refl _) Tryd.underlying47 Tryd.underlying21 Tryd.underlying9 (fun j hj => by simp at hj)).trans rfl
  · have h0 : ys ≠ [] := by
      rintro rfl
      simp at h2
      omega
    obtain ⟨g, c', hv, _, _, hc⟩ := h.at h0
    cases hv
    have hs : sliced (some ⟨g, 0, none⟩) j q c 1 = .slice (some ⟨g, j, none⟩) (q - j) (c - j) := by
      have : ¬ c = j := by omega
      simp [sliced, this, Addr.add]
      exact fun e => e.symm
    rw [hs]
    have hlen : ((ys.take q).drop j).length = q - j := by rw [List.length_drop, List.length_take, Nat.min_eq_left h2]
    have := run_convert_runes (P := Tryd.prog) w 47 9 21 ⟨g, j, none⟩ (q - j) (c - j) ((ys.take q).drop j) (by omega) Tryd.underlying47 Tryd.underlying21 Tryd.underlying9 (fun k hk => by
      rw [Addr.add_lit]
      refine hc (j + k) _ ?_
      rw [List.getD, List.getElem?_eq_getElem hk, List.getElem_drop, List.getElem_take]
      rw [List.getElem?_eq_getElem (by omega)]
      rfl)
    rw [this, ← hlen, List.take_length, runesBytes_enc _ (fun r hr' => hr r (List.mem_of_mem_take (List.mem_of_mem_drop hr')))]
    rfl
section
variable {K : Act → World → Prop} {o : Oper} {A : Act} {w : World} {Q : Exit → Act → World → Prop}
theorem opw_sub (x lo hi : Operand) (ho : o.op = .slice 47 x (some lo) (some hi) none) {v u : Value} {j q : Int} (hx : A.eval x = v) (hlo : A.eval lo = .int .i64 j) (hhi : A.eval hi = .int .i64 q)
    (hrun : (Instr.sliceAt 47 v (some (.int .i64 j)) (some (.int .i64 q)) none).run Tryd.prog w = .ok u w) (k : K (A.put o.dst u) w) : o.wp Tryd.prog A w K Q := by
  unfold Oper.wp execOp
  simp only [ho, hx, hlo, hhi, Option.map_some, Option.map_none, Sem.run_bind, hrun, Result.andThen]
  exact k
theorem opw_str (x : Operand) (ho : o.op = .convert 47 9 x) {v : Value} {t : ByteArray} (hx : A.eval x = v) (hrun : (convert 47 9 v).run Tryd.prog w = .ok (.string t) w) (k : K (A.put o.dst (.string t)) w) : o.wp Tryd.prog A w K Q := by
  unfold Oper.wp execOp
  simp only [ho, hx, Sem.run_bind, hrun, Result.andThen]
  exact k
end

/-- One thing in a row, as append takes it. -/
theorem RowAt.so1 {g : Nat} {cs : Array Value} {ty : TypeId} {w : World} (h : RowAt g cs ty w) (s : Nat) (hs : cs.size = s) (ys : List Value) (hy : ys = cs.toList) : So s (.slice (some ⟨g, 0, none⟩) 1 1) 1 ys w := by
  subst hy
  refine ⟨by simp [hs], .inr ⟨⟨g, 0, none⟩, 1, rfl, fun j x hx => ?_⟩⟩
  rw [Addr.add_lit, Nat.zero_add, h.cell]
  simpa using hx
/-- Places that rise, within bounds. -/
def Kl (n m : Nat) : Nat → Nat → List (Nat × Nat) → Prop
  | _, _, [] => True
  | i, j, (p, q) :: l => i ≤ p ∧ j ≤ q ∧ p ≤ n ∧ q ≤ m ∧ Kl n m (p + 1) (q + 1) l
theorem Kc.kl {x y : List Int} : ∀ {l : List (Nat × Nat)} {i j : Nat}, Kc x y i j l → Kl x.length y.length i j (l ++ [(x.length, y.length)])
  | [], _, _, h => ⟨h.1, h.2, Nat.le_refl _, Nat.le_refl _, trivial⟩
  | (_p, _q) :: _l, _i, _j, ⟨h1, h2, ⟨_a, h3, h4⟩, h5⟩ => ⟨h1, h2, Nat.le_of_lt (List.getElem?_eq_some_iff.1 h3).1, Nat.le_of_lt (List.getElem?_eq_some_iff.1 h4).1, Kc.kl h5⟩
set_option maxHeartbeats 8000000 in
theorem between_ok {w : World} {va vb vk : Value} {xs ys : List Int} {l : List (Nat × Nat)} (hx : RwR va xs w) (hy : RwR vb ys w) (hk : RwP vk l w) (hya : ∀ k, vb.ownBlock = some k → ¬ vk.ownBlock = some k) (hc : Kc xs ys 0 0 l) (hr : ∀ r ∈ ys, Ru r) (hln : l.length ≤ 8388608) (hxl : xs.length ≤ 70368744177664) (hyl : ys.length ≤ 70368744177664) :
    Calls Tryd.prog 35 #[va, vb, vk] w fun r w' => ∃ v, r = .returned v ∧ RwE v (bt ys 0 0 (l ++ [(xs.length, ys.length)])) w' ∧ (∀ k, v.ownBlock = some k → w.heap.size ≤ k) ∧ Ch (fun k => vk.ownBlock = some k) w w' := by
  obtain ⟨a1, c1, hv1, _⟩ := hx.form
  obtain ⟨a2, c2, hv2, hc2, _⟩ := hy.form
  obtain ⟨a3, c3, hv3, _⟩ := Rw.form hk
  have HKl := hid_of' hc.kl
  obtain ⟨n, hn⟩ : ∃ n, n = xs.length := ⟨_, rfl⟩
  obtain ⟨m, hm⟩ : ∃ m, m = ys.length := ⟨_, rfl⟩
  obtain ⟨q, hq⟩ : ∃ q, q = l.length := ⟨_, rfl⟩
  rw [← hn] at hv1 HKl hxl ⊢
  rw [← hm] at hv2 HKl hyl hc2 ⊢
  rw [← hq] at hv3 hln
  subst hv1 hv2 hv3
  have b0 := below_one w (.cells #[.int .i64 0, .int .i64 0] 111)
  have r0 := RowAt.new w #[.int .i64 0, .int .i64 0] 111
  have H0 := hid_of' (And.intro (hy.later b0) (And.intro (hk.later b0) (And.intro hya (And.intro hr (And.intro hq hm)))))
  have HLt := hid_of' (And.intro (Rw.lt hk) (Rw.lt hy))
  clear hx hy hk hya hr hq hm hn hc
  go_enter Tryd.func35, Tryd.ntmps35
  go_upto_region 3 with fail
  obtain ⟨D, hDe⟩ : ∃ D, D = w.heap.size := ⟨_, rfl⟩
  rw [← hDe] at r0 ⊢
  generalize w.alloc (.cells #[.int .i64 0, .int .i64 0] 111) = W1 at b0 r0 H0 ⊢
  have HD := hid_of' (And.intro r0 (And.intro b0 hDe))
  have HS := hid_of' (And.intro (H0.out.2.1.later (below_one W1 (.cells #[.int .i64 (n : Int), .int .i64 (m : Int)] 111))) (so_new W1 111 2 #[.int .i64 (n : Int), .int .i64 (m : Int)] rfl (fc plc [(n, m)]) rfl))
  have HQ := hid_of' (And.intro H0.out.2.2.2.2.1 hln)
  clear r0 b0 hDe
  go_wp2_with (at_builtin; refine wpL_appP (m := [(n, m)]) rfl _ _ rfl rfl rfl HS.out.1 HS.out.2 (by have := HQ.out; show _ + 1 ≤ _; omega) ?_; intro u6 w6 q1 q2 q3; obtain ⟨a6, c6, hv6, _⟩ := Rw.form q1; obtain ⟨q6, hq6⟩ : ∃ q6, q6 = (l ++ [(n, m)]).length := ⟨_, rfl⟩; rw [← hq6] at hv6; subst hv6; have H6 := hid_of' (And.intro q1 (And.intro q2 (And.intro q3 hq6))); have hq9 : q6 ≤ 8388609 := (by have := HQ.out; rw [List.length_append] at hq6; simp only [List.length_cons, List.length_nil] at hq6; omega); clear q1 q2 q3 hq6)
  have hD6 : RowAt D #[.int .i64 0, .int .i64 0] 111 w6 := (HD.out.1.later (below_one W1 _)).grow H6.out.2.1 (fun e => by have := HLt.out.1 D e; have := HD.out.2.2; omega)
  have hy6 : RwR (.slice a2 m c2) ys w6 := Rw.grow (H0.out.1.later (below_one W1 _)) H6.out.2.1 (fun k hk => H0.out.2.2.1 k hk)
  have hC6 : Ch (fun k => Value.ownBlock (.slice a3 q c3) = some k) w w6 := (Ch.of (bgo HD.out.2.1 (below_one W1 _))).grown H6.out.2.1 (fun k hk => .inl hk)
  have hu6 : ∀ k, Value.ownBlock (.slice a6 q6 c6) = some k → ¬ k = D := fun k hk => (H6.out.2.2.1 k hk).elim (fun e => by have := HLt.out.1 k e; have := HD.out.2.2; omega) (fun e => by have h1 := HD.out.2.1.size; have h3 := HD.out.1.lt; rw [World.size_alloc] at e; omega)
  have hyD : ∀ k, Value.ownBlock (.slice a2 m c2) = some k → ¬ k = D := fun k hk => by have := HLt.out.2 k hk; have := HD.out.2.2; omega
  have hDw := HD.out.2.2
  have HW := hid_of' (And.intro hD6 (And.intro hy6 (And.intro hC6 (And.intro hu6 (And.intro hyD (And.intro H6.out.1 (And.intro H6.out.2.2.2 hDw)))))))
  clear hD6 hy6 hC6 hu6 hyD H6 HS HD hDw
  go_loopw [7, 21] (fun lv kv wr => ∃ (k i j : Nat) (es : List Edt), kv = .int .i64 (k : Int) ∧ k ≤ q6 ∧ es.length ≤ k ∧ RowAt D #[.int .i64 (i : Int), .int .i64 (j : Int)] 111 wr ∧ RwE lv es wr ∧ (∀ g, lv.ownBlock = some g → w6.heap.size ≤ g) ∧ es ++ bt ys i j ((l ++ [(n, m)]).drop k) = bt ys 0 0 (l ++ [(n, m)]) ∧ Kl n m i j ((l ++ [(n, m)]).drop k) ∧ Ch (fun b => b = D) w6 wr) (fun _ kv _ => q6 - (intOf kv).toNat)
  case atStart => exact ⟨0, 0, 0, [], rfl, Nat.zero_le _, Nat.le_refl _, HW.out.1, RwE.nil _, (fun g hg => by cases hg), rfl, HKl.out, Ch.refl _ _⟩
  case round =>
    obtain ⟨k, ix, jx, es, rfl, hk, hel, hDr, hL, hO, hbt, hkl, hC⟩ := hrel
    obtain ⟨la, lc, hlv, _⟩ := Rw.form hL
    by_cases hkq : k < q6
    · have hki : (k : Int) < (q6 : Int) := by omega
      obtain ⟨⟨p1, p2⟩, hp⟩ : ∃ p, (l ++ [(n, m)])[k]? = some p := ⟨_, List.getElem?_eq_getElem (by rw [← HW.out.2.2.2.2.2.2.1]; exact hkq)⟩
      have hdr : (l ++ [(n, m)]).drop k = (p1, p2) :: (l ++ [(n, m)]).drop (k + 1) := by
        obtain ⟨k1, e1⟩ := List.getElem?_eq_some_iff.1 hp
        rw [List.drop_eq_getElem_cons k1, e1]
      rw [hdr] at hbt hkl
      have hu9 : RwP (.slice a6 q6 c6) (l ++ [(n, m)]) wr := Rw.ch HW.out.2.2.2.2.2.1 hC (fun k hk => HW.out.2.2.2.1 k hk)
      have hy9 : RwR (.slice a2 m c2) ys wr := Rw.ch HW.out.2.1 hC (fun k hk => HW.out.2.2.2.2.1 k hk)
      obtain ⟨g6, rfl, hg6, c60, c61⟩ := hu9.at hp
      dsimp only at c60 c61
      have b1 := below_one wr (.cells #[.int .i64 (p1 : Int), .int .i64 (p2 : Int)] 111)
      have r1 := RowAt.new wr #[.int .i64 (p1 : Int), .int .i64 (p2 : Int)] 111
      have rD := hDr.later b1
      obtain ⟨ln, hlne⟩ : ∃ ln, ln = es.length := ⟨_, rfl⟩
      rw [← hlne] at hlv
      subst hlv
      have HR := hid_of' (And.intro (hL.later b1) (And.intro hO (And.intro hbt (And.intro hkl (And.intro (hC.later b1) (And.intro (hy9.later b1) (And.intro hlne hel)))))))
      have hDlt := hDr.lt
      have HCs := hid_of' hC.size
      have HL5 := hid_of' (Rw.lt hL)
      clear hDr hL hO hbt hkl hC hu9 hy9 hdr hp hlne hel
      go_upto_region 6 with fail
      obtain ⟨P, hPe⟩ : ∃ P, P = wr.heap.size := ⟨_, rfl⟩
      rw [← hPe] at r1 ⊢
      have hPD : ¬ P = D := by omega
      have hPD6 : w6.heap.size ≤ P := by rw [hPe]; exact HCs.out
      generalize wr.alloc (.cells #[.int .i64 (p1 : Int), .int .i64 (p2 : Int)] 111) = W5 at b1 r1 rD HR ⊢
      have cP0 : W5.cell? ⟨P, 0, none⟩ = some (.int .i64 (p1 : Int)) := r1.is rfl
      have cP1 : W5.cell? ⟨P, 1, none⟩ = some (.int .i64 (p2 : Int)) := r1.is rfl
      have cD0 : W5.cell? ⟨D, 0, none⟩ = some (.int .i64 (ix : Int)) := rD.is rfl
      have cD1 : W5.cell? ⟨D, 1, none⟩ = some (.int .i64 (jx : Int)) := rD.is rfl
      have fD0 : W5.frozen? ⟨D, 0, none⟩ = false := rD.free 0
      have fD1 : W5.frozen? ⟨D, 1, none⟩ = false := rD.free 1
      have HP := hid_of' (And.intro r1 (And.intro rD (And.intro hPe (And.intro hPD hPD6))))
      have hk9 : k ≤ 8388609 := by omega
      have hp1n : p1 ≤ n := HR.out.2.2.2.1.2.2.1
      have hp2m : p2 ≤ m := HR.out.2.2.2.1.2.2.2.1
      clear b1 r1 rD hPe c60 c61 hPD hPD6
      by_cases hpe : p1 = ix ∧ p2 = jx
      · obtain ⟨rfl, rfl⟩ := hpe
        go_wp2
        go_roundw
        case rel =>
          obtain ⟨e1, e2, e3, e4, e5, e6, e7, e8⟩ := HR.out
          have hnD : ∀ g, Value.ownBlock (.slice la ln lc) = some g → ¬ g = D := fun g hg => by have := e2 g hg; have := HW.out.1.lt; omega
          refine ⟨k + 1, p1 + 1, p2 + 1, es, by go_num, by omega, by omega, (HP.out.2.1.two0 _).two1 _, Rw.setO (Rw.setO e1 ⟨D, 0, none⟩ _ hnD) ⟨D, 1, none⟩ _ hnD, e2, ?_, e4.2.2.2.2, (e5.set (p := ⟨D, 0, none⟩) (.inl rfl) _).set (p := ⟨D, 1, none⟩) (.inl rfl) _⟩
          rw [← e3, bt, if_pos ⟨rfl, rfl⟩]
          rfl
        case measure => simp [intOf]; omega
      · have hDl : D < W5.heap.size := HP.out.2.1.lt
        have hPl : P < W5.heap.size := HP.out.1.lt
        have hjp : jx ≤ p2 := HR.out.2.2.2.1.2.1
        have hip : ix ≤ p1 := HR.out.2.2.2.1.1
        obtain ⟨u, hu⟩ : ∃ u, u = sliced a2 jx p2 c2 1 := ⟨_, rfl⟩
        obtain ⟨t, ht⟩ : ∃ t, t = tx ((ys.take p2).drop jx) := ⟨_, rfl⟩
        have HU := hid_of' (And.intro (fun x => run_sub a2 m c2 jx p2 hjp (Nat.le_trans hp2m hc2) x) (fun x (hx : Below W5.heap.size W5 x) => str_sub (HR.out.2.2.2.2.2.1.later hx) H0.out.2.2.2.1 hjp (by rw [← H0.out.2.2.2.2.2]; exact hp2m)))
        rw [← hu, ← ht] at HU
        have HNE := hid_of' (And.intro hpe (And.intro hip ht))
        clear hu ht hjp hip hpe
        go_upto_region 7 with fail
        case roundEnd => exact absurd ⟨by omega, by omega⟩ HNE.out.1
        case isTrue.isFalse =>
          rename_i h8 h9
          clear h8 h9
          have ewd : IntKind.i64.wrap ((p1 : Int) - (ix : Int)) = (p1 : Int) - (ix : Int) := by
            have := HNE.out.2.1
            rw [IntKind.wrap_i64]
            omega
          refine wp_region_tailN 17 (by kernel_rfl) (fun _ => none) (by kernel_rfl) (by kernel_rfl) (by decide) (fun i v x => match i with
            | 0 => v = .slice la ln lc
            | 1 => v = .pointer (some ⟨D, 1, none⟩)
            | 2 => v = .int .i64 (jx : Int)
            | 3 => v = .pointer (some ⟨P, 0, none⟩)
            | 4 => v = .int .i64 (p1 : Int)
            | 5 => v = .pointer (some ⟨D, 0, none⟩)
            | 6 => v = .int .i64 (ix : Int)
            | 7 => v = .int .i64 ((p1 : Int) - (ix : Int))
            | 8 => v = .slice a2 m c2
            | 9 => v = .pointer (some ⟨D, 1, none⟩)
            | 10 => v = .int .i64 (jx : Int)
            | 11 => v = .pointer (some ⟨P, 1, none⟩)
            | 12 => v = .int .i64 (p2 : Int)
            | 13 => v = u
            | 14 => v = .string t
            | 15 => v = .agg #[.int .i64 (jx : Int), .int .i64 ((p1 : Int) - (ix : Int)), .string t]
            | 16 => ∃ g, v = .slice (some ⟨g, 0, none⟩) 1 1 ∧ RowAt g #[.int .i64 (jx : Int), .int .i64 ((p1 : Int) - (ix : Int)), .string t] 46 x
            | _ => True) (fun _ => false) (fun _ _ _ _ h => by cases h) ?_ ?_ ?_
          · intro i v x x' hR hb
            match i, hR with
            | 0, h => exact h
            | 1, h => exact h
            | 2, h => exact h
            | 3, h => exact h
            | 4, h => exact h
            | 5, h => exact h
            | 6, h => exact h
            | 7, h => exact h
            | 8, h => exact h
            | 9, h => exact h
            | 10, h => exact h
            | 11, h => exact h
            | 12, h => exact h
            | 13, h => exact h
            | 14, h => exact h
            | 15, h => exact h
            | 16, h => exact (let ⟨g, h1, h2⟩ := h; ⟨g, h1, h2.later hb⟩)
            | m + 17, h => exact h
          · intro i o hi ho q x vals hX hdep hoth
            have t7 : q.tmps[7]? = some (.slice la ln lc) := by rw [hoth 7 (by kernel_rfl)]; rfl
            have t8 : q.tmps[8]? = some (.pointer (some ⟨D, 0, none⟩)) := by rw [hoth 8 (by kernel_rfl)]; rfl
            have t10 : q.tmps[10]? = some (.pointer (some ⟨P, 0, none⟩)) := by rw [hoth 10 (by kernel_rfl)]; rfl
            have t1 : q.tmps[1]? = some (.slice a2 m c2) := by rw [hoth 1 (by kernel_rfl)]; rfl
            match i, hi, ho with
            | 0, _, ho =>
              simp only [List.getElem?_cons_zero, Option.some.injEq] at ho
              subst ho
              unfold Oper.wp
              simp [execOp, go_sem, t7]
              exact came _ rfl (Below.refl _ _) rfl (fun h => absurd h (by decide))
            | 1, _, ho =>
              simp only [List.getElem?_cons_succ, List.getElem?_cons_zero, Option.some.injEq] at ho
              subst ho
              unfold Oper.wp
              simp [execOp, go_sem, t8]
              exact came _ rfl (Below.refl _ _) rfl (fun h => absurd h (by decide))
            | 2, _, ho =>
              simp only [List.getElem?_cons_succ, List.getElem?_cons_zero, Option.some.injEq] at ho
              subst ho
              obtain ⟨u1, e1⟩ := hdep ⟨1, .data⟩ (by simp) rfl _ 29 rfl rfl
              rw [show vals 1 = .pointer (some ⟨D, 1, none⟩) from e1] at u1
              have cc : x.cell? ⟨D, 1, none⟩ = some (.int .i64 (jx : Int)) := by rw [hX.cell hDl]; exact cD1
              unfold Oper.wp
              simp [execOp, go_sem, u1, cc]
              exact came _ rfl (Below.refl _ _) rfl (fun h => absurd h (by decide))
            | 3, _, ho =>
              simp only [List.getElem?_cons_succ, List.getElem?_cons_zero, Option.some.injEq] at ho
              subst ho
              unfold Oper.wp
              simp [execOp, go_sem, t10]
              exact came _ rfl (Below.refl _ _) rfl (fun h => absurd h (by decide))
            | 4, _, ho =>
              simp only [List.getElem?_cons_succ, List.getElem?_cons_zero, Option.some.injEq] at ho
              subst ho
              obtain ⟨u3, e3⟩ := hdep ⟨3, .data⟩ (by simp) rfl _ 31 rfl rfl
              rw [show vals 3 = .pointer (some ⟨P, 0, none⟩) from e3] at u3
              have cc : x.cell? ⟨P, 0, none⟩ = some (.int .i64 (p1 : Int)) := by rw [hX.cell hPl]; exact cP0
              unfold Oper.wp
              simp [execOp, go_sem, u3, cc]
              exact came _ rfl (Below.refl _ _) rfl (fun h => absurd h (by decide))
            | 5, _, ho =>
              simp only [List.getElem?_cons_succ, List.getElem?_cons_zero, Option.some.injEq] at ho
              subst ho
              unfold Oper.wp
              simp [execOp, go_sem, t8]
              exact came _ rfl (Below.refl _ _) rfl (fun h => absurd h (by decide))
            | 6, _, ho =>
              simp only [List.getElem?_cons_succ, List.getElem?_cons_zero, Option.some.injEq] at ho
              subst ho
              obtain ⟨u5, e5⟩ := hdep ⟨5, .data⟩ (by simp) rfl _ 33 rfl rfl
              rw [show vals 5 = .pointer (some ⟨D, 0, none⟩) from e5] at u5
              have cc : x.cell? ⟨D, 0, none⟩ = some (.int .i64 (ix : Int)) := by rw [hX.cell hDl]; exact cD0
              unfold Oper.wp
              simp [execOp, go_sem, u5, cc]
              exact came _ rfl (Below.refl _ _) rfl (fun h => absurd h (by decide))
            | 7, _, ho =>
              simp only [List.getElem?_cons_succ, List.getElem?_cons_zero, Option.some.injEq] at ho
              subst ho
              obtain ⟨u4, e4⟩ := hdep ⟨4, .data⟩ (by simp) rfl _ 32 rfl rfl
              rw [show vals 4 = .int .i64 (p1 : Int) from e4] at u4
              obtain ⟨u6, e6⟩ := hdep ⟨6, .data⟩ (by simp) rfl _ 34 rfl rfl
              rw [show vals 6 = .int .i64 (ix : Int) from e6] at u6
              unfold Oper.wp
              simp [execOp, go_sem, u4, u6, ewd]
              exact came _ rfl (Below.refl _ _) rfl (fun h => absurd h (by decide))
            | 8, _, ho =>
              simp only [List.getElem?_cons_succ, List.getElem?_cons_zero, Option.some.injEq] at ho
              subst ho
              unfold Oper.wp
              simp [execOp, go_sem, t1]
              exact came _ rfl (Below.refl _ _) rfl (fun h => absurd h (by decide))
            | 9, _, ho =>
              simp only [List.getElem?_cons_succ, List.getElem?_cons_zero, Option.some.injEq] at ho
              subst ho
              unfold Oper.wp
              simp [execOp, go_sem, t8]
              exact came _ rfl (Below.refl _ _) rfl (fun h => absurd h (by decide))
            | 10, _, ho =>
              simp only [List.getElem?_cons_succ, List.getElem?_cons_zero, Option.some.injEq] at ho
              subst ho
              obtain ⟨u9, e9⟩ := hdep ⟨9, .data⟩ (by simp) rfl _ 37 rfl rfl
              rw [show vals 9 = .pointer (some ⟨D, 1, none⟩) from e9] at u9
              have cc : x.cell? ⟨D, 1, none⟩ = some (.int .i64 (jx : Int)) := by rw [hX.cell hDl]; exact cD1
              unfold Oper.wp
              simp [execOp, go_sem, u9, cc]
              exact came _ rfl (Below.refl _ _) rfl (fun h => absurd h (by decide))
            | 11, _, ho =>
              simp only [List.getElem?_cons_succ, List.getElem?_cons_zero, Option.some.injEq] at ho
              subst ho
              unfold Oper.wp
              simp [execOp, go_sem, t10]
              exact came _ rfl (Below.refl _ _) rfl (fun h => absurd h (by decide))
            | 12, _, ho =>
              simp only [List.getElem?_cons_succ, List.getElem?_cons_zero, Option.some.injEq] at ho
              subst ho
              obtain ⟨u11, e11⟩ := hdep ⟨11, .data⟩ (by simp) rfl _ 39 rfl rfl
              rw [show vals 11 = .pointer (some ⟨P, 1, none⟩) from e11] at u11
              have cc : x.cell? ⟨P, 1, none⟩ = some (.int .i64 (p2 : Int)) := by rw [hX.cell hPl]; exact cP1
              unfold Oper.wp
              simp [execOp, go_sem, u11, cc]
              exact came _ rfl (Below.refl _ _) rfl (fun h => absurd h (by decide))
            | 13, _, ho =>
              simp only [List.getElem?_cons_succ, List.getElem?_cons_zero, Option.some.injEq] at ho
              subst ho
              obtain ⟨u8, e8⟩ := hdep ⟨8, .data⟩ (by simp) rfl _ 36 rfl rfl
              rw [show vals 8 = .slice a2 m c2 from e8] at u8
              obtain ⟨u10, e10⟩ := hdep ⟨10, .data⟩ (by simp) rfl _ 38 rfl rfl
              rw [show vals 10 = .int .i64 (jx : Int) from e10] at u10
              obtain ⟨u12, e12⟩ := hdep ⟨12, .data⟩ (by simp) rfl _ 40 rfl rfl
              rw [show vals 12 = .int .i64 (p2 : Int) from e12] at u12
              exact opw_sub _ _ _ rfl (by simp [Act.eval, u8]) (by simp [Act.eval, u10]) (by simp [Act.eval, u12]) (HU.out.1 x) (came _ rfl (Below.refl _ _) rfl (fun h => absurd h (by decide)))
            | 14, _, ho =>
              simp only [List.getElem?_cons_succ, List.getElem?_cons_zero, Option.some.injEq] at ho
              subst ho
              obtain ⟨u13, e13⟩ := hdep ⟨13, .data⟩ (by simp) rfl _ 41 rfl rfl
              rw [show vals 13 = u from e13] at u13
              exact opw_str _ rfl (by simp [Act.eval, u13]) (HU.out.2 x hX) (came _ rfl (Below.refl _ _) rfl (fun h => absurd h (by decide)))
            | 15, _, ho =>
              simp only [List.getElem?_cons_succ, List.getElem?_cons_zero, Option.some.injEq] at ho
              subst ho
              obtain ⟨u2, e2⟩ := hdep ⟨2, .data⟩ (by simp) rfl _ 30 rfl rfl
              rw [show vals 2 = .int .i64 (jx : Int) from e2] at u2
              obtain ⟨u7, e7⟩ := hdep ⟨7, .data⟩ (by simp) rfl _ 35 rfl rfl
              rw [show vals 7 = .int .i64 ((p1 : Int) - (ix : Int)) from e7] at u7
              obtain ⟨u14, e14⟩ := hdep ⟨14, .data⟩ (by simp) rfl _ 42 rfl rfl
              rw [show vals 14 = .string t from e14] at u14
              unfold Oper.wp
              simp [execOp, go_sem, u2, u7, u14]
              exact came _ rfl (Below.refl _ _) rfl (fun h => absurd h (by decide))
            | 16, _, ho =>
              simp only [List.getElem?_cons_succ, List.getElem?_cons_zero, Option.some.injEq] at ho
              subst ho
              obtain ⟨u15, e15⟩ := hdep ⟨15, .data⟩ (by simp) rfl _ 43 rfl rfl
              rw [show vals 15 = .agg #[.int .i64 (jx : Int), .int .i64 ((p1 : Int) - (ix : Int)), .string t] from e15] at u15
              unfold Oper.wp
              simp [execOp, go_sem, u15]
              exact came _ rfl (below_one _ _) ⟨x.heap.size, rfl, RowAt.new x _ _⟩ (fun h => absurd h (by decide))
            | m + 17, hi, _ => exact absurd hi (by omega)
          · intro vals W7 hX hR _
            obtain ⟨g9, f16, r9⟩ : ∃ g, vals 16 = .slice (some ⟨g, 0, none⟩) 1 1 ∧ RowAt g #[.int .i64 (jx : Int), .int .i64 ((p1 : Int) - (ix : Int)), .string t] 46 W7 := hR 16 (by decide)
            have f0 : vals 0 = .slice la ln lc := hR 0 (by decide)
            have f1 : vals 1 = .pointer (some ⟨D, 1, none⟩) := hR 1 (by decide)
            have f2 : vals 2 = .int .i64 (jx : Int) := hR 2 (by decide)
            have f3 : vals 3 = .pointer (some ⟨P, 0, none⟩) := hR 3 (by decide)
            have f4 : vals 4 = .int .i64 (p1 : Int) := hR 4 (by decide)
            have f5 : vals 5 = .pointer (some ⟨D, 0, none⟩) := hR 5 (by decide)
            have f6 : vals 6 = .int .i64 (ix : Int) := hR 6 (by decide)
            have f7 : vals 7 = .int .i64 ((p1 : Int) - (ix : Int)) := hR 7 (by decide)
            have f8 : vals 8 = .slice a2 m c2 := hR 8 (by decide)
            have f9 : vals 9 = .pointer (some ⟨D, 1, none⟩) := hR 9 (by decide)
            have f10 : vals 10 = .int .i64 (jx : Int) := hR 10 (by decide)
            have f11 : vals 11 = .pointer (some ⟨P, 1, none⟩) := hR 11 (by decide)
            have f12 : vals 12 = .int .i64 (p2 : Int) := hR 12 (by decide)
            have f13 : vals 13 = u := hR 13 (by decide)
            have f14 : vals 14 = .string t := hR 14 (by decide)
            have f15 : vals 15 = .agg #[.int .i64 (jx : Int), .int .i64 ((p1 : Int) - (ix : Int)), .string t] := hR 15 (by decide)
            simp only [List.drop, List.take, putAll, List.setIfInBounds_toArray, List.set_cons_succ, List.set_cons_zero, f0, f1, f2, f3, f4, f5, f6, f7, f8, f9, f10, f11, f12, f13, f14, f15, f16]
            clear f0 f1 f2 f3 f4 f5 f6 f7 f8 f9 f10 f11 f12 f13 f14 f15 f16 hR
            have hs7 := r9.so1 3 rfl (fc edc [⟨(jx : Int), (p1 : Int) - (ix : Int), t⟩]) rfl
            have HS := hid_of' (And.intro (HR.out.1.later hX) hs7)
            have HX := hid_of' hX
            clear hs7 r9 hX ewd cP0 cP1 cD0 cD1 fD0 fD1
            go_upto_region 8 with (at_builtin; refine wpL_appE (m := [⟨(jx : Int), (p1 : Int) - (ix : Int), t⟩]) rfl _ _ rfl rfl rfl HS.out.1 HS.out.2 (by have := HR.out.2.2.2.2.2.2.2; show _ + 1 ≤ _; omega) ?_; intro u8 w8 q1 q2 q3)
            obtain ⟨e1, e2, e3, e4, e5, e6, e7, e8⟩ := HR.out
            have hDw6 := HW.out.1.lt
            have ho7 : ∀ g, Value.ownBlock (.slice la ln lc) = some g → ¬ g = D := fun g hg => by have := e2 g hg; omega
            have ho7' : ∀ g, Value.ownBlock (.slice la ln lc) = some g → ¬ g = P := fun g hg e => by
              have h5 : g < W5.heap.size := Rw.lt e1 g hg
              have h6 := HL5.out g hg
              have h7 := HP.out.2.2.1
              omega
            have rD8 : RowAt D #[.int .i64 (ix : Int), .int .i64 (jx : Int)] 111 w8 := (HP.out.2.1.later HX.out).grow q2 (fun e => ho7 D e rfl)
            have rP8 : RowAt P #[.int .i64 (p1 : Int), .int .i64 (p2 : Int)] 111 w8 := (HP.out.1.later HX.out).grow q2 (fun e => ho7' P e rfl)
            have hC8 := (e5.later HX.out).grown q2 (fun g hg => .inr (e2 g hg))
            have hO8 : ∀ g, u8.ownBlock = some g → w6.heap.size ≤ g := fun g hg => (q3 g hg).elim (fun e => e2 g e) (fun e => by have h1 := HX.out.size; have h2 := e5.size; omega)
            have cP0 : w8.cell? ⟨P, 0, none⟩ = some (.int .i64 (p1 : Int)) := rP8.is rfl
            have cP1 : w8.cell? ⟨P, 1, none⟩ = some (.int .i64 (p2 : Int)) := rP8.is rfl
            have cD0 : w8.cell? ⟨D, 0, none⟩ = some (.int .i64 (ix : Int)) := rD8.is rfl
            have cD1 : w8.cell? ⟨D, 1, none⟩ = some (.int .i64 (jx : Int)) := rD8.is rfl
            have fD0 : w8.frozen? ⟨D, 0, none⟩ = false := rD8.free 0
            have fD1 : w8.frozen? ⟨D, 1, none⟩ = false := rD8.free 1
            have H8 := hid_of' (And.intro q1 (And.intro hO8 (And.intro hC8 (And.intro rD8 (And.intro e3 (And.intro e4 e8))))))
            clear q1 q2 q3 hO8 hC8 rD8 rP8 e1 e2 e3 e4 e5 e6 e7 e8 ho7 ho7' HS
            go_wp2
            go_roundw
            case rel =>
              obtain ⟨e1, e2, e3, e4, e5, e6, e8⟩ := H8.out
              have hnD : ∀ g, u8.ownBlock = some g → ¬ g = D := fun g hg => by have := e2 g hg; omega
              refine ⟨k + 1, p1 + 1, p2 + 1, es ++ [(⟨(jx : Int), (p1 : Int) - (ix : Int), t⟩ : Edt)], by go_num, by omega, by rw [List.length_append]; show _ + 1 ≤ _; omega, (e4.two0 _).two1 _, Rw.setO (Rw.setO e1 ⟨D, 0, none⟩ _ hnD) ⟨D, 1, none⟩ _ hnD, e2, ?_, e6.2.2.2.2, (e3.set (p := ⟨D, 0, none⟩) (.inl rfl) _).set (p := ⟨D, 1, none⟩) (.inl rfl) _⟩
              rw [← e5, bt, if_neg HNE.out.1, HNE.out.2.2, List.append_assoc]
            case measure => simp [intOf]; omega
        case isFalse =>
          rename_i h9
          clear h9
          have ewd : IntKind.i64.wrap ((p1 : Int) - (ix : Int)) = (p1 : Int) - (ix : Int) := by
            have := HNE.out.2.1
            rw [IntKind.wrap_i64]
            omega
          refine wp_region_tailN 17 (by kernel_rfl) (fun _ => none) (by kernel_rfl) (by kernel_rfl) (by decide) (fun i v x => match i with
            | 0 => v = .slice la ln lc
            | 1 => v = .pointer (some ⟨D, 1, none⟩)
            | 2 => v = .int .i64 (jx : Int)
            | 3 => v = .pointer (some ⟨P, 0, none⟩)
            | 4 => v = .int .i64 (p1 : Int)
            | 5 => v = .pointer (some ⟨D, 0, none⟩)
            | 6 => v = .int .i64 (ix : Int)
            | 7 => v = .int .i64 ((p1 : Int) - (ix : Int))
            | 8 => v = .slice a2 m c2
            | 9 => v = .pointer (some ⟨D, 1, none⟩)
            | 10 => v = .int .i64 (jx : Int)
            | 11 => v = .pointer (some ⟨P, 1, none⟩)
            | 12 => v = .int .i64 (p2 : Int)
            | 13 => v = u
            | 14 => v = .string t
            | 15 => v = .agg #[.int .i64 (jx : Int), .int .i64 ((p1 : Int) - (ix : Int)), .string t]
            | 16 => ∃ g, v = .slice (some ⟨g, 0, none⟩) 1 1 ∧ RowAt g #[.int .i64 (jx : Int), .int .i64 ((p1 : Int) - (ix : Int)), .string t] 46 x
            | _ => True) (fun _ => false) (fun _ _ _ _ h => by cases h) ?_ ?_ ?_
          · intro i v x x' hR hb
            match i, hR with
            | 0, h => exact h
            | 1, h => exact h
            | 2, h => exact h
            | 3, h => exact h
            | 4, h => exact h
            | 5, h => exact h
            | 6, h => exact h
            | 7, h => exact h
            | 8, h => exact h
            | 9, h => exact h
            | 10, h => exact h
            | 11, h => exact h
            | 12, h => exact h
            | 13, h => exact h
            | 14, h => exact h
            | 15, h => exact h
            | 16, h => exact (let ⟨g, h1, h2⟩ := h; ⟨g, h1, h2.later hb⟩)
            | m + 17, h => exact h
          · intro i o hi ho q x vals hX hdep hoth
            have t7 : q.tmps[7]? = some (.slice la ln lc) := by rw [hoth 7 (by kernel_rfl)]; rfl
            have t8 : q.tmps[8]? = some (.pointer (some ⟨D, 0, none⟩)) := by rw [hoth 8 (by kernel_rfl)]; rfl
            have t10 : q.tmps[10]? = some (.pointer (some ⟨P, 0, none⟩)) := by rw [hoth 10 (by kernel_rfl)]; rfl
            have t1 : q.tmps[1]? = some (.slice a2 m c2) := by rw [hoth 1 (by kernel_rfl)]; rfl
            match i, hi, ho with
            | 0, _, ho =>
              simp only [List.getElem?_cons_zero, Option.some.injEq] at ho
              subst ho
              unfold Oper.wp
              simp [execOp, go_sem, t7]
              exact came _ rfl (Below.refl _ _) rfl (fun h => absurd h (by decide))
            | 1, _, ho =>
              simp only [List.getElem?_cons_succ, List.getElem?_cons_zero, Option.some.injEq] at ho
              subst ho
              unfold Oper.wp
              simp [execOp, go_sem, t8]
              exact came _ rfl (Below.refl _ _) rfl (fun h => absurd h (by decide))
            | 2, _, ho =>
              simp only [List.getElem?_cons_succ, List.getElem?_cons_zero, Option.some.injEq] at ho
              subst ho
              obtain ⟨u1, e1⟩ := hdep ⟨1, .data⟩ (by simp) rfl _ 29 rfl rfl
              rw [show vals 1 = .pointer (some ⟨D, 1, none⟩) from e1] at u1
              have cc : x.cell? ⟨D, 1, none⟩ = some (.int .i64 (jx : Int)) := by rw [hX.cell hDl]; exact cD1
              unfold Oper.wp
              simp [execOp, go_sem, u1, cc]
              exact came _ rfl (Below.refl _ _) rfl (fun h => absurd h (by decide))
            | 3, _, ho =>
              simp only [List.getElem?_cons_succ, List.getElem?_cons_zero, Option.some.injEq] at ho
              subst ho
              unfold Oper.wp
              simp [execOp, go_sem, t10]
              exact came _ rfl (Below.refl _ _) rfl (fun h => absurd h (by decide))
            | 4, _, ho =>
              simp only [List.getElem?_cons_succ, List.getElem?_cons_zero, Option.some.injEq] at ho
              subst ho
              obtain ⟨u3, e3⟩ := hdep ⟨3, .data⟩ (by simp) rfl _ 31 rfl rfl
              rw [show vals 3 = .pointer (some ⟨P, 0, none⟩) from e3] at u3
              have cc : x.cell? ⟨P, 0, none⟩ = some (.int .i64 (p1 : Int)) := by rw [hX.cell hPl]; exact cP0
              unfold Oper.wp
              simp [execOp, go_sem, u3, cc]
              exact came _ rfl (Below.refl _ _) rfl (fun h => absurd h (by decide))
            | 5, _, ho =>
              simp only [List.getElem?_cons_succ, List.getElem?_cons_zero, Option.some.injEq] at ho
              subst ho
              unfold Oper.wp
              simp [execOp, go_sem, t8]
              exact came _ rfl (Below.refl _ _) rfl (fun h => absurd h (by decide))
            | 6, _, ho =>
              simp only [List.getElem?_cons_succ, List.getElem?_cons_zero, Option.some.injEq] at ho
              subst ho
              obtain ⟨u5, e5⟩ := hdep ⟨5, .data⟩ (by simp) rfl _ 33 rfl rfl
              rw [show vals 5 = .pointer (some ⟨D, 0, none⟩) from e5] at u5
              have cc : x.cell? ⟨D, 0, none⟩ = some (.int .i64 (ix : Int)) := by rw [hX.cell hDl]; exact cD0
              unfold Oper.wp
              simp [execOp, go_sem, u5, cc]
              exact came _ rfl (Below.refl _ _) rfl (fun h => absurd h (by decide))
            | 7, _, ho =>
              simp only [List.getElem?_cons_succ, List.getElem?_cons_zero, Option.some.injEq] at ho
              subst ho
              obtain ⟨u4, e4⟩ := hdep ⟨4, .data⟩ (by simp) rfl _ 32 rfl rfl
              rw [show vals 4 = .int .i64 (p1 : Int) from e4] at u4
              obtain ⟨u6, e6⟩ := hdep ⟨6, .data⟩ (by simp) rfl _ 34 rfl rfl
              rw [show vals 6 = .int .i64 (ix : Int) from e6] at u6
              unfold Oper.wp
              simp [execOp, go_sem, u4, u6, ewd]
              exact came _ rfl (Below.refl _ _) rfl (fun h => absurd h (by decide))
            | 8, _, ho =>
              simp only [List.getElem?_cons_succ, List.getElem?_cons_zero, Option.some.injEq] at ho
              subst ho
              unfold Oper.wp
              simp [execOp, go_sem, t1]
              exact came _ rfl (Below.refl _ _) rfl (fun h => absurd h (by decide))
            | 9, _, ho =>
              simp only [List.getElem?_cons_succ, List.getElem?_cons_zero, Option.some.injEq] at ho
              subst ho
              unfold Oper.wp
              simp [execOp, go_sem, t8]
              exact came _ rfl (Below.refl _ _) rfl (fun h => absurd h (by decide))
            | 10, _, ho =>
              simp only [List.getElem?_cons_succ, List.getElem?_cons_zero, Option.some.injEq] at ho
              subst ho
              obtain ⟨u9, e9⟩ := hdep ⟨9, .data⟩ (by simp) rfl _ 37 rfl rfl
              rw [show vals 9 = .pointer (some ⟨D, 1, none⟩) from e9] at u9
              have cc : x.cell? ⟨D, 1, none⟩ = some (.int .i64 (jx : Int)) := by rw [hX.cell hDl]; exact cD1
              unfold Oper.wp
              simp [execOp, go_sem, u9, cc]
              exact came _ rfl (Below.refl _ _) rfl (fun h => absurd h (by decide))
            | 11, _, ho =>
              simp only [List.getElem?_cons_succ, List.getElem?_cons_zero, Option.some.injEq] at ho
              subst ho
              unfold Oper.wp
              simp [execOp, go_sem, t10]
              exact came _ rfl (Below.refl _ _) rfl (fun h => absurd h (by decide))
            | 12, _, ho =>
              simp only [List.getElem?_cons_succ, List.getElem?_cons_zero, Option.some.injEq] at ho
              subst ho
              obtain ⟨u11, e11⟩ := hdep ⟨11, .data⟩ (by simp) rfl _ 39 rfl rfl
              rw [show vals 11 = .pointer (some ⟨P, 1, none⟩) from e11] at u11
              have cc : x.cell? ⟨P, 1, none⟩ = some (.int .i64 (p2 : Int)) := by rw [hX.cell hPl]; exact cP1
              unfold Oper.wp
              simp [execOp, go_sem, u11, cc]
              exact came _ rfl (Below.refl _ _) rfl (fun h => absurd h (by decide))
            | 13, _, ho =>
              simp only [List.getElem?_cons_succ, List.getElem?_cons_zero, Option.some.injEq] at ho
              subst ho
              obtain ⟨u8, e8⟩ := hdep ⟨8, .data⟩ (by simp) rfl _ 36 rfl rfl
              rw [show vals 8 = .slice a2 m c2 from e8] at u8
              obtain ⟨u10, e10⟩ := hdep ⟨10, .data⟩ (by simp) rfl _ 38 rfl rfl
              rw [show vals 10 = .int .i64 (jx : Int) from e10] at u10
              obtain ⟨u12, e12⟩ := hdep ⟨12, .data⟩ (by simp) rfl _ 40 rfl rfl
              rw [show vals 12 = .int .i64 (p2 : Int) from e12] at u12
              exact opw_sub _ _ _ rfl (by simp [Act.eval, u8]) (by simp [Act.eval, u10]) (by simp [Act.eval, u12]) (HU.out.1 x) (came _ rfl (Below.refl _ _) rfl (fun h => absurd h (by decide)))
            | 14, _, ho =>
              simp only [List.getElem?_cons_succ, List.getElem?_cons_zero, Option.some.injEq] at ho
              subst ho
              obtain ⟨u13, e13⟩ := hdep ⟨13, .data⟩ (by simp) rfl _ 41 rfl rfl
              rw [show vals 13 = u from e13] at u13
              exact opw_str _ rfl (by simp [Act.eval, u13]) (HU.out.2 x hX) (came _ rfl (Below.refl _ _) rfl (fun h => absurd h (by decide)))
            | 15, _, ho =>
              simp only [List.getElem?_cons_succ, List.getElem?_cons_zero, Option.some.injEq] at ho
              subst ho
              obtain ⟨u2, e2⟩ := hdep ⟨2, .data⟩ (by simp) rfl _ 30 rfl rfl
              rw [show vals 2 = .int .i64 (jx : Int) from e2] at u2
              obtain ⟨u7, e7⟩ := hdep ⟨7, .data⟩ (by simp) rfl _ 35 rfl rfl
              rw [show vals 7 = .int .i64 ((p1 : Int) - (ix : Int)) from e7] at u7
              obtain ⟨u14, e14⟩ := hdep ⟨14, .data⟩ (by simp) rfl _ 42 rfl rfl
              rw [show vals 14 = .string t from e14] at u14
              unfold Oper.wp
              simp [execOp, go_sem, u2, u7, u14]
              exact came _ rfl (Below.refl _ _) rfl (fun h => absurd h (by decide))
            | 16, _, ho =>
              simp only [List.getElem?_cons_succ, List.getElem?_cons_zero, Option.some.injEq] at ho
              subst ho
              obtain ⟨u15, e15⟩ := hdep ⟨15, .data⟩ (by simp) rfl _ 43 rfl rfl
              rw [show vals 15 = .agg #[.int .i64 (jx : Int), .int .i64 ((p1 : Int) - (ix : Int)), .string t] from e15] at u15
              unfold Oper.wp
              simp [execOp, go_sem, u15]
              exact came _ rfl (below_one _ _) ⟨x.heap.size, rfl, RowAt.new x _ _⟩ (fun h => absurd h (by decide))
            | m + 17, hi, _ => exact absurd hi (by omega)
          · intro vals W7 hX hR _
            obtain ⟨g9, f16, r9⟩ : ∃ g, vals 16 = .slice (some ⟨g, 0, none⟩) 1 1 ∧ RowAt g #[.int .i64 (jx : Int), .int .i64 ((p1 : Int) - (ix : Int)), .string t] 46 W7 := hR 16 (by decide)
            have f0 : vals 0 = .slice la ln lc := hR 0 (by decide)
            have f1 : vals 1 = .pointer (some ⟨D, 1, none⟩) := hR 1 (by decide)
            have f2 : vals 2 = .int .i64 (jx : Int) := hR 2 (by decide)
            have f3 : vals 3 = .pointer (some ⟨P, 0, none⟩) := hR 3 (by decide)
            have f4 : vals 4 = .int .i64 (p1 : Int) := hR 4 (by decide)
            have f5 : vals 5 = .pointer (some ⟨D, 0, none⟩) := hR 5 (by decide)
            have f6 : vals 6 = .int .i64 (ix : Int) := hR 6 (by decide)
            have f7 : vals 7 = .int .i64 ((p1 : Int) - (ix : Int)) := hR 7 (by decide)
            have f8 : vals 8 = .slice a2 m c2 := hR 8 (by decide)
            have f9 : vals 9 = .pointer (some ⟨D, 1, none⟩) := hR 9 (by decide)
            have f10 : vals 10 = .int .i64 (jx : Int) := hR 10 (by decide)
            have f11 : vals 11 = .pointer (some ⟨P, 1, none⟩) := hR 11 (by decide)
            have f12 : vals 12 = .int .i64 (p2 : Int) := hR 12 (by decide)
            have f13 : vals 13 = u := hR 13 (by decide)
            have f14 : vals 14 = .string t := hR 14 (by decide)
            have f15 : vals 15 = .agg #[.int .i64 (jx : Int), .int .i64 ((p1 : Int) - (ix : Int)), .string t] := hR 15 (by decide)
            simp only [List.drop, List.take, putAll, List.setIfInBounds_toArray, List.set_cons_succ, List.set_cons_zero, f0, f1, f2, f3, f4, f5, f6, f7, f8, f9, f10, f11, f12, f13, f14, f15, f16]
            clear f0 f1 f2 f3 f4 f5 f6 f7 f8 f9 f10 f11 f12 f13 f14 f15 f16 hR
            have hs7 := r9.so1 3 rfl (fc edc [⟨(jx : Int), (p1 : Int) - (ix : Int), t⟩]) rfl
            have HS := hid_of' (And.intro (HR.out.1.later hX) hs7)
            have HX := hid_of' hX
            clear hs7 r9 hX ewd cP0 cP1 cD0 cD1 fD0 fD1
            go_upto_region 8 with (at_builtin; refine wpL_appE (m := [⟨(jx : Int), (p1 : Int) - (ix : Int), t⟩]) rfl _ _ rfl rfl rfl HS.out.1 HS.out.2 (by have := HR.out.2.2.2.2.2.2.2; show _ + 1 ≤ _; omega) ?_; intro u8 w8 q1 q2 q3)
            obtain ⟨e1, e2, e3, e4, e5, e6, e7, e8⟩ := HR.out
            have hDw6 := HW.out.1.lt
            have ho7 : ∀ g, Value.ownBlock (.slice la ln lc) = some g → ¬ g = D := fun g hg => by have := e2 g hg; omega
            have ho7' : ∀ g, Value.ownBlock (.slice la ln lc) = some g → ¬ g = P := fun g hg e => by
              have h5 : g < W5.heap.size := Rw.lt e1 g hg
              have h6 := HL5.out g hg
              have h7 := HP.out.2.2.1
              omega
            have rD8 : RowAt D #[.int .i64 (ix : Int), .int .i64 (jx : Int)] 111 w8 := (HP.out.2.1.later HX.out).grow q2 (fun e => ho7 D e rfl)
            have rP8 : RowAt P #[.int .i64 (p1 : Int), .int .i64 (p2 : Int)] 111 w8 := (HP.out.1.later HX.out).grow q2 (fun e => ho7' P e rfl)
            have hC8 := (e5.later HX.out).grown q2 (fun g hg => .inr (e2 g hg))
            have hO8 : ∀ g, u8.ownBlock = some g → w6.heap.size ≤ g := fun g hg => (q3 g hg).elim (fun e => e2 g e) (fun e => by have h1 := HX.out.size; have h2 := e5.size; omega)
            have cP0 : w8.cell? ⟨P, 0, none⟩ = some (.int .i64 (p1 : Int)) := rP8.is rfl
            have cP1 : w8.cell? ⟨P, 1, none⟩ = some (.int .i64 (p2 : Int)) := rP8.is rfl
            have cD0 : w8.cell? ⟨D, 0, none⟩ = some (.int .i64 (ix : Int)) := rD8.is rfl
            have cD1 : w8.cell? ⟨D, 1, none⟩ = some (.int .i64 (jx : Int)) := rD8.is rfl
            have fD0 : w8.frozen? ⟨D, 0, none⟩ = false := rD8.free 0
            have fD1 : w8.frozen? ⟨D, 1, none⟩ = false := rD8.free 1
            have H8 := hid_of' (And.intro q1 (And.intro hO8 (And.intro hC8 (And.intro rD8 (And.intro e3 (And.intro e4 e8))))))
            clear q1 q2 q3 hO8 hC8 rD8 rP8 e1 e2 e3 e4 e5 e6 e7 e8 ho7 ho7' HS
            go_wp2
            go_roundw
            case rel =>
              obtain ⟨e1, e2, e3, e4, e5, e6, e8⟩ := H8.out
              have hnD : ∀ g, u8.ownBlock = some g → ¬ g = D := fun g hg => by have := e2 g hg; omega
              refine ⟨k + 1, p1 + 1, p2 + 1, es ++ [(⟨(jx : Int), (p1 : Int) - (ix : Int), t⟩ : Edt)], by go_num, by omega, by rw [List.length_append]; show _ + 1 ≤ _; omega, (e4.two0 _).two1 _, Rw.setO (Rw.setO e1 ⟨D, 0, none⟩ _ hnD) ⟨D, 1, none⟩ _ hnD, e2, ?_, e6.2.2.2.2, (e3.set (p := ⟨D, 0, none⟩) (.inl rfl) _).set (p := ⟨D, 1, none⟩) (.inl rfl) _⟩
              rw [← e5, bt, if_neg HNE.out.1, HNE.out.2.2, List.append_assoc]
            case measure => simp [intOf]; omega
    · have hki : ¬ (k : Int) < (q6 : Int) := by omega
      have hk6 : k = q6 := by omega
      have HR := hid_of' (And.intro hL (And.intro hO (And.intro hbt (And.intro hC hk6))))
      clear hDr hL hO hbt hkl hC hel hlv hk6
      go_wp2
      go_ret
      obtain ⟨e1, e2, e3, e4, e5⟩ := HR.out
      rw [List.drop_of_length_le (by rw [← HW.out.2.2.2.2.2.2.1, e5]; exact Nat.le_refl _), bt, List.append_nil] at e3
      rw [e3] at e1
      have hs6 := HW.out.2.2.1.size
      exact ⟨_, rfl, e1, (fun g hg => by have := e2 g hg; omega), HW.out.2.2.1.go e4 (fun s hs => .inr (by rw [hs, HW.out.2.2.2.2.2.2.2]; exact Nat.le_refl _))⟩

/-- The edits that make one row another. -/
def eds (x y : List Int) : List Edt := bt y 0 0 (kp 0 0 x y ++ [(x.length, y.length)])
set_option maxHeartbeats 2000000 in
theorem edits_no {ad : Nat → Addr} {w : World} (E : Env ad w) (a b : ByteArray) (ha : a.size ≤ 70368744177664) (hb : b.size ≤ 70368744177664) {i : Int} {k : Nat} (h : chW a b = some (i, k)) :
    Calls Tryd.prog 21 #[.string a, .string b] w fun e w' => ∃ v, e = .returned (.tuple #[.slice none 0 0, v]) ∧ ErrR ad w.heap.size (some (bEdits, i, k)) v w' ∧ Below w.heap.size w w' := by
  have HC := hid_of' (chars_no E bEdits a b ha hb h)
  clear E h
  go_enter Tryd.func21, Tryd.ntmps21
  go_upto_region 2 with (go_at_call 34; refine HC.out.mono ?_; rintro e w1 ⟨v, rfl, ⟨bb, rfl, h2, h3, h4⟩, hb1⟩)
  go_wp2
  go_ret2
  exact ⟨_, rfl, ⟨bb, rfl, h2, h3, h4⟩, hb1⟩
set_option maxHeartbeats 2000000 in
theorem edits_ok {ad : Nat → Addr} {w : World} (E : Env ad w) (a b : ByteArray) (ha : a.size ≤ 70368744177664) (hb : b.size ≤ 70368744177664) (h : chW a b = none) :
    Calls Tryd.prog 21 #[.string a, .string b] w fun e w' => ∃ v, e = .returned (.tuple #[v, .nilIface]) ∧ RwE v (eds (rn a.data.toList) (rn b.data.toList)) w' ∧ (∀ k, v.ownBlock = some k → w.heap.size ≤ k) ∧ Below w.heap.size w w' := by
  have HC := hid_of' (chars_ok E bEdits a b ha hb h)
  obtain ⟨hva, hvb, hf⟩ := chW_fits h
  have hru := rn_ru _ _ (Nat.le_refl _) hvb
  have hal := Nat.le_trans (rn_len a.data.toList) (show a.data.toList.length ≤ 70368744177664 by rw [Array.length_toList]; exact ha)
  have hbl := Nat.le_trans (rn_len b.data.toList) (show b.data.toList.length ≤ 70368744177664 by rw [Array.length_toList]; exact hb)
  unfold ChOk at HC
  unfold eds
  generalize rn a.data.toList = xs at HC hf hal ⊢
  generalize rn b.data.toList = ys at HC hf hbl hru ⊢
  have HF := hid_of' (And.intro hf (And.intro hru (And.intro hal hbl)))
  clear E h hf hva hvb hru hal hbl
  go_enter Tryd.func21, Tryd.ntmps21
  go_upto_region 2 with (go_at_call 34; refine HC.out.mono ?_; rintro e w1 ⟨v1, v2, rfl, h1, h2, _, _, hb1⟩)
  have HP := hid_of' (kept_ok h1 h2 HF.out.1)
  have HB := hid_of' (fun (w2 : World) (v3 : Value) (h3 : RwP v3 (kp 0 0 xs ys) w2) (h4 : ∀ k, v3.ownBlock = some k → w1.heap.size ≤ k) (h5 : Below w1.heap.size w1 w2) =>
    between_ok (h1.later h5) (h2.later h5) h3 (fun k hk e => by have := Rw.lt h2 k hk; have := h4 k e; omega) (kp_kc0 xs ys) HF.out.2.1 (kp_fits HF.out.1) HF.out.2.2.1 HF.out.2.2.2)
  obtain ⟨a1, c1, hv1, _⟩ := h1.form
  obtain ⟨a2, c2, hv2, _⟩ := h2.form
  subst hv1 hv2
  have H1 := hid_of' hb1
  clear h1 h2 hb1
  go_wp2_with (first
    | (go_at_call 36; (with_reducible refine HP.out.mono ?_); rintro e w2 ⟨v3, rfl, h3, h4, hb2⟩; have HB2 := HB.out w2 v3 h3 h4 hb2; have H4 := hid_of' (And.intro h4 (And.intro hb2 HB2)); clear HB2 h3 h4 hb2)
    | (go_at_call 35; (with_reducible refine H4.out.2.2.mono ?_); rintro e w3 ⟨v5, rfl, h5, h6, hC⟩))
  go_ret2
  refine ⟨_, rfl, h5, (fun k hk => by have := h6 k hk; have h8 := H1.out.size; have h9 := H4.out.2.1.size; omega), bgo H1.out ?_⟩
  have hC2 : Ch (fun _ => False) w1 w3 := (Ch.of (S := fun _ => False) H4.out.2.1).go hC (fun s hs => .inr (H4.out.1 s hs))
  exact hC2.none (fun _ _ q => q)
end Go.Proofs.YtaimmjoekahleaaDoor
