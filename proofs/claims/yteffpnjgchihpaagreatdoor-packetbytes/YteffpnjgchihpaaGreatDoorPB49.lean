
/-
  Acts that are lent: a copy with marks behind. Acts that were lent: as they were, their marks too; then they are written over. barrowkeep.SpoilBytes.
-/
import Derived.Test.YteffpnjgchihpaaGreatDoorPB48
import Derived.Test.YteffpnjgchihpaaGreatDoorPB42
import Derived.Great.BuildSlice
namespace Go.Proofs.YteffpnjgchihpaaGreatDoor
open Go.RowKit Go.Extern.Stop Go.Stop Go.Extern
set_option maxRecDepth 100000

theorem act_there {b o n : Nat} {cs : Array Value} {t : TypeId} {w : World} (h : RowAt b cs t w) (hs : o + n ≤ cs.size) : w.there b o n := fun j hj => ⟨by rw [h.cell, Array.getElem?_eq_getElem (by omega)]; rfl, by
  unfold RowAt at h
  simp [World.frozen?, h]⟩
def acZ : Pac := ((0, 0, 0, 0), 0, [0, 0, 0, 0, 0, 0, 0, 0])
theorem fill_act (p : Pac) (hp : p.2.2.length = 8) : Instr.fill (fun i => some (i * ((Tryz.prog.info? 60).get (by kernel_rfl)).size, ((Tryz.prog.info? 60).get (by kernel_rfl)).size)) ((Array.range (1 * ((Tryz.prog.info? 60).get (by kernel_rfl)).size)).map ((Value.agg (acv acZ)).cells[· % (Value.agg (acv acZ)).cells.size]!)) [(0, .agg (acv p))] = some (acv p) := by
  obtain ⟨⟨k, r, t, c⟩, n, ck⟩ := p
  have h8 : ck.length = 8 := hp
  clear hp
  match ck, h8 with
  | [a1, a2, a3, a4, a5, a6, a7, a8], _ =>
    show _ = _
    kernel_rfl
/-- A slice of one act. -/
theorem wpL_oneA {ops : Array Oper} {rest : List Oper} {o : Oper} {A : Act} {w : World} {Q : Exit → Act → World → Prop} (hgd : o.guard = none) (x : Operand) (ho : o.op = .buildSlice 25 1 #[(0, x)]) {p : Pac} (hx : A.eval x = .agg (acv p)) (hp : p.2.2.length = 8)
    (k : wpList Tryz.prog ops Q rest (A.put o.dst (.slice (some ⟨w.heap.size, 0, none⟩) 1 1)) (w.alloc (.cells (acv p) 60))) : wpList Tryz.prog ops Q (o :: rest) A w := by
  have hs : (Tryz.prog.info? 60).isSome = true := by kernel_rfl
  have sz : ((Tryz.prog.info? 60).get hs).size = 13 := by kernel_rfl
  have e : ((#[(0, x)] : Array (Nat × Operand)).map fun (i, x) => (i, A.eval x)).toList = [(0, .agg (acv p))] := by
    simp only [List.map_toArray, List.map_cons, List.map_nil, hx]
  exact wpList_buildSlice hgd _ 60 1 _ ho (acv p) ((Tryz.prog.info? 60).get hs) (.agg (acv acZ)) (by kernel_rfl) (Option.some_get hs).symm (by kernel_rfl) (by rw [sz]; decide) (by rw [sz]; decide) (by rw [e]; exact fill_act p hp) k
theorem so_act (w : World) (p : Pac) (hp : p.2.2.length = 8) : So 13 (.slice (some ⟨w.heap.size, 0, none⟩) 1 1) 1 (acells [p]) (w.alloc (.cells (acv p) 60)) :=
  ⟨by simp [acells, acl_len hp], .inr ⟨_, _, rfl, fun j u hj => by
    rw [Addr.add_lit, Nat.zero_add, (RowAt.new w (acv p) 60).cell]
    simpa [acv, acells] using hj⟩⟩
theorem info_actP : (Tryz.prog.info? 60).map (fun i => (i.zero, i.size, i.bytes)) = some (some (.agg (acv acZ)), 13, 104) := by kernel_rfl
theorem act_built (z : Int) : Tryz.prog.built 60 [(1, .int .i64 z)] = some (acv ((0, 0, 0, 0), z, zero8)) := by kernel_rfl
/-- The act that marks. -/
def mkA (i : Int) : Pac := ((0, 0, 0, 0), -7 - i, zero8)
set_option maxHeartbeats 1000000 in
theorem keepAct_is (i : Int) (hi : 0 ≤ i ∧ i ≤ 99) (w : World) :
    Calls Tryz.prog 21 #[.int .i64 i] w fun e w' => e = .returned (.agg (acv (mkA i))) ∧ Below w.heap.size w w' := by
  have h0 := RowAt.new w (acv acZ) 60
  have b0 := below_one w (.cells (acv acZ) 60)
  have hw : wrap64 (-7 - i) = -7 - i := by unfold wrap64; omega
  have hs : (Tryz.prog.info? 60).map (·.size) = some (acv ((0, 0, 0, 0), -7 - i, zero8)).size := by kernel_rfl
  go_enter Tryz.func21, Tryz.ntmps21
  go_wp2_with (first | (refine wpList_buildTo rfl 60 _ rfl _ rfl (acv ((0, 0, 0, 0), -7 - i, zero8)) (act_built _) ?_) | (refine wpList_store_row rfl 60 _ _ rfl w.heap.size (acv ((0, 0, 0, 0), -7 - i, zero8)) rfl rfl _ _ h0 hs rfl (acv_one _) ?_))
  exact bodyPost_ret (v := .agg (acv ((0, 0, 0, 0), -7 - i, zero8))) (results_cell_row rfl _ _ w.heap.size _ _ _ _ rfl (setRow_heap _ _ _ _ _ _ h0) Tryz.underlying60 rfl hs) rfl ⟨rfl, below_setRow b0 (Nat.le_refl _) _⟩
theorem slA_so {w : World} {v : Value} {l : List Pac} (h : SlA w v l) (hs : ∀ a ∈ l, shA a) : So 13 v l.length (acells l) w := by
  refine ⟨acells_len l hs, ?_⟩
  rcases h with ⟨rfl, a, c, rfl⟩ | ⟨g, o, c, rfl, hg, hc⟩
  · exact .inl ⟨rfl, a, c, rfl⟩
  · refine .inr ⟨_, _, rfl, fun j u hj => ?_⟩
    have hjl := (List.getElem?_eq_some_iff.1 hj).1
    rw [acells_len l hs] at hjl
    have hi : j / 13 < l.length := by omega
    have ha := List.getElem?_eq_getElem hi
    have hm := hs _ (List.getElem_mem hi)
    have hr : j % 13 < (acv l[j / 13]).size := by simp [acv, acl_len hm]; omega
    have hv := Array.getElem?_eq_getElem hr
    have e := acells_at l hs (j / 13) _ ha (j % 13) _ hv
    rw [show j / 13 * 13 + j % 13 = j by omega, hj] at e
    have := (hc _ _ ha).2 _ _ hv
    rw [Addr.add_lit, e, ← this]
    congr 2
    omega
theorem acells_c (l : List Pac) : ∀ y ∈ acells l, y.oneCell' = true := fun y hy => by
  obtain ⟨a, ha, hm⟩ := List.mem_flatten.1 hy
  obtain ⟨x, _, rfl⟩ := List.mem_map.1 ha
  exact acl_one x y hm
def mk4a (j : Nat) : List Pac := (List.range j).map fun (i : Nat) => mkA (i : Int)
theorem mk4a_succ (j : Nat) : mk4a (j + 1) = mk4a j ++ [mkA (j : Int)] := by simp [mk4a, List.range_succ]
set_option maxHeartbeats 4000000 in
theorem lendActs_is {w : World} {v : Value} {l : List Pac} (h : SlA w v l) (hs : ∀ a ∈ l, shA a) (hl : l.length ≤ 60) :
    Calls Tryz.prog 6 #[v] w fun e w' => ∃ G c, e = .returned (.slice (some ⟨G, 0, none⟩) l.length c) ∧ Rw 60 13 (.slice (some ⟨G, 0, none⟩) (l.length + 4) c) (l.length + 4) (acells (l ++ mk4a 4)) w' ∧ w.heap.size ≤ G ∧ Below w.heap.size w w' := by
  obtain ⟨i0, hi0, hz⟩ := Option.map_eq_some_iff.1 info_actP
  simp only [Prod.mk.injEq] at hz
  have HI := hid_of' (And.intro hi0 hz)
  have HS := hid_of' (slA_so (h.later (below_one w (.cells #[] 60))) hs)
  clear hi0 hz hs
  obtain ⟨a, c, n, rfl, hn⟩ : ∃ a c n, v = .slice a n c ∧ l.length = n := by
    rcases h with ⟨rfl, a, c, rfl⟩ | ⟨g, o, c, rfl, _⟩
    · exact ⟨a, c, 0, rfl, rfl⟩
    · exact ⟨_, c, _, rfl, rfl⟩
  clear h
  rw [hn] at HS hl
  have HN := hid_of' hn
  go_enter Tryz.func6, Tryz.ntmps6
  go_upto_region 3 with (at_builtin; refine wpL_app0 (P := Tryz.prog) rfl _ _ 25 rfl 60 i0 _ 13 104 Tryz.underlying25 HI.out.1 HI.out.2.1 HI.out.2.2.1 HI.out.2.2.2 rfl rfl rfl (row_new w _ _) HS.out (acells_c _) (by unfold maxLen; omega) (by omega) ?_; intro v1 w1 h1 h2 h3)
  have hb1 : Below w.heap.size w w1 := bgo (below_one w _) h2
  have ho1 : ∀ k, v1.ownBlock = some k → w.heap.size ≤ k := fun k hk => by
    rcases h3 k hk with q | q
    · omega
    · rw [World.size_alloc] at q; omega
  clear h2 h3 HS hn
  go_loopw [3, 4] (fun ov jv wr => ∃ j : Nat, jv = .int .i64 (j : Int) ∧ j ≤ 4 ∧ Rw 60 13 ov (n + j) (acells (l ++ mk4a j)) wr ∧ (∀ k, ov.ownBlock = some k → w.heap.size ≤ k) ∧ Below w.heap.size w wr) (fun _ jv _ => 4 - (intOf jv).toNat)
  case atStart => exact ⟨0, rfl, by omega, by simpa [mk4a] using h1, ho1, hb1⟩
  case round =>
    clear h1 hb1 ho1
    obtain ⟨j, rfl, hj, hR, hO, hB⟩ := hrel
    obtain ⟨ua, uc, rfl, hcap, _⟩ := hR.form
    by_cases hj4 : j < 4
    · have hji : (j : Int) < 4 := by omega
      have HA := hid_of' (keepAct_is (j : Int) (by omega) wr)
      have HX := hid_of' (And.intro hR (And.intro hO hB))
      have hsz := hB.size
      clear hR hO hB hcap
      go_upto_region 4 with (first
        | (go_at_call 21; refine HA.out.mono ?_; rintro e w3 ⟨rfl, hb3⟩; have hR3 := (HX.out.1.later hb3).later (below_one _ (.cells (acv (mkA (j : Int))) 60)); have hso := so_act w3 (mkA (j : Int)) rfl)
        | (refine wpL_oneA (p := mkA (j : Int)) rfl _ rfl rfl rfl ?_)
        | (at_builtin; refine wpL_app (P := Tryz.prog) rfl _ _ 25 rfl 60 i0 _ 13 104 Tryz.underlying25 HI.out.1 HI.out.2.1 HI.out.2.2.1 HI.out.2.2.2 rfl rfl rfl hR3 hso (acells_c _) (by unfold maxLen; omega) (by omega) ?_; intro u6 w6 q1 q2 q3))
      have hs3 := hb3.size
      have b4 := below_one w3 (.cells (acv (mkA (j : Int))) 60)
      have hB6 : Below w.heap.size w w6 := HX.out.2.2.trans ((grown_ch (grown_first (bgo hb3 b4) q2)).below (fun s hs e => by have := HX.out.2.1 s e; omega) HX.out.2.2.size)
      have hO6 : ∀ k, u6.ownBlock = some k → w.heap.size ≤ k := fun k hk => (q3 k hk).elim (HX.out.2.1 k) (fun q => by rw [World.size_alloc] at q; omega)
      have HZ := hid_of' (And.intro q1 (And.intro hO6 hB6))
      clear q1 q2 q3 hB6 hO6 hR3 hso b4
      go_wp2
      go_roundw
      case rel => exact ⟨j + 1, by go_num, by omega, by rw [mk4a_succ, ← List.append_assoc, acells_app]; exact HZ.out.1, HZ.out.2.1, HZ.out.2.2⟩
      case measure => simp [intOf]; omega
    · have hji : ¬ (j : Int) < 4 := by omega
      obtain rfl : j = 4 := by omega
      obtain ⟨G, hG⟩ : ∃ G, ua = some ⟨G, 0, none⟩ := by
        rcases hR.2 with ⟨_, q2⟩ | ⟨g', _, _, q1, _⟩
        · omega
        · simp only [Value.slice.injEq] at q1
          exact ⟨g', q1.1⟩
      subst hG
      have k1 : (n : Int) ≤ (uc : Int) := by omega
      have HX := hid_of' (And.intro hR (And.intro (hO G rfl) hB))
      clear hR hO hB hcap
      go_wp2
      go_ret
      exact ⟨G, uc, by rw [HN.out]; rfl, by rw [HN.out]; exact HX.out.1, HX.out.2.1, HX.out.2.2⟩
end Go.Proofs.YteffpnjgchihpaaGreatDoor
namespace Go.Proofs.YteffpnjgchihpaaGreatDoor
open Go.RowKit Go.Extern.Stop Go.Stop Go.Extern
set_option maxRecDepth 100000

theorem rw_subA {g n c k : Nat} {ys : List Pac} {w : World} (h : Rw 60 13 (.slice (some ⟨g, 0, none⟩) n c) n (acells ys) w) (hs : ∀ a ∈ ys, shA a) {a : Pac} (ha : ys[k]? = some a) : CsIn g (k * 13) (acv a) w :=
  ⟨h.lt g rfl, fun j v hv => by
    have := h.cells (k * 13 + j) v (acells_at ys hs k a ha j v hv)
    rwa [Nat.zero_add] at this⟩
theorem rw_preA {g n c m : Nat} {ys zs : List Pac} {w : World} (h : Rw 60 13 (.slice (some ⟨g, 0, none⟩) n c) n (acells (ys ++ zs)) w) (hs : ∀ a ∈ ys ++ zs, shA a) (hm : ys.length = m) : SlA w (.slice (some ⟨g, 0, none⟩) m c) ys := by
  subst hm
  refine .inr ⟨g, 0, c, rfl, h.lt g rfl, fun i a ha => ?_⟩
  have := rw_subA h hs (k := i) (a := a) (by rw [List.getElem?_append_left (List.getElem?_eq_some_iff.1 ha).1]; exact ha)
  rwa [Nat.zero_add]
theorem mk4a_at {j : Nat} (h : j < 4) : (mk4a 4)[j]? = some (mkA (j : Int)) := by
  unfold mk4a
  rw [List.getElem?_map, List.getElem?_range h]
  rfl
theorem rw_overA {e : TypeId} {size g n c : Nat} {xs : List Value} {w : World} (h : Rw e size (.slice (some ⟨g, 0, none⟩) n c) n xs w) (o : Nat) (ys : List Value) : ∃ xs', Rw e size (.slice (some ⟨g, 0, none⟩) n c) n xs' (w.setCells g o ys) := by
  rcases h.2 with ⟨hv, _⟩ | ⟨g', cap, cur, hv, hg, hnc, hm, hcs, _⟩
  · cases hv
  · cases hv
    refine ⟨(putA cur o ys).toList.take (n * size), ?_, .inr ⟨_, _, _, rfl, heap_setCells ys o _ _ hg, hnc, hm, by rw [putA_size]; exact hcs, rfl⟩⟩
    have : n * size ≤ c * size := Nat.mul_le_mul_right _ hnc
    rw [List.length_take, Array.length_toList, putA_size]
    omega
theorem rw_thereP {g n c k : Nat} {xs : List Value} {w : World} (h : Rw 60 13 (.slice (some ⟨g, 0, none⟩) n c) n xs w) (hk : k < n) : w.there g (k * 13) 13 := by
  rcases h.2 with ⟨hv, _⟩ | ⟨g', cap, cur, hv, hg, hnc, hm, hcs, _⟩
  · cases hv
  · cases hv
    exact act_there (t := 60) hg (by omega)
set_option maxHeartbeats 8000000 in
theorem intactActs_is {w : World} {G c n : Nat} {v : Value} {l : List Pac} (h : Rw 60 13 (.slice (some ⟨G, 0, none⟩) (n + 4) c) (n + 4) (acells (l ++ mk4a 4)) w) (hb : SlA w v l) (hs : ∀ a ∈ l, shA a) (hn : l.length = n) (hl : n ≤ 60) :
    Calls Tryz.prog 11 #[.slice (some ⟨G, 0, none⟩) n c, v] w fun e w' => e = .returned (.bool true) ∧ Ch (fun k => k = G) w w' := by
  obtain ⟨a, vc, rfl⟩ : ∃ a vc, v = .slice a n vc := by
    rcases hb with ⟨rfl, a, c, rfl⟩ | ⟨g, o, c, rfl, _⟩
    · exact ⟨a, c, by rw [← hn]; rfl⟩
    · exact ⟨_, c, by rw [hn]⟩
  have hall : ∀ a ∈ l ++ mk4a 4, shA a := fun a ha => by
    rcases List.mem_append.1 ha with q | q
    · exact hs a q
    · unfold mk4a at q
      obtain ⟨i, _, rfl⟩ := List.mem_map.1 q
      rfl
  have hcap : n + 4 ≤ c := by
    obtain ⟨_, _, e, h1, _⟩ := h.form
    cases e
    exact h1
  have HK := hid_of' (actsK_is (l := l) (m := l) (x := true) (by simp) _ _ w (rw_preA h hall hn) hb hs hs (by omega))
  have H := hid_of' (And.intro h (And.intro hall hn))
  have k1 : (n : Int) + 4 ≤ (c : Int) := by omega
  have k2 : (n : Int) ≤ (n : Int) + 4 := by omega
  clear h hb hs hall hn
  go_enter Tryz.func11, Tryz.ntmps11
  go_upto_region 4 with (go_at_call 40; refine HK.out.mono ?_; rintro e w1 ⟨rfl, hb1⟩)
  go_loopw [6, 7] (fun kv jv wr => ∃ j : Nat, kv = .bool true ∧ jv = .int .i64 (j : Int) ∧ j ≤ 4 ∧ Below w.heap.size w wr) (fun _ jv _ => 4 - (intOf jv).toNat)
  case atStart => exact ⟨0, rfl, rfl, by omega, hb1⟩
  case round =>
    clear hb1
    obtain ⟨j, rfl, rfl, hj, hB⟩ := hrel
    by_cases hj4 : j < 4
    · have hji : (j : Int) < 4 := by omega
      have hji4 : (n : Int) + (j : Int) < (n : Int) + 4 := by omega
      have p1 : CsIn G ((n + j) * 13) (acv (mkA (j : Int))) wr := rw_subA (H.out.1.later hB) H.out.2.1 (k := n + j) (by rw [List.getElem?_append_right (by have := H.out.2.2; omega), show n + j - l.length = j by have := H.out.2.2; omega]; exact mk4a_at hj4)
      have q1 := fun w => eqIn_act 9996 (a := mkA (j : Int)) (b := mkA (j : Int)) rfl rfl w
      simp only [beq_self_eq_true] at q1
      have gd := act_guard
      go_upto_region 6 with fail
      refine wp_region_cls (by kernel_rfl) (by kernel_rfl) ?_
      repeat (first | go_big_quiet_skip | (go_big_quiet_want; first | (refine quiet_act (show shA (mkA (j : Int)) from rfl) _ rfl rfl p1.cls ?_; simp only [Act.put, List.setIfInBounds_toArray, List.set_cons_succ, List.set_cons_zero]; go_big_quiet_on) | (go_big_quiet_op; first | go_big_quiet_on | go_big_quiet_call ((go_at_call 21; exact cls_of (keepAct_is (j : Int) (by omega) _))))))
      refine wpQuiet_nil ?_
      rintro w1 ⟨s1, e1⟩
      have hb1 := wOf_below s1
      rw [← e1] at hb1
      clear e1 s1
      replace hB := bgo hB hb1
      clear hb1
      go_wp2
      go_roundw
      case rel => exact ⟨j + 1, rfl, by go_num, by omega, hB⟩
      case measure => simp [intOf]; omega
    · have hji : ¬ (j : Int) < 4 := by omega
      have HX := hid_of' (And.intro (H.out.1.later hB) (Ch.of (S := fun k => k = G) hB))
      clear hB
      go_upto_region 8 with fail
      go_loopw [8] (fun kv wr => ∃ (k : Nat) (ys : List Value), kv = .int .i64 (k : Int) ∧ k ≤ n + 4 ∧ Rw 60 13 (.slice (some ⟨G, 0, none⟩) (n + 4) c) (n + 4) ys wr ∧ Ch (fun k => k = G) w wr) (fun kv _ => n + 4 - (intOf kv).toNat)
      case atStart => exact ⟨0, _, rfl, by omega, HX.out.1, HX.out.2⟩
      case round =>
        obtain ⟨k, ys, rfl, hk, hR, hC⟩ := hrel
        by_cases hkl : k < n + 4
        · have hki : (k : Int) < (n : Int) + 4 := by omega
          have hki2 : (k : Int) < ((n + 4 : Nat) : Int) := by omega
          have HY := hid_of' (And.intro hR hC)
          have HA := hid_of' (keepAct_is 99 (by decide) wr)
          clear hR hC
          go_upto_region 9 with (first
            | (go_at_call 21; refine HA.out.mono ?_; rintro e w3 ⟨rfl, hb3⟩; have hR3 := HY.out.1.later hb3; have th3 := rw_thereP hR3 hkl; have hC3 := HY.out.2.later hb3)
            | (refine wpList_store_mid rfl 60 _ _ rfl G (k * 13) (acv (mkA 99)) rfl rfl th3 (acv_size (show shA (mkA 99) from rfl)) (acv_one _) ?_))
          obtain ⟨zs, hR4⟩ := rw_overA hR3 (k * 13) (acv (mkA 99)).toList
          have hC4 := hC3.cells (S := fun k => k = G) (g := G) (.inl rfl) (acv (mkA 99)).toList (k * 13) _
          have HZ := hid_of' (And.intro hR4 hC4)
          clear hR4 hC4 hR3 hC3 th3 HY HA
          generalize w3.setCells G (k * 13) (acv (mkA 99)).toList = w4 at HZ ⊢
          go_wp2
          go_roundw
          case rel => exact ⟨k + 1, zs, by go_num, by omega, HZ.out.1, HZ.out.2⟩
          case measure => simp [intOf]; omega
        · have hki : ¬ (k : Int) < (n : Int) + 4 := by omega
          have hki2 : ¬ (k : Int) < ((n + 4 : Nat) : Int) := by omega
          have HY := hid_of' hC
          clear hR hC
          go_wp2
          go_ret
          exact ⟨rfl, HY.out⟩
end Go.Proofs.YteffpnjgchihpaaGreatDoor
namespace Go.Proofs.YteffpnjgchihpaaGreatDoor
open Go.RowKit Go.Extern.Stop Go.Stop Go.Extern
set_option maxRecDepth 100000

theorem so_b (w : World) (x : Int) : So 1 (.slice (some ⟨w.heap.size, 0, none⟩) 1 1) 1 [.int .u8 x] (w.alloc (.cells #[.int .u8 x] 5)) :=
  ⟨rfl, .inr ⟨_, _, rfl, fun j u hj => by
    match j, hj with
    | 0, hj =>
      cases hj
      rw [Addr.add_lit, RowAt.cell (row_new w #[.int .u8 x] 5)]
      rfl
    | j + 1, hj => simp at hj⟩⟩
set_option maxHeartbeats 4000000 in
theorem spoilBytes_is {w : World} {v : Value} {n : Nat} {xs : List Value} (h : Rw 5 1 v n xs w) (hx : u8s xs) (hn : n ≤ 140737488351232) :
    Calls Tryz.prog 12 #[v] w fun e w' => (∃ z, e = .returned z) ∧ Ch (fun k => v.ownBlock = some k) w w' := by
  obtain ⟨i0, hi0, hz0, hz1, hz2⟩ := info_parts infoB
  have HI := hid_of' (And.intro hi0 (And.intro hz0 (And.intro hz1 hz2)))
  obtain ⟨a, c, rfl, _, _⟩ := h.form
  have H := hid_of' h
  clear h hi0 hz0 hz1 hz2
  go_enter Tryz.func12, Tryz.ntmps12
  go_wp2
  go_loopw [2] (fun kv wr => ∃ (k : Nat) (ys : List Value), kv = .int .i64 (k : Int) ∧ k ≤ n ∧ Rw 5 1 (.slice a n c) n ys wr ∧ u8s ys ∧ Ch (fun k => Value.ownBlock (.slice a n c) = some k) w wr) (fun kv _ => n - (intOf kv).toNat)
  case atStart => exact ⟨0, xs, rfl, by omega, H.out, hx, Ch.refl _ _⟩
  case round =>
    obtain ⟨k, ys, rfl, hk, hR, hu, hC⟩ := hrel
    by_cases hkl : k < n
    · have hki : (k : Int) < (n : Int) := by omega
      obtain ⟨G, rfl⟩ := hR.some (by omega)
      have hyl : ys.length = n := by have := hR.1; omega
      obtain ⟨y, hy⟩ : ∃ y, ys[k]? = some y := ⟨_, List.getElem?_eq_getElem (by omega)⟩
      obtain ⟨z, rfl⟩ := hu y (List.mem_of_getElem? hy)
      have hat := rw_at1 hR hy
      have m1 := hat.1
      have m2 := hat.2
      have HX := hid_of' (And.intro hR (And.intro hu hC))
      clear hR hC hat hy hyl hu
      go_wp2
      go_roundw
      case rel => exact ⟨k + 1, ys.set k _, by go_num, by omega, rw_set1 HX.out.1 k _, HX.out.2.1.set k _, Ch.set (p := ⟨G, k, none⟩) HX.out.2.2 (.inl rfl) _⟩
      case measure => simp [intOf]; omega
    · have hki : ¬ (k : Int) < (n : Int) := by omega
      have HX := hid_of' (And.intro hR hC)
      clear hR hC
      go_wp2
      go_loopw [0, 3] (fun v9 jv wq => ∃ (j m : Nat) (zs : List Value), jv = .int .i64 (j : Int) ∧ j ≤ 40 ∧ m ≤ n + j ∧ Rw 5 1 v9 m zs wq ∧ At' w (.slice a n c) v9 ∧ Ch (fun k => Value.ownBlock (.slice a n c) = some k) w wq) (fun _ jv _ => 40 - (intOf jv).toNat)
      case atStart => exact ⟨0, n, ys, rfl, by omega, by omega, HX.out.1, At'.refl _ _, HX.out.2⟩
      case round =>
        obtain ⟨j, m, zs, rfl, hj, hm, hR, hA, hC⟩ := hrel
        obtain ⟨za, zc, hv9, _, _⟩ := hR.form
        subst hv9
        by_cases hj4 : j < 40
        · have hji : (j : Int) < 40 := by omega
          have HS := hid_of' (And.intro (hR.later (below_one _ (.cells #[.int .u8 85] 5))) (so_b wr 85))
          have HY := hid_of' (And.intro hA hC)
          clear hR hA hC
          go_upto_region 6 with (at_builtin; refine wpL_app (P := Tryz.prog) rfl _ _ 33 rfl 5 i0 _ 1 1 Tryz.underlying33 HI.out.1 HI.out.2.1 HI.out.2.2.1 HI.out.2.2.2 rfl rfl rfl HS.out.1 HS.out.2 (fun y hy => by rw [List.mem_singleton] at hy; subst hy; rfl) (by unfold maxLen; omega) (by omega) ?_; intro u6 w6 q1 q2 q3)
          have hs := HY.out.2.size
          have hC6 := (HY.out.2.later (below_one _ (.cells #[.int .u8 85] 5))).grown q2 (fun k hk => HY.out.1 k hk)
          have hA6 : At' w (.slice a n c) u6 := fun k hk => (q3 k hk).elim (fun q => HY.out.1 k q) (fun q => .inr (by rw [World.size_alloc] at q; omega))
          have HZ := hid_of' (And.intro q1 (And.intro hA6 hC6))
          clear q1 q2 q3 hC6 hA6
          go_wp2
          go_roundw
          case rel => exact ⟨j + 1, m + 1, _, by go_num, by omega, by omega, HZ.out.1, HZ.out.2.1, HZ.out.2.2⟩
          case measure => simp [intOf]; omega
        · have hji : ¬ (j : Int) < 40 := by omega
          have HY := hid_of' hC
          clear hR hA hC
          go_wp2
          go_end0
          exact ⟨⟨_, rfl⟩, HY.out⟩
end Go.Proofs.YteffpnjgchihpaaGreatDoor
