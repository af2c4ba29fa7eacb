
/-
  barrowkeep.SpoilActs: only the row's own block changes. barrowkeep.Refused: an error that is a Fault (of a Fault, ..) of one reason, held against the document's refusal.
-/
import Derived.Test.YtpkblfhkblllhaaGreatDoorRP45
import Derived.Test.YtpkblfhkblllhaaGreatDoorRP06
import Derived.Test.YtpkblfhkblllhaaGreatDoorRP35
import Derived.Test.YtpkblfhkblllhaaGreatDoorRP24
namespace Go.Proofs.YtpkblfhkblllhaaGreatDoor
open Go.RowKit Go.Extern.Stop Go.Stop Go.Extern
set_option maxRecDepth 100000

theorem act_built (z : Int) : Tryz.prog.built 76 [(1, .int .i64 z)] = some (acv ((0, 0, 0, 0), z, zero8)) := by kernel_rfl
theorem zero_actQ : (Tryz.prog.info? 76).bind (·.zero) = some (.agg (acv acZ)) := by kernel_rfl
set_option maxHeartbeats 1000000 in
theorem keepAct_is (i : Int) (hi : i = 1 ∨ i = 2) (w : World) :
    Calls Tryz.prog 32 #[.int .i64 i] w fun e w' => ∃ p : Pac, e = .returned (.agg (acv p)) ∧ p.2.2.length = 8 ∧ Below w.heap.size w w' := by
  have h0 := RowAt.new w (acv acZ) 76
  have b0 := below_one w (.cells (acv acZ) 76)
  have hw : wrap64 (-7 - i) = -7 - i := by unfold wrap64; rcases hi with rfl | rfl <;> rfl
  have hs : (Tryz.prog.info? 76).map (·.size) = some (acv ((0, 0, 0, 0), -7 - i, zero8)).size := by kernel_rfl
  go_enter Tryz.func32, Tryz.ntmps32
  go_wp2_with (first | (refine wpList_buildTo rfl 76 _ rfl _ rfl (acv ((0, 0, 0, 0), -7 - i, zero8)) (act_built _) ?_) | (refine wpList_store_row rfl 76 _ _ rfl w.heap.size (acv ((0, 0, 0, 0), -7 - i, zero8)) rfl rfl _ _ h0 hs rfl (acv_one _) ?_))
  exact bodyPost_ret (v := .agg (acv ((0, 0, 0, 0), -7 - i, zero8))) (results_cell_row rfl _ _ w.heap.size _ _ _ _ rfl (setRow_heap _ _ _ _ _ _ h0) Tryz.underlying76 rfl hs) rfl ⟨_, rfl, rfl, below_setRow b0 (Nat.le_refl _) _⟩
theorem Rw.over {e : TypeId} {size g n c : Nat} {xs : List Value} {w : World} (h : Rw e size (.slice (some ⟨g, 0, none⟩) n c) n xs w) (o : Nat) (ys : List Value) : ∃ xs', Rw e size (.slice (some ⟨g, 0, none⟩) n c) n xs' (w.setCells g o ys) := by
  rcases h.2 with ⟨hv, _⟩ | ⟨g', cap, cur, hv, hg, hnc, hm, hcs, _⟩
  · cases hv
  · cases hv
    refine ⟨(putA cur o ys).toList.take (n * size), ?_, .inr ⟨_, _, _, rfl, heap_setCells ys o _ _ hg, hnc, hm, by rw [putA_size]; exact hcs, rfl⟩⟩
    have : n * size ≤ c * size := Nat.mul_le_mul_right _ hnc
    rw [List.length_take, Array.length_toList, putA_size]
    omega
theorem Rw.thereQ {g n c k : Nat} {xs : List Value} {w : World} (h : Rw 76 13 (.slice (some ⟨g, 0, none⟩) n c) n xs w) (hk : k < n) : w.there g (k * 13) 13 := by
  rcases h.2 with ⟨hv, _⟩ | ⟨g', cap, cur, hv, hg, hnc, hm, hcs, _⟩
  · cases hv
  · cases hv
    exact act_there (t := 76) hg (by omega)
theorem grown_cellsQ (g : Nat) : ∀ (vs : List Value) (o : Nat) (w : World), Kept [g] w (w.setCells g o vs) := fun vs o w => kept_setCells vs o w
set_option maxHeartbeats 4000000 in
theorem spoilActs_is {w : World} {v : Value} {n : Nat} {xs : List Value} (h : Rw 76 13 v n xs w) (hn : n ≤ 1000000) (N : Nat) (hv : ∀ k, v.ownBlock = some k → N ≤ k) (hN : N ≤ w.heap.size) :
    Calls Tryz.prog 13 #[v] w fun e w' => (∃ z, e = .returned z) ∧ Ch (fun k => N ≤ k) w w' := by
  obtain ⟨i0, hi0, hz⟩ := Option.map_eq_some_iff.1 info_actQ
  simp only [Prod.mk.injEq] at hz
  have HI := hid_of' (And.intro hi0 hz)
  obtain ⟨a, c, rfl, _, _⟩ := h.form
  have H := hid_of' (And.intro h (And.intro hv (And.intro hN hn)))
  clear h hv hi0 hz
  go_enter Tryz.func13, Tryz.ntmps13
  go_wp2
  go_loopw [2] (fun kv wr => ∃ (k : Nat) (ys : List Value), kv = .int .i64 (k : Int) ∧ k ≤ n ∧ Rw 76 13 (.slice a n c) n ys wr ∧ Ch (fun k => N ≤ k) w wr) (fun kv _ => n - (intOf kv).toNat)
  case atStart => exact ⟨0, xs, rfl, by omega, H.out.1, Ch.refl _ _⟩
  case round =>
    obtain ⟨k, ys, rfl, hk, hR, hC⟩ := hrel
    by_cases hkl : k < n
    · have hki : (k : Int) < (n : Int) := by omega
      obtain ⟨G, rfl⟩ : ∃ G, a = some ⟨G, 0, none⟩ := by
        rcases hR.2 with ⟨q1, q2⟩ | ⟨g', cap, cur, q1, _⟩
        · omega
        · simp only [Value.slice.injEq] at q1
          exact ⟨g', q1.1⟩
      have HX := hid_of' (And.intro hR hC)
      have HA := hid_of' (keepAct_is 1 (.inl rfl) wr)
      clear hR hC
      go_upto_region 2 with (first
        | (go_at_call 32; refine HA.out.mono ?_; rintro e w3 ⟨p, rfl, hp8, hb3⟩; have hR3 := HX.out.1.later hb3; have th3 := hR3.thereQ hkl; have hC3 := HX.out.2.later hb3)
        | (refine wpList_store_mid rfl 76 _ _ rfl G (k * 13) (acv p) rfl rfl (by rw [show (acv p).size = 13 by simp [acv, acl_len hp8]]; exact th3) (acv_size hp8) (acv_one _) ?_))
      obtain ⟨zs, hR4⟩ := hR3.over (k * 13) (acv p).toList
      have hC4 := hC3.cells (S := fun k => N ≤ k) (g := G) (.inl (H.out.2.1 G rfl)) (acv p).toList (k * 13) _
      have HZ := hid_of' (And.intro hR4 hC4)
      clear hR4 hC4 hR3 hC3 th3 HX HA
      generalize w3.setCells G (k * 13) (acv p).toList = w4 at HZ ⊢
      go_wp2
      go_roundw
      case rel => exact ⟨k + 1, zs, by go_num, by omega, HZ.out.1, HZ.out.2⟩
      case measure => simp [intOf]; omega
    · have hki : ¬ (k : Int) < (n : Int) := by omega
      have HX := hid_of' (And.intro hR hC)
      clear hR hC
      go_wp2
      go_loopw [0, 3] (fun v9 jv wq => ∃ (j m : Nat) (zs : List Value), jv = .int .i64 (j : Int) ∧ j ≤ 40 ∧ m ≤ n + j ∧ Rw 76 13 v9 m zs wq ∧ (∀ k, v9.ownBlock = some k → N ≤ k) ∧ Ch (fun k => N ≤ k) w wq) (fun _ jv _ => 40 - (intOf jv).toNat)
      case atStart => exact ⟨0, n, ys, rfl, by omega, by omega, HX.out.1, H.out.2.1, HX.out.2⟩
      case round =>
        obtain ⟨j, m, zs, rfl, hj, hm, hR, hA, hC⟩ := hrel
        obtain ⟨za, zc, hv9, _, _⟩ := hR.form
        subst hv9
        by_cases hj4 : j < 40
        · have hji : (j : Int) < 40 := by omega
          have hrs := hC.size
          have hNw := H.out.2.2.1
          have hnl := H.out.2.2.2
          have HY := hid_of' (And.intro hA (And.intro hC hR))
          have HA := hid_of' (keepAct_is 2 (.inr rfl) wr)
          clear hR hA hC
          go_upto_region 6 with (first
            | (go_at_call 32; refine HA.out.mono ?_; rintro e w3 ⟨p, rfl, hp8, hb3⟩; have hR3 := (HY.out.2.2.later hb3).later (below_one _ (.cells (acv p) 76)); have hso := so_act w3 p hp8)
            | (refine wpL_oneA (p := p) rfl _ rfl rfl hp8 ?_)
            | (at_builtin; refine wpL_app (P := Tryz.prog) rfl _ _ 27 rfl 76 i0 _ 13 104 Tryz.underlying27 HI.out.1 HI.out.2.1 HI.out.2.2.1 HI.out.2.2.2 rfl rfl rfl hR3 hso (acl_one _) (by unfold maxLen; omega) (by omega) ?_; intro u6 w6 q1 q2 q3; obtain ⟨ua, uc, rfl, _, _⟩ := q1.form))
          have hC6 := ((HY.out.2.1.later hb3).later (below_one _ (.cells (acv p) 76))).go (grown_ch q2) (fun s e => .inl (HY.out.1 s e))
          have hsz3 := hb3.size
          have hA6 : ∀ k, (Value.slice ua (m + 1) uc).ownBlock = some k → N ≤ k := fun k hk => (q3 k hk).elim (fun q => HY.out.1 k q) (fun q => by rw [World.size_alloc] at q; omega)
          have HZ := hid_of' (And.intro q1 (And.intro hA6 hC6))
          clear q1 q2 q3 hC6 hA6 hR3 hso
          go_wp2
          go_roundw
          case rel => exact ⟨j + 1, m + 1, _, by go_num, by omega, by omega, HZ.out.1, HZ.out.2.1, HZ.out.2.2⟩
          case measure => simp [intOf]; omega
        · have hji : ¬ (j : Int) < 40 := by omega
          have HY := hid_of' hC
          clear hR hA hC
          go_wp2
          go_end0
          exact ⟨⟨_, rfl⟩, HY.out⟩
end Go.Proofs.YtpkblfhkblllhaaGreatDoor
namespace Go.Proofs.YtpkblfhkblllhaaGreatDoor
open Go.RowKit Go.Extern.Stop Go.Stop Go.Extern
set_option maxRecDepth 100000

/-- No error, and no refusal. -/
theorem refused_none (a a' : Option Addr) (n c n' c' : Nat) (w : World) :
    Calls Tryz.prog 10 #[.nilIface, .agg (nov 0 a n c a' n' c')] w fun e w' => e = .returned (.bool true) ∧ Below w.heap.size w w' := by
  unfold nov
  go_enter Tryz.func10, Tryz.ntmps10
  go_wp2
  go_ret
  exact ⟨rfl, below_one _ _⟩
/-- What fault.Code, Chain and Codes tell of an error, from a world on. -/
def Tells (b : Nat) (k : Nat) (ls : List Lnk) (w : World) : Prop :=
  (∀ x, Below w.heap.size w x → Calls Tryz.prog 26 #[.iface 98 (.pointer (some ⟨b, 0, none⟩))] x fun e w' => e = .returned (.int .i64 ((k : Int) + 1)) ∧ Below x.heap.size x w') ∧
  (∀ x, Below w.heap.size w x → Calls Tryz.prog 28 #[.iface 98 (.pointer (some ⟨b, 0, none⟩))] x fun e w' => ∃ r, e = .returned r ∧ SlAt w' r 3 ls.length (lcells ls) ∧ Below x.heap.size x w') ∧
  (∀ x, Below w.heap.size w x → Calls Tryz.prog 30 #[.iface 98 (.pointer (some ⟨b, 0, none⟩))] x fun e w' => ∃ r, e = .returned r ∧ SlAt w' r 1 1 (ints [(k : Int) + 1]) ∧ Below x.heap.size x w')
theorem tells_of {ad : Nat → Addr} {e : ErrT} {b k : Nat} {w : World} (L : Laid ad w) (hp : Plain e) (hS : ∀ x, Below w.heap.size w x → Spine ad x.heap.size x e) (hv : val ad e = .iface 98 (.pointer (some ⟨b, 0, none⟩))) (hne : e ≠ .none) (hc : cds e = [(k : Int) + 1]) (hd : deep e ≤ 100000) : Tells b k (chn e) w := by
  have hth : ∀ x, Below w.heap.size w x → Through ad e x := fun x hb => through_plain (L.below hb) e hp (hS x hb)
  refine ⟨fun x hb => ?_, fun x hb => ?_, fun x hb => ?_⟩
  · have := code_any (ad := ad) (w := x) e hne (hth x hb)
    rw [codeOf_ne hne, hc, hv] at this
    exact this
  · have := chain_plain (L.below hb) e hp (hS x hb) hd
    rw [hv] at this
    exact this.mono fun _ _ ⟨r, h1, h2, h3⟩ => ⟨r, h1, SlAt.of_owns h2, h3⟩
  · have hq : ThroughV (val ad e) (fst e) (cds e) x := hth x hb
    have := codes_any hq
    rw [hc, hv] at this
    exact this.mono fun _ _ ⟨r, h1, h2, h3⟩ => ⟨r, h1, SlAt.of_owns h2, h3⟩
set_option maxHeartbeats 2000000 in
theorem refused_err {b k : Nat} {ls : List Lnk} {w : World} (hF : Tells b k ls w) (hn : ls.length ≤ 1000000) {a a' : Option Addr} {c c' : Nat} (h1 : SlAt w (.slice a ls.length c) 3 ls.length (lcells ls)) (h2 : SlAt w (.slice a' 1 c') 1 1 (ints [(k : Int) + 1])) :
    Calls Tryz.prog 10 #[.iface 98 (.pointer (some ⟨b, 0, none⟩)), .agg (nov ((k : Int) + 1) a ls.length c a' 1 c')] w fun e w' => e = .returned (.bool true) ∧ Below w.heap.size w w' := by
  have HF := hid_of' hF
  have HS := hid_of' (And.intro True.intro (And.intro h1 h2))
  clear hF h1 h2
  have hnz : (((k : Int) + 1) == 0) = false := by rw [beq_eq_false_iff_ne]; omega
  have hse : (((k : Int) + 1) == ((k : Int) + 1)) = true := by simp
  have hN : RowAt w.heap.size (nov ((k : Int) + 1) a ls.length c a' 1 c') 37 (w.alloc (.cells (nov ((k : Int) + 1) a ls.length c a' 1 c') 37)) := RowAt.new w _ _
  have n0 : (nov ((k : Int) + 1) a ls.length c a' 1 c')[0]? = some (.int .i64 ((k : Int) + 1)) := rfl
  have hB := below_one w (.cells (nov ((k : Int) + 1) a ls.length c a' 1 c') 37)
  go_enter Tryz.func10, Tryz.ntmps10
  go_upto_region 3 with fail
  have c0 := hN.cls 0 _ n0
  refine wp_region_cls (by kernel_rfl) (by kernel_rfl) ?_
  repeat (first | go_big_quiet_skip | (go_big_quiet_want; first | (go_big_quiet_op; first | go_big_quiet_on | go_big_quiet_call ((go_at_call 26; exact cls_of (HF.out.1 _ (bgo hB (wOf_below _))))))))
  refine wpQuiet_nil ?_
  rintro w1 ⟨s1, e1⟩
  have hb1 := wOf_below s1
  rw [← e1] at hb1
  clear e1 s1
  replace hN := hN.later hb1
  replace hB := bgo hB hb1
  clear hb1
  clear c0 n0
  go_upto_region 5 with fail
  refine wp_region_tail 13 (by kernel_rfl) (fun j => if j = 5 then some true else none) (by kernel_rfl) (by kernel_rfl) (by decide) (fun i v x => match i with
    | 0 => v = .iface 98 (.pointer (some ⟨b, 0, none⟩))
    | 1 => SlAt x v 3 ls.length (lcells ls)
    | 2 => v = .pointer (some ⟨w.heap.size, 1, none⟩)
    | 3 => v = .slice a ls.length c
    | 6 => v = .iface 98 (.pointer (some ⟨b, 0, none⟩))
    | 7 => SlAt x v 1 1 (ints [(k : Int) + 1])
    | 8 => v = .pointer (some ⟨w.heap.size, 2, none⟩)
    | 9 => v = .slice a' 1 c'
    | _ => v = .bool true) (fun _ => false) ?_ ?_ ?_ ?_
  · intro j v x b hj hR
    by_cases e : j = 5
    · subst e; simp at hj; subst hj; exact hR
    · simp [e] at hj
  · intro i v x x' hR hb
    match i, hR with
    | 0, h | 2, h | 3, h | 4, h | 5, h | 6, h | 8, h | 9, h => exact h
    | 1, h => exact SlAt.below h hb
    | 7, h => exact SlAt.below h hb
    | n + 10, h => exact h
  · intro i o hi ho q x vals hX hdep hoth
    have t0 : q.tmps[0]? = some (.iface 98 (.pointer (some ⟨b, 0, none⟩))) := by rw [hoth 0 (by kernel_rfl)]; rfl
    have t3 : q.tmps[3]? = some (.pointer (some ⟨w.heap.size, 0, none⟩)) := by rw [hoth 3 (by kernel_rfl)]; rfl
    match i, hi, ho with
    | 0, _, ho =>
      simp only [List.getElem?_cons_zero, Option.some.injEq] at ho
      subst ho
      unfold Oper.wp
      simp [execOp, go_sem, t0]
      exact came _ rfl (Below.refl _ _) rfl (fun h => absurd h (by decide))
    | 1, _, ho =>
      simp only [List.getElem?_cons_succ, List.getElem?_cons_zero, Option.some.injEq] at ho
      subst ho
      obtain ⟨u0, e0⟩ := hdep ⟨0, .data⟩ (by simp) rfl _ 19 rfl rfl
      rw [show vals 0 = .iface 98 (.pointer (some ⟨b, 0, none⟩)) from e0] at u0
      unfold Oper.wp
      simp [go_sem, u0]
      refine (HF.out.2.1 _ (bgo hB hX)).mono ?_
      rintro e x1 ⟨r, rfl, h1, hb1⟩
      exact came _ rfl hb1 h1 (fun h => absurd h (by decide))
    | 2, _, ho =>
      simp only [List.getElem?_cons_succ, List.getElem?_cons_zero, Option.some.injEq] at ho
      subst ho
      unfold Oper.wp
      simp [execOp, go_sem, t3]
      exact came _ rfl (Below.refl _ _) rfl (fun h => absurd h (by decide))
    | 3, _, ho =>
      simp only [List.getElem?_cons_succ, List.getElem?_cons_zero, Option.some.injEq] at ho
      subst ho
      obtain ⟨u0, e0⟩ := hdep ⟨2, .data⟩ (by simp) rfl _ 21 rfl rfl
      rw [show vals 2 = .pointer (some ⟨w.heap.size, 1, none⟩) from e0] at u0
      have cc := (hN.later hX).cell 1
      unfold Oper.wp
      simp [execOp, go_sem, u0, cc, nov]
      exact came _ rfl (Below.refl _ _) rfl (fun h => absurd h (by decide))
    | 4, _, ho =>
      simp only [List.getElem?_cons_succ, List.getElem?_cons_zero, Option.some.injEq] at ho
      subst ho
      obtain ⟨u0, e0⟩ := hdep ⟨1, .data⟩ (by simp) rfl _ 20 rfl rfl
      obtain ⟨u1, e1⟩ := hdep ⟨3, .data⟩ (by simp) rfl _ 22 rfl rfl
      rw [show vals 3 = .slice a ls.length c from e1] at u1
      have e0' : SlAt x (vals 1) 3 ls.length (lcells ls) := e0
      have hs : SlAt x (.slice a ls.length c) 3 ls.length (lcells ls) := HS.out.2.1.below (bgo hB hX)
      unfold Oper.wp
      simp [go_sem, u0, u1]
      refine (links_eq (xs := ls) e0' hs hn).mono ?_
      rintro e x1 ⟨rfl, hb1⟩
      exact came _ rfl hb1 rfl (fun h => absurd h (by decide))
    | 5, _, ho =>
      simp only [List.getElem?_cons_succ, List.getElem?_cons_zero, Option.some.injEq] at ho
      subst ho
      obtain ⟨u0, e0⟩ := hdep ⟨4, .data⟩ (by simp) rfl _ 23 rfl rfl
      rw [show vals 4 = .bool true from e0] at u0
      unfold Oper.wp
      simp [execOp, go_sem, u0]
      exact came _ rfl (Below.refl _ _) rfl (fun h => absurd h (by decide))
    | 6, _, ho =>
      simp only [List.getElem?_cons_succ, List.getElem?_cons_zero, Option.some.injEq] at ho
      subst ho
      unfold Oper.wp
      simp [execOp, go_sem, t0]
      exact came _ rfl (Below.refl _ _) rfl (fun h => absurd h (by decide))
    | 7, _, ho =>
      simp only [List.getElem?_cons_succ, List.getElem?_cons_zero, Option.some.injEq] at ho
      subst ho
      obtain ⟨u0, e0⟩ := hdep ⟨6, .data⟩ (by simp) rfl _ 25 rfl rfl
      rw [show vals 6 = .iface 98 (.pointer (some ⟨b, 0, none⟩)) from e0] at u0
      unfold Oper.wp
      simp [go_sem, u0]
      refine (HF.out.2.2 _ (bgo hB hX)).mono ?_
      rintro e x1 ⟨r, rfl, h1, hb1⟩
      exact came _ rfl hb1 h1 (fun h => absurd h (by decide))
    | 8, _, ho =>
      simp only [List.getElem?_cons_succ, List.getElem?_cons_zero, Option.some.injEq] at ho
      subst ho
      unfold Oper.wp
      simp [execOp, go_sem, t3]
      exact came _ rfl (Below.refl _ _) rfl (fun h => absurd h (by decide))
    | 9, _, ho =>
      simp only [List.getElem?_cons_succ, List.getElem?_cons_zero, Option.some.injEq] at ho
      subst ho
      obtain ⟨u0, e0⟩ := hdep ⟨8, .data⟩ (by simp) rfl _ 27 rfl rfl
      rw [show vals 8 = .pointer (some ⟨w.heap.size, 2, none⟩) from e0] at u0
      have cc := (hN.later hX).cell 2
      unfold Oper.wp
      simp [execOp, go_sem, u0, cc, nov]
      exact came _ rfl (Below.refl _ _) rfl (fun h => absurd h (by decide))
    | 10, _, ho =>
      simp only [List.getElem?_cons_succ, List.getElem?_cons_zero, Option.some.injEq] at ho
      subst ho
      obtain ⟨u0, e0⟩ := hdep ⟨7, .data⟩ (by simp) rfl _ 26 rfl rfl
      obtain ⟨u1, e1⟩ := hdep ⟨9, .data⟩ (by simp) rfl _ 28 rfl rfl
      rw [show vals 9 = .slice a' 1 c' from e1] at u1
      have e0' : SlAt x (vals 7) 1 1 (ints [(k : Int) + 1]) := e0
      have hs : SlAt x (.slice a' 1 c') 1 1 (ints [(k : Int) + 1]) := HS.out.2.2.below (bgo hB hX)
      unfold Oper.wp
      simp [go_sem, u0, u1]
      refine (ints_eq (xs := [(k : Int) + 1]) e0' hs (by simp)).mono ?_
      rintro e x1 ⟨rfl, hb1⟩
      exact came _ rfl hb1 rfl (fun h => absurd h (by decide))
    | 11, _, ho =>
      simp only [List.getElem?_cons_succ, List.getElem?_cons_zero, Option.some.injEq] at ho
      subst ho
      obtain ⟨u0, e0⟩ := hdep ⟨5, .data⟩ (by simp) rfl _ 24 rfl rfl
      obtain ⟨u1, e1⟩ := hdep ⟨10, .data⟩ (by simp) rfl _ 29 rfl rfl
      rw [show vals 5 = .bool true from e0] at u0
      rw [show vals 10 = .bool true from e1] at u1
      unfold Oper.wp
      simp [execOp, go_sem, u0, u1]
      exact came _ rfl (Below.refl _ _) rfl (fun h => absurd h (by decide))
    | 12, _, ho =>
      simp only [List.getElem?_cons_succ, List.getElem?_cons_zero, Option.some.injEq] at ho
      subst ho
      obtain ⟨u0, e0⟩ := hdep ⟨11, .data⟩ (by simp) rfl _ 30 rfl rfl
      rw [show vals 11 = .bool true from e0] at u0
      unfold Oper.wp
      simp [execOp, go_sem, u0]
      exact came _ rfl (Below.refl _ _) rfl (fun h => absurd h (by decide))
  · intro vals x hX hR _
    have e4 : vals 12 = .bool true := hR 12 (by decide)
    simp only [List.drop, List.take, putAll, List.setIfInBounds_toArray, List.set_cons_succ, List.set_cons_zero, e4]
    go_wp2
    go_ret
    exact ⟨rfl, bgo hB hX⟩
end Go.Proofs.YtpkblfhkblllhaaGreatDoor
