
/-
  barrowlaw10.got; barrowkeep.IntactBytes. barrowlaw10's same.
-/
import Derived.Test.YtdojjhhnciaegaaDoorZb44
namespace Go.Proofs.YtdojjhhnciaegaaDoor
open Go.RowKit Go.Extern.Stop Go.Stop Go.Extern
set_option maxRecDepth 100000

theorem NoR.form {M : Nat} {o : Rf} {v : Value} {w : World} (h : NoR M o v w) : ∃ q p n c p' n' c', v = .agg (nov q p n c p' n' c') := by
  match o, h with
  | none, h => exact ⟨_, _, _, _, _, _, _, h⟩
  | some (_, _, _), ⟨_, _, h1, _⟩ => exact ⟨_, _, _, _, _, _, _, h1⟩
theorem row_new3 (w : World) (o o' : Obj) (cs : Array Value) (t : TypeId) : RowAt (w.heap.size + 2) cs t (((w.alloc o).alloc o').alloc (.cells cs t)) := by
  have := row_new ((w.alloc o).alloc o') cs t
  rwa [World.size_alloc, World.size_alloc] at this
set_option maxHeartbeats 4000000 in
theorem got_is {ad : Nat → Addr} {w : World} (L : Laid ad w) {K : Nat → Prop} {p p2 : Pc} {q : Pl} {o : Rf} {M M' : Nat} {ev nv : Value} (h : PcIs K p q w) (h2 : PcR p2 q w) (he : ErrR ad M o ev w) (hn : NoR M' o nv w) :
    Calls Tryd.prog 29 #[.agg (pcv p), ev, .agg (pcv p2), nv] w fun e w' => e = .returned (.bool true) ∧ Ch (fun k => p.b.ownBlock = some k) w w' := by
  have HP1 : p.b.oneCell' = true := h.b.sl.one
  have HP2 : p2.b.oneCell' = true := h2.b.one
  obtain ⟨c0, a1, n1, m1, a2, n2, m2, hnv⟩ := hn.form
  subst hnv
  have hb3 : Below w.heap.size w (((w.alloc (.cells (pcv p) 65)).alloc (.cells (pcv p2) 65)).alloc (.cells (nov c0 a1 n1 m1 a2 n2 m2) 32)) := bgo (below_two w _ _) (below_one _ _)
  have r4 := ((row_new w (pcv p) 65).later (below_one _ (.cells (pcv p2) 65))).later (below_one _ (.cells (nov c0 a1 n1 m1 a2 n2 m2) 32))
  have r6 := (row_new2 w (.cells (pcv p) 65) (pcv p2) 65).later (below_one _ (.cells (nov c0 a1 n1 m1 a2 n2 m2) 32))
  have r7 := row_new3 w (.cells (pcv p) 65) (.cells (pcv p2) 65) (nov c0 a1 n1 m1 a2 n2 m2) 32
  go_enter Tryd.func29, Tryd.ntmps29
  go_upto_region 1 with fail
  generalize (((w.alloc (.cells (pcv p) 65)).alloc (.cells (pcv p2) 65)).alloc (.cells (nov c0 a1 n1 m1 a2 n2 m2) 32)) = W at hb3 r4 r6 r7 ⊢
  have HE := hid_of' (parcel_eq (h.r.later hb3) (h2.later hb3))
  have HRf := hid_of' (fun (x : World) (hx : Below W.heap.size W x) => refused_is (L.below (bgo hb3 hx)) (he.later (bgo hb3 hx)) (hn.later (bgo hb3 hx)))
  have H := hid_of' (And.intro (h.later hb3) (And.intro r4 (And.intro r6 (And.intro r7 hb3))))
  clear L h h2 he hn hb3 r4 r6 r7
  go_upto_region 2 with (first
    | (refine wpL_loadP (p := p) rfl _ rfl rfl H.out.2.1.in ?_)
    | (refine wpL_loadP (p := p2) rfl _ rfl rfl H.out.2.2.1.in ?_)
    | (go_at_call 64; (with_reducible refine HE.out.mono ?_); rintro e x1 ⟨rfl, b1⟩; have HB1 := hid_of' b1; clear b1 HE)
    | (refine opw_loadNo _ rfl rfl (H.out.2.2.2.1.later HB1.out) rfl ?_)
    | (go_at_call 7; (with_reducible refine (HRf.out _ HB1.out).mono ?_); rintro e x2 ⟨rfl, b2⟩; have HB2 := hid_of' (bgo HB1.out b2); clear b2 HRf))
  have c3 : x2.cell? ⟨w.heap.size, 3, none⟩ = some p.b := (H.out.2.1.later HB2.out).cellIs 3 rfl
  have HSp := hid_of' (spoilBytes_is (H.out.1.b.1.later HB2.out) (fun u hu => by obtain ⟨z, _, rfl⟩ := List.mem_map.1 hu; exact ⟨_, rfl⟩) H.out.1.le)
  obtain ⟨ba, bc, hbv, _, _⟩ := H.out.1.b.1.form
  obtain ⟨bn, hbn⟩ : ∃ bn, q.bs.length = bn := ⟨_, rfl⟩
  rw [hbn] at hbv
  have HBV := hid_of' hbv
  rw [hbv] at c3 HSp
  clear hbv hbn
  go_wp2_with (go_at_call 65; refine HSp.out.mono ?_; rintro e x3 ⟨⟨z, rfl⟩, hc3⟩; clear HSp)
  go_ret
  refine ⟨rfl, ?_⟩
  have hc : Ch (fun k => p.b.ownBlock = some k) x2 x3 := by rw [HBV.out]; exact hc3
  exact (Ch.of (bgo H.out.2.2.2.2 HB2.out)).go hc (fun s q => .inl q)
theorem wpL_convB {ops : Array Oper} {rest : List Oper} {o : Oper} {A : Act} {w : World} {Q : Exit → Act → World → Prop} (hgd : o.guard = none) (x : Operand) (ho : o.op = .convert 41 9 x) {v : Value} {s : ByteArray} (hx : A.eval x = v) (hrun : (convert 41 9 v).run Tryd.prog w = .ok (.string s) w)
    (k : wpList Tryd.prog ops Q rest (A.put o.dst (.string s)) w) : wpList Tryd.prog ops Q (o :: rest) A w := by
  refine wpList_plain hgd fun _ hK => ?_
  unfold Oper.wp execOp
  simp only [ho, hx, Sem.run_bind, hrun, Result.andThen]
  exact hK _ _ k
/-- The bytes of the four marks. -/
def mk4b : List UInt8 := [201, 202, 203, 204]
theorem mk4_is : mk4 = Lib.byteCells mk4b := rfl
set_option maxHeartbeats 4000000 in
theorem intact_is {w : World} {G c : Nat} {v : Value} {bs : List UInt8} (h : Rw 5 1 (.slice (some ⟨G, 0, none⟩) (bs.length + 4) c) (bs.length + 4) (Lib.byteCells bs ++ mk4) w) (hb : SlB w v bs) (hl : bs.length ≤ 1000) :
    Calls Tryd.prog 27 #[.slice (some ⟨G, 0, none⟩) bs.length c, v] w fun e w' => e = .returned (.bool true) ∧ Ch (fun k => k = G) w w' := by
  obtain ⟨va, vc, rfl⟩ := hb.form
  obtain ⟨N, hN⟩ : ∃ N, bs.length = N := ⟨_, rfl⟩
  obtain ⟨M, hM⟩ : ∃ M, M = N + 4 := ⟨_, rfl⟩
  have hcap : M ≤ c := by
    obtain ⟨a', c', e, h1, _⟩ := h.form
    simp only [Value.slice.injEq] at e
    omega
  have hbl : BsAt (fun _ => True) (.slice (some ⟨G, 0, none⟩) M c) (bs ++ mk4b) w := by
    refine ⟨?_, fun _ _ => trivial⟩
    have e1 : (bs ++ mk4b).length = M := by rw [List.length_append, hN, hM]; rfl
    have e2 : Lib.byteCells (bs ++ mk4b) = Lib.byteCells bs ++ mk4 := by rw [mk4_is]; simp [Lib.byteCells]
    rw [e1, e2]
    rw [hN, ← hM] at h
    exact h
  have hc1 : ∀ (s : Unit), (convert 41 9 (.slice (some ⟨G, 0, none⟩) M c)).run Tryd.prog w = .ok (.string ⟨(bs ++ mk4b).toArray⟩) w := fun _ => by
    have e1 : (bs ++ mk4b).length = M := by rw [List.length_append, hN, hM]; rfl
    have := hbl.sl
    rw [← e1] at this ⊢
    exact conv_all this
  have hc2 : ∀ (s : Unit), (convert 41 9 (.slice va N vc)).run Tryd.prog w = .ok (.string ⟨bs.toArray⟩) w := fun _ => by
    rw [← hN]
    exact conv_all hb
  have HC1 := hid_of' (hc1 ())
  have HC2 := hid_of' (hc2 ())
  have H := hid_of' hbl
  have hMi : IntKind.i64.wrap ((N : Int) + 4) = (M : Int) := by rw [IntKind.wrap_i64]; omega
  have hMw : wrap64 ((N : Int) + 4) = (M : Int) := by unfold wrap64; omega
  have k1 : (0 : Int) ≤ (M : Int) := by omega
  have k2 : (M : Int) ≤ (c : Int) := by omega
  have hM9 : M ≤ 1004 := by omega
  have hc0 : ¬ c = 0 := by omega
  rw [hN]
  have hs : (⟨(bs ++ mk4b).toArray⟩ : ByteArray) = ⟨bs.toArray⟩ ++ ⟨#[201, 202, 203, 204]⟩ := by
    apply ByteArray.ext
    simp [mk4b]
  rw [hs] at HC1
  have hlen : ¬ 9223372036854775807 < bs.length + 4 := by omega
  clear h hb hbl hc1 hc2 hs hN hM hl
  go_enter Tryd.func27, Tryd.ntmps27
  go_wp2_with (first | (refine wpL_convB rfl (.tmp 13) rfl rfl HC1.out ?_) | (refine wpL_convB rfl (.tmp 15) rfl rfl HC2.out ?_))
  clear HC1 HC2 hMi hMw k1 k2 hlen
  go_loopw [7] (fun kv wr => ∃ (k : Nat) (ys : List Value), kv = .int .i64 (k : Int) ∧ k ≤ M ∧ Rw 5 1 (.slice (some ⟨G, 0, none⟩) M c) M ys wr ∧ u8s ys ∧ Ch (fun k => k = G) w wr) (fun kv _ => M - (intOf kv).toNat)
  case atStart =>
    refine ⟨0, Lib.byteCells (bs ++ mk4b), rfl, by omega, ?_, fun u hu => ?_, Ch.refl _ _⟩
    · have h := H.out.1
      obtain ⟨_, _, e, _⟩ := h.form
      simp only [Value.slice.injEq] at e
      rw [← e.2.1] at h
      exact h
    · obtain ⟨z, _, rfl⟩ := List.mem_map.1 hu
      exact ⟨_, rfl⟩
  case round =>
    obtain ⟨k, ys, rfl, hk, hR, hu, hC⟩ := hrel
    by_cases hkl : k < M
    · have hki : (k : Int) < (M : Int) := by omega
      have hyl : ys.length = M := by have := hR.1; omega
      obtain ⟨y, hy⟩ : ∃ y, ys[k]? = some y := ⟨_, List.getElem?_eq_getElem (by omega)⟩
      obtain ⟨z, rfl⟩ := hu y (List.mem_of_getElem? hy)
      have hat := rw_at1 hR hy
      have m1 := hat.1
      have m2 := hat.2
      have HX := hid_of' (And.intro hR (And.intro hu hC))
      clear hR hC hat hy hyl hu
      go_wp2
      go_roundw
      case rel => exact ⟨k + 1, ys.set k _, by go_num, by omega, rw_set1 HX.out.1 k _, HX.out.2.1.set k _, Ch.set (p := ⟨G, k, none⟩) HX.out.2.2 (.inl rfl) _⟩
      case measure => simp [intOf]; omega
    · have hki : ¬ (k : Int) < (M : Int) := by omega
      have HX := hid_of' hC
      clear hR hC
      go_wp2
      go_ret
      exact ⟨rfl, HX.out⟩
end Go.Proofs.YtdojjhhnciaegaaDoor
namespace Go.Proofs.YtdojjhhnciaegaaDoor
open Go.RowKit Go.Extern.Stop Go.Stop Go.Extern
set_option maxRecDepth 100000

theorem PrAt.ch {M P B R : Nat} {vb vr : Value} {g gr : Bg} {S : Nat → Prop} {w w' : World} (h : PrAt M P B R vb vr g gr w) (c : Ch S w w') (hS : ∀ k, S k → w.heap.size ≤ k) : PrAt M P B R vb vr g gr w' := h.later (c.none (fun s hs q => by have := hS s q; omega))
set_option maxHeartbeats 4000000 in
theorem same_ok {M P B R : Nat} {vb vr : Value} {g : Bg} {w : World} (h : PrAt M P B R vb vr g g w) :
    Calls Tryd.prog 11 #[.pointer (some ⟨P, 0, none⟩)] w fun e w' => e = .returned (.bool true) ∧ Below w.heap.size w w' := by
  obtain ⟨ra, rc, rfl⟩ := h.r.slice
  have hl : g.l.length ≤ 4096 := by have := h.b.room; have := h.b.most1; omega
  have c0 := h.p.cellIs 0 rfl
  have H := hid_of' h
  have HC := hid_of' (counts_is h.b)
  obtain ⟨N, hN⟩ : ∃ N, g.l.length = N := ⟨_, rfl⟩
  have HL := hid_of' (And.intro hN hl)
  have HLL := hid_of' (show g.l.length ≤ 1000000 by omega)
  clear h hl
  go_enter Tryd.func11, Tryd.ntmps11
  go_upto_region 2 with (go_at_call 43; refine HC.out.mono ?_; rintro e wr ⟨rfl, hb1⟩; clear HC)
  clear c0
  have H1 := hid_of' (H.out.later hb1)
  have HB1 := hid_of' hb1
  have HLn := hid_of' (fun (x : World) (hx : Below wr.heap.size wr x) => len_is (H1.out.b.later hx))
  rw [hN] at HLn
  have rr := H1.out.r.lies
  rw [hN] at rr
  have p0 := H1.out.p.cls 0 _ rfl
  have p1 := H1.out.p.cls 1 _ rfl
  have r2 := rr.cls 2 _ rfl
  have r3 := rr.cls 3 _ rfl
  have r4 := rr.cls 4 _ rfl
  have r5 := rr.cls 5 _ rfl
  have r6 := rr.cls 6 _ rfl
  have hB := Below.refl wr.heap.size wr
  clear hb1 rr hN
  refine wp_region_cls (by kernel_rfl) (by kernel_rfl) ?_
  repeat (first | go_big_quiet_skip | (go_big_quiet_want; first | (go_big_quiet_op; first | go_big_quiet_on | go_big_quiet_call ((go_at_call 10; exact cls_of_same (HLn.out _ (wOf_below _)))))))
  refine wpQuiet_nil ?_
  rintro w1 ⟨s1, e1⟩
  have hb1 := wOf_below s1
  rw [← e1] at hb1
  clear e1 s1
  replace hB := bgo hB hb1
  clear hb1
  clear p0 p1 r2 r3 r4 r5 r6 HLn
  have H2 := hid_of' (H1.out.later hB)
  have HB2 := hid_of' (bgo HB1.out hB)
  clear hB H1 HB1
  have c0 := H2.out.p.cellIs 0 rfl
  have HA := hid_of' (all_d H2.out.b)
  go_upto_region 5 with (go_at_call 44; refine HA.out.mono ?_; rintro e w3 ⟨u, qs, rfl, hu1, hu2, hu3, hu4, hb3⟩; clear HA)
  clear c0
  obtain ⟨a1, c1, rfl, _, _⟩ := hu1.form
  rw [HL.out.1] at hu1 hu4 ⊢
  have H3 := hid_of' (H2.out.later hb3)
  have HU := hid_of' (And.intro hu1 (And.intro hu2 (And.intro hu3 (And.intro hu4 hb3))))
  have hq : SlQ w3 (.slice a1 N c1) g.l := by
    have : PRow (fun k => w1.heap.size ≤ k) (.slice a1 N c1) g.l w3 := ⟨qs, by rw [HL.out.1]; exact hu1, hu2⟩
    exact this.q
  have hrq : SlQ w3 (.slice ra N rc) g.l := by
    have := H3.out.r.row.q
    rw [HL.out.1] at this
    exact this
  have HPe := hid_of' (parcels_eq hq hrq HLL.out)
  have p1 := H3.out.p.cellIs 1 rfl
  have r2 := H3.out.r.lies.cellIs 2 rfl
  rw [HL.out.1] at r2
  clear hu1 hu2 hu3 hu4 hb3 hq hrq
  go_upto_region 6 with (go_at_call 45; (with_reducible refine HPe.out.mono ?_); rintro e w4 ⟨rfl, hb4⟩; clear HPe)
  clear p1 r2
  have H3b := hid_of' (H3.out.later hb4)
  have HSp := hid_of' (spoilParcels_is (l := g.l) (N := w1.heap.size) (by rw [HL.out.1]; exact HU.out.1.later hb4) (HU.out.2.1.later hb4) HU.out.2.2.1 HU.out.2.2.2.1 (bgo HU.out.2.2.2.2 hb4).size HL.out.2)
  have HB4 := hid_of' (bgo HU.out.2.2.2.2 hb4)
  clear hb4
  go_upto_region 7 with (go_at_call 46; refine HSp.out.mono ?_; rintro e w5 ⟨⟨z, rfl⟩, hc5⟩; clear HSp)
  have hb5 : Below w1.heap.size w1 w5 := HB4.out.trans (hc5.below (fun s hs q => by omega) HB4.out.size)
  have H4 := hid_of' (H2.out.later hb5)
  have HB5 := hid_of' (bgo HB2.out hb5)
  have hrl := H4.out.r.lies
  rw [HL.out.1] at hrl
  have HRL := hid_of' hrl
  have HRQ := hid_of' (fun (X : World) (hX : Below w5.heap.size w5 X) => (by have := (H4.out.r.row.later hX).q; rw [HL.out.1] at this; exact this : SlQ X (.slice ra N rc) g.l))
  clear hc5 hb5 hrl
  refine wp_region_tail 17 (by kernel_rfl) (fun j => match j with | 1 => some true | _ => none) (by kernel_rfl) (by kernel_rfl) (by decide) (fun ii v X => match ii with
    | 0 => v = .bool true
    | 1 => v = .bool true
    | 2 => v = .pointer (some ⟨P, 0, none⟩)
    | 3 => v = .pointer (some ⟨P, 0, none⟩)
    | 4 => v = .pointer (some ⟨P, 0, none⟩)
    | 5 => v = .pointer (some ⟨B, 0, none⟩)
    | 6 => PRow (fun _ => True) v g.l X
    | 7 => v = .pointer (some ⟨P, 0, none⟩)
    | 8 => v = .pointer (some ⟨P, 0, none⟩)
    | 9 => v = .pointer (some ⟨P, 1, none⟩)
    | 10 => v = .pointer (some ⟨R, 0, none⟩)
    | 11 => v = .pointer (some ⟨R, 0, none⟩)
    | 12 => v = .pointer (some ⟨R, 2, none⟩)
    | 13 => v = .slice ra N rc
    | 14 => v = .bool true
    | 15 => v = .bool true
    | 16 => v = .bool true
    | _ => True) (fun _ => false) (fun j v x b h hR => by
      match j, h, hR with
      | 1, h, hR => cases h; exact hR
      | 0, h, _ | 2, h, _ | 3, h, _ | 4, h, _ | 5, h, _ | 6, h, _ | 7, h, _ | 8, h, _ | 9, h, _ | 10, h, _ | 11, h, _ | 12, h, _ | 13, h, _ | 14, h, _ | 15, h, _ | 16, h, _ => cases h
      | m + 17, h, _ => cases h) ?_ ?_ ?_
  · intro ii v X X' hR hb
    match ii, hR with
    | 0, h => exact h
    | 1, h => exact h
    | 2, h => exact h
    | 3, h => exact h
    | 4, h => exact h
    | 5, h => exact h
    | 6, h => exact h.later hb
    | 7, h => exact h
    | 8, h => exact h
    | 9, h => exact h
    | 10, h => exact h
    | 11, h => exact h
    | 12, h => exact h
    | 13, h => exact h
    | 14, h => exact h
    | 15, h => exact h
    | 16, h => exact h
    | m + 17, h => exact h
  · intro ii o hi ho q X vals hX hdep hoth
    have t0 : q.tmps[0]? = some (.pointer (some ⟨P, 0, none⟩)) := by rw [hoth 0 (by kernel_rfl)]; rfl
    have t8 : q.tmps[8]? = some (.bool true) := by rw [hoth 8 (by kernel_rfl)]; rfl
    match ii, hi, ho with
    | 0, _, ho =>
      simp only [List.getElem?_cons_zero, Option.some.injEq] at ho
      subst ho
      unfold Oper.wp
      simp [execOp, go_sem, t8]
      exact came _ rfl (Below.refl _ _) rfl (fun h => absurd h (by decide))
    | 1, _, ho =>
      simp only [List.getElem?_cons_succ, List.getElem?_cons_zero, Option.some.injEq] at ho
      subst ho
      obtain ⟨u0, e0⟩ := hdep ⟨0, .data⟩ (by simp) rfl _ 93 rfl rfl
      rw [show vals 0 = .bool true from e0] at u0
      unfold Oper.wp
      simp [execOp, go_sem, u0]
      exact came _ rfl (Below.refl _ _) rfl (fun h => absurd h (by decide))
    | 2, _, ho =>
      simp only [List.getElem?_cons_succ, List.getElem?_cons_zero, Option.some.injEq] at ho
      subst ho
      unfold Oper.wp
      simp [execOp, go_sem, t0]
      exact came _ rfl (Below.refl _ _) rfl (fun h => absurd h (by decide))
    | 3, _, ho =>
      simp only [List.getElem?_cons_succ, List.getElem?_cons_zero, Option.some.injEq] at ho
      subst ho
      obtain ⟨u2, e2⟩ := hdep ⟨2, .data⟩ (by simp) rfl _ 95 rfl rfl
      rw [show vals 2 = .pointer (some ⟨P, 0, none⟩) from e2] at u2
      unfold Oper.wp
      simp [execOp, go_sem, u2]
      exact came _ rfl (Below.refl _ _) rfl (fun h => absurd h (by decide))
    | 4, _, ho =>
      simp only [List.getElem?_cons_succ, List.getElem?_cons_zero, Option.some.injEq] at ho
      subst ho
      obtain ⟨u3, e3⟩ := hdep ⟨3, .data⟩ (by simp) rfl _ 96 rfl rfl
      rw [show vals 3 = .pointer (some ⟨P, 0, none⟩) from e3] at u3
      unfold Oper.wp
      simp [execOp, go_sem, u3]
      exact came _ rfl (Below.refl _ _) rfl (fun h => absurd h (by decide))
    | 5, _, ho =>
      simp only [List.getElem?_cons_succ, List.getElem?_cons_zero, Option.some.injEq] at ho
      subst ho
      obtain ⟨u4, e4⟩ := hdep ⟨4, .data⟩ (by simp) rfl _ 97 rfl rfl
      rw [show vals 4 = .pointer (some ⟨P, 0, none⟩) from e4] at u4
      have cc : X.cell? ⟨P, 0, none⟩ = some (.pointer (some ⟨B, 0, none⟩)) := (PrAt.later H4.out hX).p.cellIs 0 rfl
      unfold Oper.wp
      simp [execOp, go_sem, u4, cc]
      exact came _ rfl (Below.refl _ _) rfl (fun h => absurd h (by decide))
    | 6, _, ho =>
      simp only [List.getElem?_cons_succ, List.getElem?_cons_zero, Option.some.injEq] at ho
      subst ho
      obtain ⟨u5, e5⟩ := hdep ⟨5, .data⟩ (by simp) rfl _ 98 rfl rfl
      rw [show vals 5 = .pointer (some ⟨B, 0, none⟩) from e5] at u5
      unfold Oper.wp
      simp [go_sem, u5]
      refine (all_is (PrAt.later H4.out hX).b).mono ?_
      rintro r X1 ⟨v1, rfl, ho, _, hb1⟩
      exact came _ rfl hb1 (ho.mono (fun _ _ _ => trivial)) (fun h => absurd h (by decide))
    | 7, _, ho =>
      simp only [List.getElem?_cons_succ, List.getElem?_cons_zero, Option.some.injEq] at ho
      subst ho
      unfold Oper.wp
      simp [execOp, go_sem, t0]
      exact came _ rfl (Below.refl _ _) rfl (fun h => absurd h (by decide))
    | 8, _, ho =>
      simp only [List.getElem?_cons_succ, List.getElem?_cons_zero, Option.some.injEq] at ho
      subst ho
      obtain ⟨u7, e7⟩ := hdep ⟨7, .data⟩ (by simp) rfl _ 100 rfl rfl
      rw [show vals 7 = .pointer (some ⟨P, 0, none⟩) from e7] at u7
      unfold Oper.wp
      simp [execOp, go_sem, u7]
      exact came _ rfl (Below.refl _ _) rfl (fun h => absurd h (by decide))
    | 9, _, ho =>
      simp only [List.getElem?_cons_succ, List.getElem?_cons_zero, Option.some.injEq] at ho
      subst ho
      obtain ⟨u8, e8⟩ := hdep ⟨8, .data⟩ (by simp) rfl _ 101 rfl rfl
      rw [show vals 8 = .pointer (some ⟨P, 0, none⟩) from e8] at u8
      unfold Oper.wp
      simp [execOp, go_sem, u8]
      exact came _ rfl (Below.refl _ _) rfl (fun h => absurd h (by decide))
    | 10, _, ho =>
      simp only [List.getElem?_cons_succ, List.getElem?_cons_zero, Option.some.injEq] at ho
      subst ho
      obtain ⟨u9, e9⟩ := hdep ⟨9, .data⟩ (by simp) rfl _ 102 rfl rfl
      rw [show vals 9 = .pointer (some ⟨P, 1, none⟩) from e9] at u9
      have cc : X.cell? ⟨P, 1, none⟩ = some (.pointer (some ⟨R, 0, none⟩)) := (PrAt.later H4.out hX).p.cellIs 1 rfl
      unfold Oper.wp
      simp [execOp, go_sem, u9, cc]
      exact came _ rfl (Below.refl _ _) rfl (fun h => absurd h (by decide))
    | 11, _, ho =>
      simp only [List.getElem?_cons_succ, List.getElem?_cons_zero, Option.some.injEq] at ho
      subst ho
      obtain ⟨u10, e10⟩ := hdep ⟨10, .data⟩ (by simp) rfl _ 103 rfl rfl
      rw [show vals 10 = .pointer (some ⟨R, 0, none⟩) from e10] at u10
      unfold Oper.wp
      simp [execOp, go_sem, u10]
      exact came _ rfl (Below.refl _ _) rfl (fun h => absurd h (by decide))
    | 12, _, ho =>
      simp only [List.getElem?_cons_succ, List.getElem?_cons_zero, Option.some.injEq] at ho
      subst ho
      obtain ⟨u11, e11⟩ := hdep ⟨11, .data⟩ (by simp) rfl _ 104 rfl rfl
      rw [show vals 11 = .pointer (some ⟨R, 0, none⟩) from e11] at u11
      unfold Oper.wp
      simp [execOp, go_sem, u11]
      exact came _ rfl (Below.refl _ _) rfl (fun h => absurd h (by decide))
    | 13, _, ho =>
      simp only [List.getElem?_cons_succ, List.getElem?_cons_zero, Option.some.injEq] at ho
      subst ho
      obtain ⟨u12, e12⟩ := hdep ⟨12, .data⟩ (by simp) rfl _ 105 rfl rfl
      rw [show vals 12 = .pointer (some ⟨R, 2, none⟩) from e12] at u12
      have cc : X.cell? ⟨R, 2, none⟩ = some (.slice ra N rc) := (HRL.out.later hX).cellIs 2 rfl
      unfold Oper.wp
      simp [execOp, go_sem, u12, cc]
      exact came _ rfl (Below.refl _ _) rfl (fun h => absurd h (by decide))
    | 14, _, ho =>
      simp only [List.getElem?_cons_succ, List.getElem?_cons_zero, Option.some.injEq] at ho
      subst ho
      obtain ⟨u6, e6⟩ := hdep ⟨6, .data⟩ (by simp) rfl _ 99 rfl rfl
      obtain ⟨u13, e13⟩ := hdep ⟨13, .data⟩ (by simp) rfl _ 106 rfl rfl
      rw [show vals 13 = .slice ra N rc from e13] at u13
      unfold Oper.wp
      simp [go_sem, u6, u13]
      refine (parcels_eq (PRow.q (show PRow (fun _ => True) (vals 6) g.l X from e6)) (HRQ.out X hX) HLL.out).mono ?_
      rintro r x1 ⟨rfl, hb1⟩
      exact came _ rfl hb1 rfl (fun h => absurd h (by decide))
    | 15, _, ho =>
      simp only [List.getElem?_cons_succ, List.getElem?_cons_zero, Option.some.injEq] at ho
      subst ho
      obtain ⟨u1, e1⟩ := hdep ⟨1, .data⟩ (by simp) rfl _ 94 rfl rfl
      rw [show vals 1 = .bool true from e1] at u1
      obtain ⟨u14, e14⟩ := hdep ⟨14, .data⟩ (by simp) rfl _ 107 rfl rfl
      rw [show vals 14 = .bool true from e14] at u14
      unfold Oper.wp
      simp [execOp, go_sem, u1, u14]
      exact came _ rfl (Below.refl _ _) rfl (fun h => absurd h (by decide))
    | 16, _, ho =>
      simp only [List.getElem?_cons_succ, List.getElem?_cons_zero, Option.some.injEq] at ho
      subst ho
      obtain ⟨u15, e15⟩ := hdep ⟨15, .data⟩ (by simp) rfl _ 108 rfl rfl
      rw [show vals 15 = .bool true from e15] at u15
      unfold Oper.wp
      simp [execOp, go_sem, u15]
      exact came _ rfl (Below.refl _ _) rfl (fun h => absurd h (by decide))
    | m + 17, hi, _ => exact absurd hi (by omega)
  · intro vals X5 hX hR _
    have e16 : vals 16 = .bool true := hR 16 (by decide)
    have HBY := hid_of' (bgo HB5.out hX)
    clear hR hX
    simp only [List.drop, List.take, putAll, List.setIfInBounds_toArray, List.set_cons_succ, List.set_cons_zero, e16]
    clear e16
    go_wp2
    go_ret
    exact ⟨rfl, HBY.out⟩
end Go.Proofs.YtdojjhhnciaegaaDoor
