
/-
  barrowref07.Apply: what the document makes of an operation.
-/
import Derived.Test.YtjalehlmldlooaaGreatDoorZap46
namespace Go.Proofs.YtjalehlmldlooaaGreatDoor
open Go.RowKit Go.Extern.Stop Go.Stop Go.Extern
set_option maxRecDepth 100000

theorem wpL_loadNo {ops : Array Oper} {rest : List Oper} {o : Oper} {A : Act} {w : World} {Q : Exit → Act → World → Prop} (hgd : o.guard = none) (x : Operand) (ho : o.op = .load 36 x) {b : Nat} (hx : A.eval x = .pointer (some ⟨b, 0, none⟩)) {cs : Array Value} (h : RowAt b cs 36 w) (hs : cs.size = 3) (k : wpList Tryz.prog ops Q rest (A.put o.dst (.agg cs)) w) : wpList Tryz.prog ops Q (o :: rest) A w :=
  wpList_plain hgd fun _ hK => by
    have hi : (Tryz.prog.info? 36).map (·.size) = some cs.size := by rw [hs]; exact no_size
    unfold Oper.wp execOp
    simp only [ho, hx, Instr.loadAt, Instr.sureAddr, Sem.run_bind, Sem.run_pure, Result.andThen_ok, run_loadVar_in h.in Tryz.underlying36 rfl hi]
    exact hK _ _ k
theorem XsAt.no {v : Value} {l : List El} {w : World} {g : Nat} {cs : Array Value} (h : XsAt w v l) (r : RowAt g cs 36 w) (c : Array Value) : XsAt (w.setRow g c) v l := by
  have k4 : Kp g w (w.setRow g c) := Kp.row _ _
  rcases h with h | ⟨g2, c2, cs2, h1, h2, h3, h4⟩
  · exact .inl h
  · have hne : ¬ g = g2 := rowsNe r h3 (by decide)
    exact .inr ⟨g2, c2, cs2, h1, fun i x hx => (h2 i x hx).kp k4 (fun q => hne q.symm), h3.kp k4 (fun q => hne q.symm), h4⟩
set_option maxHeartbeats 2000000 in
theorem refApply_arg {w : World} {u : Value} {l : List El} (hl : SlE w u l) (op : Xo) (ix : Idn) (hr : rightO op = false) :
    Calls Tryz.prog 6 #[u, .agg (ov op), .agg (idc ix.a ix.b ix.c)] w fun r w' => ∃ v9, r = .returned (.tuple #[u, v9]) ∧ No1 w.heap.size bXform bApply (place op.p) 1 v9 w' ∧ Below w.heap.size w w' := by
  obtain ⟨a', c', rfl⟩ := hl.form
  have HS := hid_of' (fun x => say_any bXform bApply op.p 1 x (by decide))
  have r0 := ((row_new w (ov op) 40).later (below_one _ (.cells (idc ix.a ix.b ix.c) 32))).later (below_one _ (.cells (nov 0 none 0 0 none 0 0) 36))
  have r1 := (row_new (w.alloc (.cells (ov op) 40)) (idc ix.a ix.b ix.c) 32).later (below_one _ (.cells (nov 0 none 0 0 none 0 0) 36))
  have r2 := row_new ((w.alloc (.cells (ov op) 40)).alloc (.cells (idc ix.a ix.b ix.c) 32)) (nov 0 none 0 0 none 0 0) 36
  have hB := bgo (bgo (below_one w (.cells (ov op) 40)) (below_one _ (.cells (idc ix.a ix.b ix.c) 32))) (below_one _ (.cells (nov 0 none 0 0 none 0 0) 36))
  simp only [World.size_alloc] at r1 r2
  have HR := hid_of' (refRight7_is hr)
  clear hl
  go_enter Tryz.func6, Tryz.ntmps6
  go_upto_region 1 with fail
  change Code.wp _ _ _ _ (((w.alloc (.cells (ov op) 40)).alloc (.cells (idc ix.a ix.b ix.c) 32)).alloc (.cells (nov 0 none 0 0 none 0 0) 36))
  generalize ((w.alloc (.cells (ov op) 40)).alloc (.cells (idc ix.a ix.b ix.c) 32)).alloc (.cells (nov 0 none 0 0 none 0 0) 36) = W at r0 r1 r2 hB ⊢
  go_wp2_with (first | (refine wpL_loadO rfl _ rfl rfl r0.in ?_) | (go_at_call 20; refine (HR.out _).mono ?_; rintro q w1 ⟨rfl, hb1⟩; replace r0 := r0.later hb1; replace r1 := r1.later hb1; replace r2 := r2.later hb1; replace hB := bgo hB hb1; have c1 : w1.cell? ⟨w.heap.size, 1, none⟩ = some (.int .i64 op.p) := r0.cell 1) | (go_at_call 11; refine (HS.out _).mono ?_; rintro q w3 ⟨g2, g3, rfl, k1, k2, k3, k4, hb3⟩; have r9 := r2.later hb3) | (refine wpL_storeNo rfl _ _ rfl rfl rfl r9 ?_))
  have r8 := r9.put (nov 1 (some ⟨g3, 0, none⟩) 1 1 (some ⟨g2, 0, none⟩) 1 1)
  exact bodyPost_ret (v := .tuple #[.slice a' l.length c', .agg (nov 1 (some ⟨g3, 0, none⟩) 1 1 (some ⟨g2, 0, none⟩) 1 1)]) (results_tNo (fn := Tryz.f6) (t := 6) (u := 7) rfl rfl r8 rfl) rfl ⟨_, rfl, ⟨g2, g3, rfl, k3.other _ _ (by have := r2.lt; omega), k4.other _ _ (by have := r2.lt; omega), by have := hB.size; omega, by have := hB.size; omega⟩, below_row (bgo hB hb3) (by omega) _⟩
set_option maxHeartbeats 2000000 in
theorem refApply_range {w : World} {u : Value} {l : List El} (hl : SlE w u l) (op : Xo) (ix : Idn) (hr : rightO op = true) (hv : validO op l.length = false) :
    Calls Tryz.prog 6 #[u, .agg (ov op), .agg (idc ix.a ix.b ix.c)] w fun r w' => ∃ v9, r = .returned (.tuple #[u, v9]) ∧ No1 w.heap.size bXform bApply (place op.p) 2 v9 w' ∧ Below w.heap.size w w' := by
  obtain ⟨a', c', rfl⟩ := hl.form
  have HS := hid_of' (fun x => say_any bXform bApply op.p 2 x (by decide))
  have r0 := ((row_new w (ov op) 40).later (below_one _ (.cells (idc ix.a ix.b ix.c) 32))).later (below_one _ (.cells (nov 0 none 0 0 none 0 0) 36))
  have r1 := (row_new (w.alloc (.cells (ov op) 40)) (idc ix.a ix.b ix.c) 32).later (below_one _ (.cells (nov 0 none 0 0 none 0 0) 36))
  have r2 := row_new ((w.alloc (.cells (ov op) 40)).alloc (.cells (idc ix.a ix.b ix.c) 32)) (nov 0 none 0 0 none 0 0) 36
  have hB := bgo (bgo (below_one w (.cells (ov op) 40)) (below_one _ (.cells (idc ix.a ix.b ix.c) 32))) (below_one _ (.cells (nov 0 none 0 0 none 0 0) 36))
  simp only [World.size_alloc] at r1 r2
  have HR := hid_of' (refRight7_is hr)
  have HV := hid_of' (refValid7_any op (l.length : Int))
  rw [hv] at HV
  clear hl
  go_enter Tryz.func6, Tryz.ntmps6
  go_upto_region 1 with fail
  change Code.wp _ _ _ _ (((w.alloc (.cells (ov op) 40)).alloc (.cells (idc ix.a ix.b ix.c) 32)).alloc (.cells (nov 0 none 0 0 none 0 0) 36))
  generalize ((w.alloc (.cells (ov op) 40)).alloc (.cells (idc ix.a ix.b ix.c) 32)).alloc (.cells (nov 0 none 0 0 none 0 0) 36) = W at r0 r1 r2 hB ⊢
  go_wp2_with (first | (refine wpL_loadO rfl _ rfl rfl r0.in ?_) | (go_at_call 20; refine (HR.out _).mono ?_; rintro q w1 ⟨rfl, hb1⟩; replace r0 := r0.later hb1; replace r1 := r1.later hb1; replace r2 := r2.later hb1; replace hB := bgo hB hb1; have c1 : w1.cell? ⟨w.heap.size, 1, none⟩ = some (.int .i64 op.p) := r0.cell 1) | (go_at_call 21; refine (HV.out _).mono ?_; rintro q w2 ⟨rfl, hb2⟩; replace r0 := r0.later hb2; replace r1 := r1.later hb2; replace r2 := r2.later hb2; replace hB := bgo hB hb2; replace c1 : w2.cell? ⟨w.heap.size, 1, none⟩ = some (.int .i64 op.p) := r0.cell 1) | (go_at_call 11; refine (HS.out _).mono ?_; rintro q w3 ⟨g2, g3, rfl, k1, k2, k3, k4, hb3⟩; have r9 := r2.later hb3) | (refine wpL_storeNo rfl _ _ rfl rfl rfl r9 ?_))
  have r8 := r9.put (nov 2 (some ⟨g3, 0, none⟩) 1 1 (some ⟨g2, 0, none⟩) 1 1)
  exact bodyPost_ret (v := .tuple #[.slice a' l.length c', .agg (nov 2 (some ⟨g3, 0, none⟩) 1 1 (some ⟨g2, 0, none⟩) 1 1)]) (results_tNo (fn := Tryz.f6) (t := 6) (u := 7) rfl rfl r8 rfl) rfl ⟨_, rfl, ⟨g2, g3, rfl, k3.other _ _ (by have := r2.lt; omega), k4.other _ _ (by have := r2.lt; omega), by have := hB.size; omega, by have := hB.size; omega⟩, below_row (bgo hB hb3) (by omega) _⟩
set_option maxHeartbeats 4000000 in
theorem refApply_up {w : World} {u : Value} {l : List El} (hl : XsAt w u l) (ip : Nat) (c r : Int) (ix : Idn) (hv : validO ⟨2, (ip : Int), c, r⟩ l.length = true) (hn : l.length ≤ 1000000) (e0 : El) (he : l[ip]? = some e0) (h1 : -1099511627776 ≤ e0.hd) (h2 : e0.hd ≤ 1099511627776) (hfr : fairH (e0.hd + 1) = true) :
    Calls Tryz.prog 6 #[u, .agg (ov ⟨2, (ip : Int), c, r⟩), .agg (idc ix.a ix.b ix.c)] w fun e w' => ∃ v, e = .returned (.tuple #[v, .agg (nov 0 none 0 0 none 0 0)]) ∧ XsAt w' v (addE l ip 1) ∧ (∀ k, v.ownBlock = some k → w.heap.size ≤ k) ∧ Below w.heap.size w w' := by
  have HC : Hid (∀ x, Below w.heap.size w x → _) := fun x hx => refAdd_up (hl.later hx) ip e0 he h1 h2 hfr hn
  obtain ⟨a', c', hu⟩ := hl.form
  subst hu
  have r0 := ((row_new w (ov ⟨2, (ip : Int), c, r⟩) 40).later (below_one _ (.cells (idc ix.a ix.b ix.c) 32))).later (below_one _ (.cells (nov 0 none 0 0 none 0 0) 36))
  have r1 := (row_new (w.alloc (.cells (ov ⟨2, (ip : Int), c, r⟩) 40)) (idc ix.a ix.b ix.c) 32).later (below_one _ (.cells (nov 0 none 0 0 none 0 0) 36))
  have r2 := row_new ((w.alloc (.cells (ov ⟨2, (ip : Int), c, r⟩) 40)).alloc (.cells (idc ix.a ix.b ix.c) 32)) (nov 0 none 0 0 none 0 0) 36
  have hB := bgo (bgo (below_one w (.cells (ov ⟨2, (ip : Int), c, r⟩) 40)) (below_one _ (.cells (idc ix.a ix.b ix.c) 32))) (below_one _ (.cells (nov 0 none 0 0 none 0 0) 36))
  simp only [World.size_alloc] at r1 r2
  have HR := hid_of' (refRight7_is (validO_right hv))
  have HV := hid_of' (refValid7_any ⟨2, (ip : Int), c, r⟩ (l.length : Int))
  rw [hv] at HV
  clear hl hv
  go_enter Tryz.func6, Tryz.ntmps6
  go_upto_region 1 with fail
  change Code.wp _ _ _ _ (((w.alloc (.cells (ov ⟨2, (ip : Int), c, r⟩) 40)).alloc (.cells (idc ix.a ix.b ix.c) 32)).alloc (.cells (nov 0 none 0 0 none 0 0) 36))
  generalize ((w.alloc (.cells (ov ⟨2, (ip : Int), c, r⟩) 40)).alloc (.cells (idc ix.a ix.b ix.c) 32)).alloc (.cells (nov 0 none 0 0 none 0 0) 36) = W at r0 r1 r2 hB ⊢
  go_upto_region 6 with (first | (refine wpL_loadO rfl _ rfl rfl r0.in ?_) | (go_at_call 20; refine (HR.out _).mono ?_; rintro q w1 ⟨rfl, hb1⟩; replace r0 := r0.later hb1; replace r1 := r1.later hb1; replace r2 := r2.later hb1; replace hB := bgo hB hb1; have c1 : w1.cell? ⟨w.heap.size, 1, none⟩ = some (.int .i64 (ip : Int)) := r0.cell 1) | (go_at_call 21; refine (HV.out _).mono ?_; rintro q w2 ⟨rfl, hb2⟩; replace r0 := r0.later hb2; replace r1 := r1.later hb2; replace r2 := r2.later hb2; replace hB := bgo hB hb2; replace c1 : w2.cell? ⟨w.heap.size, 1, none⟩ = some (.int .i64 (ip : Int)) := r0.cell 1))
  have r9 := row_new w2 (nov 0 none 0 0 none 0 0) 36
  have b9 := below_one w2 (.cells (nov 0 none 0 0 none 0 0) 36)
  have hz : w.heap.size + 1 + 1 < w2.heap.size := r2.lt
  go_upto_region 7 with fail
  change Code.wp _ _ _ _ (w2.alloc (.cells (nov 0 none 0 0 none 0 0) 36))
  generalize hQ : w2.heap.size = Q at r9 hz ⊢
  replace r0 := r0.later b9
  replace r1 := r1.later b9
  replace r2 := r2.later b9
  replace hB := bgo hB b9
  generalize w2.alloc (.cells (nov 0 none 0 0 none 0 0) 36) = W3 at r0 r1 r2 r9 hB ⊢
  clear c1 b9 hQ
  have c0 : W3.cell? ⟨w.heap.size, 0, none⟩ = some (.int .i64 2) := r0.cell 0
  have c1 : W3.cell? ⟨w.heap.size, 1, none⟩ = some (.int .i64 (ip : Int)) := r0.cell 1
  have c2 : W3.cell? ⟨w.heap.size, 2, none⟩ = some (.int .i32 c) := r0.cell 2
  have HC3 := hid_of' (HC.out _ hB)
  clear HC
  unfold ev at HC3
  go_upto_region 13 with (first | (refine wpL_loadI rfl _ rfl rfl r1.in ?_; unfold idc) | (go_at_call 23; refine HC3.out.mono ?_; clear HC3; rintro q w4 ⟨v4, rfl, hx4, hf4, hb4⟩; replace r9 := r9.later hb4) | (refine wpL_storeNo rfl _ _ rfl rfl rfl r9 ?_))
  have r0 := (r0.later hb4).other Q (nov 0 none 0 0 none 0 0) (by omega)
  have r2 := (r2.later hb4).other Q (nov 0 none 0 0 none 0 0) (by omega)
  have hK := XsAt.no hx4 r9 (nov 0 none 0 0 none 0 0)
  have hB5 := below_row (bgo hB hb4) (g := Q) (by omega) (nov 0 none 0 0 none 0 0)
  have r10 := r9.put (nov 0 none 0 0 none 0 0)
  clear c0 c1 c2 r1 r9 hb4
  change Code.wp _ _ _ _ (w4.setRow Q (nov 0 none 0 0 none 0 0))
  generalize w4.setRow Q (nov 0 none 0 0 none 0 0) = W5 at r0 r2 r10 hK hB5 ⊢
  have c1 : W5.cell? ⟨w.heap.size, 1, none⟩ = some (.int .i64 (ip : Int)) := r0.cell 1
  have HW := hid_of' (wrap_ok bXform bApply (ip : Int) W5)
  go_wp2_with (first | (refine wpL_loadNo rfl _ rfl rfl r10 rfl ?_) | (go_at_call 24; refine HW.out.mono ?_; clear HW; rintro q w6 ⟨rfl, hb6⟩; have r9 := r2.later hb6) | (refine wpL_storeNo rfl _ _ rfl rfl rfl r9 ?_))
  have r8 := r9.put (nov 0 none 0 0 none 0 0)
  have hE := XsAt.no (hK.later hb6) r9 (nov 0 none 0 0 none 0 0)
  exact bodyPost_ret (v := .tuple #[v4, .agg (nov 0 none 0 0 none 0 0)]) (results_tNo (fn := Tryz.f6) (t := 6) (u := 7) rfl rfl r8 rfl) rfl ⟨v4, rfl, hE, (fun k hk => Nat.le_trans hB.size (hf4 k hk)), below_row (bgo hB5 hb6) (by omega) _⟩
set_option maxHeartbeats 4000000 in
theorem refApply_down {w : World} {u : Value} {l : List El} (hl : XsAt w u l) (ip : Nat) (c r : Int) (ix : Idn) (hv : validO ⟨3, (ip : Int), c, r⟩ l.length = true) (hn : l.length ≤ 1000000) (e0 : El) (he : l[ip]? = some e0) (h1 : -1099511627776 ≤ e0.hd) (h2 : e0.hd ≤ 1099511627776) (hfr : fairH (e0.hd + -1) = true) :
    Calls Tryz.prog 6 #[u, .agg (ov ⟨3, (ip : Int), c, r⟩), .agg (idc ix.a ix.b ix.c)] w fun e w' => ∃ v, e = .returned (.tuple #[v, .agg (nov 0 none 0 0 none 0 0)]) ∧ XsAt w' v (addE l ip (-1)) ∧ (∀ k, v.ownBlock = some k → w.heap.size ≤ k) ∧ Below w.heap.size w w' := by
  have HC : Hid (∀ x, Below w.heap.size w x → _) := fun x hx => refAdd_down (hl.later hx) ip e0 he h1 h2 hfr hn
  obtain ⟨a', c', hu⟩ := hl.form
  subst hu
  have r0 := ((row_new w (ov ⟨3, (ip : Int), c, r⟩) 40).later (below_one _ (.cells (idc ix.a ix.b ix.c) 32))).later (below_one _ (.cells (nov 0 none 0 0 none 0 0) 36))
  have r1 := (row_new (w.alloc (.cells (ov ⟨3, (ip : Int), c, r⟩) 40)) (idc ix.a ix.b ix.c) 32).later (below_one _ (.cells (nov 0 none 0 0 none 0 0) 36))
  have r2 := row_new ((w.alloc (.cells (ov ⟨3, (ip : Int), c, r⟩) 40)).alloc (.cells (idc ix.a ix.b ix.c) 32)) (nov 0 none 0 0 none 0 0) 36
  have hB := bgo (bgo (below_one w (.cells (ov ⟨3, (ip : Int), c, r⟩) 40)) (below_one _ (.cells (idc ix.a ix.b ix.c) 32))) (below_one _ (.cells (nov 0 none 0 0 none 0 0) 36))
  simp only [World.size_alloc] at r1 r2
  have HR := hid_of' (refRight7_is (validO_right hv))
  have HV := hid_of' (refValid7_any ⟨3, (ip : Int), c, r⟩ (l.length : Int))
  rw [hv] at HV
  clear hl hv
  go_enter Tryz.func6, Tryz.ntmps6
  go_upto_region 1 with fail
  change Code.wp _ _ _ _ (((w.alloc (.cells (ov ⟨3, (ip : Int), c, r⟩) 40)).alloc (.cells (idc ix.a ix.b ix.c) 32)).alloc (.cells (nov 0 none 0 0 none 0 0) 36))
  generalize ((w.alloc (.cells (ov ⟨3, (ip : Int), c, r⟩) 40)).alloc (.cells (idc ix.a ix.b ix.c) 32)).alloc (.cells (nov 0 none 0 0 none 0 0) 36) = W at r0 r1 r2 hB ⊢
  go_upto_region 6 with (first | (refine wpL_loadO rfl _ rfl rfl r0.in ?_) | (go_at_call 20; refine (HR.out _).mono ?_; rintro q w1 ⟨rfl, hb1⟩; replace r0 := r0.later hb1; replace r1 := r1.later hb1; replace r2 := r2.later hb1; replace hB := bgo hB hb1; have c1 : w1.cell? ⟨w.heap.size, 1, none⟩ = some (.int .i64 (ip : Int)) := r0.cell 1) | (go_at_call 21; refine (HV.out _).mono ?_; rintro q w2 ⟨rfl, hb2⟩; replace r0 := r0.later hb2; replace r1 := r1.later hb2; replace r2 := r2.later hb2; replace hB := bgo hB hb2; replace c1 : w2.cell? ⟨w.heap.size, 1, none⟩ = some (.int .i64 (ip : Int)) := r0.cell 1))
  have r9 := row_new w2 (nov 0 none 0 0 none 0 0) 36
  have b9 := below_one w2 (.cells (nov 0 none 0 0 none 0 0) 36)
  have hz : w.heap.size + 1 + 1 < w2.heap.size := r2.lt
  go_upto_region 7 with fail
  change Code.wp _ _ _ _ (w2.alloc (.cells (nov 0 none 0 0 none 0 0) 36))
  generalize hQ : w2.heap.size = Q at r9 hz ⊢
  replace r0 := r0.later b9
  replace r1 := r1.later b9
  replace r2 := r2.later b9
  replace hB := bgo hB b9
  generalize w2.alloc (.cells (nov 0 none 0 0 none 0 0) 36) = W3 at r0 r1 r2 r9 hB ⊢
  clear c1 b9 hQ
  have c0 : W3.cell? ⟨w.heap.size, 0, none⟩ = some (.int .i64 3) := r0.cell 0
  have c1 : W3.cell? ⟨w.heap.size, 1, none⟩ = some (.int .i64 (ip : Int)) := r0.cell 1
  have c2 : W3.cell? ⟨w.heap.size, 2, none⟩ = some (.int .i32 c) := r0.cell 2
  have HC3 := hid_of' (HC.out _ hB)
  clear HC
  unfold ev at HC3
  go_upto_region 13 with (first | (refine wpL_loadI rfl _ rfl rfl r1.in ?_; unfold idc) | (go_at_call 23; refine HC3.out.mono ?_; clear HC3; rintro q w4 ⟨v4, rfl, hx4, hf4, hb4⟩; replace r9 := r9.later hb4) | (refine wpL_storeNo rfl _ _ rfl rfl rfl r9 ?_))
  have r0 := (r0.later hb4).other Q (nov 0 none 0 0 none 0 0) (by omega)
  have r2 := (r2.later hb4).other Q (nov 0 none 0 0 none 0 0) (by omega)
  have hK := XsAt.no hx4 r9 (nov 0 none 0 0 none 0 0)
  have hB5 := below_row (bgo hB hb4) (g := Q) (by omega) (nov 0 none 0 0 none 0 0)
  have r10 := r9.put (nov 0 none 0 0 none 0 0)
  clear c0 c1 c2 r1 r9 hb4
  change Code.wp _ _ _ _ (w4.setRow Q (nov 0 none 0 0 none 0 0))
  generalize w4.setRow Q (nov 0 none 0 0 none 0 0) = W5 at r0 r2 r10 hK hB5 ⊢
  have c1 : W5.cell? ⟨w.heap.size, 1, none⟩ = some (.int .i64 (ip : Int)) := r0.cell 1
  have HW := hid_of' (wrap_ok bXform bApply (ip : Int) W5)
  go_wp2_with (first | (refine wpL_loadNo rfl _ rfl rfl r10 rfl ?_) | (go_at_call 24; refine HW.out.mono ?_; clear HW; rintro q w6 ⟨rfl, hb6⟩; have r9 := r2.later hb6) | (refine wpL_storeNo rfl _ _ rfl rfl rfl r9 ?_))
  have r8 := r9.put (nov 0 none 0 0 none 0 0)
  have hE := XsAt.no (hK.later hb6) r9 (nov 0 none 0 0 none 0 0)
  exact bodyPost_ret (v := .tuple #[v4, .agg (nov 0 none 0 0 none 0 0)]) (results_tNo (fn := Tryz.f6) (t := 6) (u := 7) rfl rfl r8 rfl) rfl ⟨v4, rfl, hE, (fun k hk => Nat.le_trans hB.size (hf4 k hk)), below_row (bgo hB5 hb6) (by omega) _⟩
set_option maxHeartbeats 4000000 in
theorem refApply_ins {w : World} {u : Value} {l : List El} (hl : XsAt w u l) (ip : Nat) (c r : Int) (ix : Idn) (hv : validO ⟨1, (ip : Int), c, r⟩ l.length = true) (hn : l.length ≤ 1000000) (hip : ip ≤ l.length) (hw : wrK l ⟨ix.a, ix.b, ix.c, c, 0⟩ = none) :
    Calls Tryz.prog 6 #[u, .agg (ov ⟨1, (ip : Int), c, r⟩), .agg (idc ix.a ix.b ix.c)] w fun e w' => ∃ v, e = .returned (.tuple #[v, .agg (nov 0 none 0 0 none 0 0)]) ∧ XsAt w' v (insE l ip ⟨ix.a, ix.b, ix.c, c, 0⟩) ∧ (∀ k, v.ownBlock = some k → w.heap.size ≤ k) ∧ Below w.heap.size w w' := by
  have HC : Hid (∀ x, Below w.heap.size w x → _) := fun x hx => refInsert_ok (hl.later hx).pl ip ⟨ix.a, ix.b, ix.c, c, 0⟩ hip hn hw
  obtain ⟨a', c', hu⟩ := hl.form
  subst hu
  have r0 := ((row_new w (ov ⟨1, (ip : Int), c, r⟩) 40).later (below_one _ (.cells (idc ix.a ix.b ix.c) 32))).later (below_one _ (.cells (nov 0 none 0 0 none 0 0) 36))
  have r1 := (row_new (w.alloc (.cells (ov ⟨1, (ip : Int), c, r⟩) 40)) (idc ix.a ix.b ix.c) 32).later (below_one _ (.cells (nov 0 none 0 0 none 0 0) 36))
  have r2 := row_new ((w.alloc (.cells (ov ⟨1, (ip : Int), c, r⟩) 40)).alloc (.cells (idc ix.a ix.b ix.c) 32)) (nov 0 none 0 0 none 0 0) 36
  have hB := bgo (bgo (below_one w (.cells (ov ⟨1, (ip : Int), c, r⟩) 40)) (below_one _ (.cells (idc ix.a ix.b ix.c) 32))) (below_one _ (.cells (nov 0 none 0 0 none 0 0) 36))
  simp only [World.size_alloc] at r1 r2
  have HR := hid_of' (refRight7_is (validO_right hv))
  have HV := hid_of' (refValid7_any ⟨1, (ip : Int), c, r⟩ (l.length : Int))
  rw [hv] at HV
  clear hl hv
  go_enter Tryz.func6, Tryz.ntmps6
  go_upto_region 1 with fail
  change Code.wp _ _ _ _ (((w.alloc (.cells (ov ⟨1, (ip : Int), c, r⟩) 40)).alloc (.cells (idc ix.a ix.b ix.c) 32)).alloc (.cells (nov 0 none 0 0 none 0 0) 36))
  generalize ((w.alloc (.cells (ov ⟨1, (ip : Int), c, r⟩) 40)).alloc (.cells (idc ix.a ix.b ix.c) 32)).alloc (.cells (nov 0 none 0 0 none 0 0) 36) = W at r0 r1 r2 hB ⊢
  go_upto_region 6 with (first | (refine wpL_loadO rfl _ rfl rfl r0.in ?_) | (go_at_call 20; refine (HR.out _).mono ?_; rintro q w1 ⟨rfl, hb1⟩; replace r0 := r0.later hb1; replace r1 := r1.later hb1; replace r2 := r2.later hb1; replace hB := bgo hB hb1; have c1 : w1.cell? ⟨w.heap.size, 1, none⟩ = some (.int .i64 (ip : Int)) := r0.cell 1) | (go_at_call 21; refine (HV.out _).mono ?_; rintro q w2 ⟨rfl, hb2⟩; replace r0 := r0.later hb2; replace r1 := r1.later hb2; replace r2 := r2.later hb2; replace hB := bgo hB hb2; replace c1 : w2.cell? ⟨w.heap.size, 1, none⟩ = some (.int .i64 (ip : Int)) := r0.cell 1))
  have r9 := row_new w2 (nov 0 none 0 0 none 0 0) 36
  have b9 := below_one w2 (.cells (nov 0 none 0 0 none 0 0) 36)
  have hz : w.heap.size + 1 + 1 < w2.heap.size := r2.lt
  go_upto_region 7 with fail
  change Code.wp _ _ _ _ (w2.alloc (.cells (nov 0 none 0 0 none 0 0) 36))
  generalize hQ : w2.heap.size = Q at r9 hz ⊢
  replace r0 := r0.later b9
  replace r1 := r1.later b9
  replace r2 := r2.later b9
  replace hB := bgo hB b9
  generalize w2.alloc (.cells (nov 0 none 0 0 none 0 0) 36) = W3 at r0 r1 r2 r9 hB ⊢
  clear c1 b9 hQ
  have c0 : W3.cell? ⟨w.heap.size, 0, none⟩ = some (.int .i64 1) := r0.cell 0
  have c1 : W3.cell? ⟨w.heap.size, 1, none⟩ = some (.int .i64 (ip : Int)) := r0.cell 1
  have c2 : W3.cell? ⟨w.heap.size, 2, none⟩ = some (.int .i32 c) := r0.cell 2
  have HC3 := hid_of' (HC.out _ hB)
  clear HC
  unfold ev at HC3
  go_upto_region 13 with (first | (refine wpL_loadI rfl _ rfl rfl r1.in ?_; unfold idc) | (go_at_call 22; refine HC3.out.mono ?_; clear HC3; rintro q w4 ⟨v4, rfl, ho4, hb4⟩; have hx4 := XsAt.of_own ho4; have hf4 := fun k hk => (ho4.lt k hk).1; replace r9 := r9.later hb4) | (refine wpL_storeNo rfl _ _ rfl rfl rfl r9 ?_))
  have r0 := (r0.later hb4).other Q (nov 0 none 0 0 none 0 0) (by omega)
  have r2 := (r2.later hb4).other Q (nov 0 none 0 0 none 0 0) (by omega)
  have hK := XsAt.no hx4 r9 (nov 0 none 0 0 none 0 0)
  have hB5 := below_row (bgo hB hb4) (g := Q) (by omega) (nov 0 none 0 0 none 0 0)
  have r10 := r9.put (nov 0 none 0 0 none 0 0)
  clear c0 c1 c2 r1 r9 hb4
  change Code.wp _ _ _ _ (w4.setRow Q (nov 0 none 0 0 none 0 0))
  generalize w4.setRow Q (nov 0 none 0 0 none 0 0) = W5 at r0 r2 r10 hK hB5 ⊢
  have c1 : W5.cell? ⟨w.heap.size, 1, none⟩ = some (.int .i64 (ip : Int)) := r0.cell 1
  have HW := hid_of' (wrap_ok bXform bApply (ip : Int) W5)
  go_wp2_with (first | (refine wpL_loadNo rfl _ rfl rfl r10 rfl ?_) | (go_at_call 24; refine HW.out.mono ?_; clear HW; rintro q w6 ⟨rfl, hb6⟩; have r9 := r2.later hb6) | (refine wpL_storeNo rfl _ _ rfl rfl rfl r9 ?_))
  have r8 := r9.put (nov 0 none 0 0 none 0 0)
  have hE := XsAt.no (hK.later hb6) r9 (nov 0 none 0 0 none 0 0)
  exact bodyPost_ret (v := .tuple #[v4, .agg (nov 0 none 0 0 none 0 0)]) (results_tNo (fn := Tryz.f6) (t := 6) (u := 7) rfl rfl r8 rfl) rfl ⟨v4, rfl, hE, (fun k hk => Nat.le_trans hB.size (hf4 k hk)), below_row (bgo hB5 hb6) (by omega) _⟩
set_option maxHeartbeats 4000000 in
theorem refApply_twice {w : World} {u : Value} {l : List El} (hl : XsAt w u l) (ip : Nat) (c r : Int) (ix : Idn) (hv : validO ⟨1, (ip : Int), c, r⟩ l.length = true) (hn : l.length ≤ 1000000) (hip : ip ≤ l.length) (hw : wrK l ⟨ix.a, ix.b, ix.c, c, 0⟩ = some 8) :
    Calls Tryz.prog 6 #[u, .agg (ov ⟨1, (ip : Int), c, r⟩), .agg (idc ix.a ix.b ix.c)] w fun e w' => ∃ v9, e = .returned (.tuple #[u, v9]) ∧ No2 w.heap.size bXform bApply (ip : Int) bModel bInsert (ip : Int) ((8 : Nat) + 1 : Int) v9 w' ∧ Below w.heap.size w w' := by
  have HC : Hid (∀ x, Below w.heap.size w x → _) := fun x hx => refInsert_bad (hl.later hx).sl ip ⟨ix.a, ix.b, ix.c, c, 0⟩ hip hn 8 hw
  obtain ⟨a', c', hu⟩ := hl.form
  subst hu
  have r0 := ((row_new w (ov ⟨1, (ip : Int), c, r⟩) 40).later (below_one _ (.cells (idc ix.a ix.b ix.c) 32))).later (below_one _ (.cells (nov 0 none 0 0 none 0 0) 36))
  have r1 := (row_new (w.alloc (.cells (ov ⟨1, (ip : Int), c, r⟩) 40)) (idc ix.a ix.b ix.c) 32).later (below_one _ (.cells (nov 0 none 0 0 none 0 0) 36))
  have r2 := row_new ((w.alloc (.cells (ov ⟨1, (ip : Int), c, r⟩) 40)).alloc (.cells (idc ix.a ix.b ix.c) 32)) (nov 0 none 0 0 none 0 0) 36
  have hB := bgo (bgo (below_one w (.cells (ov ⟨1, (ip : Int), c, r⟩) 40)) (below_one _ (.cells (idc ix.a ix.b ix.c) 32))) (below_one _ (.cells (nov 0 none 0 0 none 0 0) 36))
  simp only [World.size_alloc] at r1 r2
  have HR := hid_of' (refRight7_is (validO_right hv))
  have HV := hid_of' (refValid7_any ⟨1, (ip : Int), c, r⟩ (l.length : Int))
  rw [hv] at HV
  clear hl hv
  go_enter Tryz.func6, Tryz.ntmps6
  go_upto_region 1 with fail
  change Code.wp _ _ _ _ (((w.alloc (.cells (ov ⟨1, (ip : Int), c, r⟩) 40)).alloc (.cells (idc ix.a ix.b ix.c) 32)).alloc (.cells (nov 0 none 0 0 none 0 0) 36))
  generalize ((w.alloc (.cells (ov ⟨1, (ip : Int), c, r⟩) 40)).alloc (.cells (idc ix.a ix.b ix.c) 32)).alloc (.cells (nov 0 none 0 0 none 0 0) 36) = W at r0 r1 r2 hB ⊢
  go_upto_region 6 with (first | (refine wpL_loadO rfl _ rfl rfl r0.in ?_) | (go_at_call 20; refine (HR.out _).mono ?_; rintro q w1 ⟨rfl, hb1⟩; replace r0 := r0.later hb1; replace r1 := r1.later hb1; replace r2 := r2.later hb1; replace hB := bgo hB hb1; have c1 : w1.cell? ⟨w.heap.size, 1, none⟩ = some (.int .i64 (ip : Int)) := r0.cell 1) | (go_at_call 21; refine (HV.out _).mono ?_; rintro q w2 ⟨rfl, hb2⟩; replace r0 := r0.later hb2; replace r1 := r1.later hb2; replace r2 := r2.later hb2; replace hB := bgo hB hb2; replace c1 : w2.cell? ⟨w.heap.size, 1, none⟩ = some (.int .i64 (ip : Int)) := r0.cell 1))
  have r9 := row_new w2 (nov 0 none 0 0 none 0 0) 36
  have b9 := below_one w2 (.cells (nov 0 none 0 0 none 0 0) 36)
  have hz : w.heap.size + 1 + 1 < w2.heap.size := r2.lt
  go_upto_region 7 with fail
  change Code.wp _ _ _ _ (w2.alloc (.cells (nov 0 none 0 0 none 0 0) 36))
  generalize hQ : w2.heap.size = Q at r9 hz ⊢
  replace r0 := r0.later b9
  replace r1 := r1.later b9
  replace r2 := r2.later b9
  replace hB := bgo hB b9
  generalize w2.alloc (.cells (nov 0 none 0 0 none 0 0) 36) = W3 at r0 r1 r2 r9 hB ⊢
  clear c1 b9 hQ
  have c0 : W3.cell? ⟨w.heap.size, 0, none⟩ = some (.int .i64 1) := r0.cell 0
  have c1 : W3.cell? ⟨w.heap.size, 1, none⟩ = some (.int .i64 (ip : Int)) := r0.cell 1
  have c2 : W3.cell? ⟨w.heap.size, 2, none⟩ = some (.int .i32 c) := r0.cell 2
  have HC3 := hid_of' (HC.out _ hB)
  clear HC
  unfold ev at HC3
  go_upto_region 13 with (first | (refine wpL_loadI rfl _ rfl rfl r1.in ?_; unfold idc) | (go_at_call 22; refine HC3.out.mono ?_; clear HC3; rintro q w4 ⟨v4, rfl, ⟨g2, g3, rfl, k3, k4, k5, k6⟩, hb4⟩; have hq9 := r9.lt; replace r9 := r9.later hb4) | (refine wpL_storeNo rfl _ _ rfl rfl rfl r9 ?_))
  have r0 := (r0.later hb4).other Q (nov ((8 : Nat) + 1 : Int) (some ⟨g3, 0, none⟩) 1 1 (some ⟨g2, 0, none⟩) 1 1) (by omega)
  have r2 := (r2.later hb4).other Q (nov ((8 : Nat) + 1 : Int) (some ⟨g3, 0, none⟩) 1 1 (some ⟨g2, 0, none⟩) 1 1) (by omega)
  have hK : No1 W3.heap.size bModel bInsert (ip : Int) ((8 : Nat) + 1 : Int) (.agg (nov ((8 : Nat) + 1 : Int) (some ⟨g3, 0, none⟩) 1 1 (some ⟨g2, 0, none⟩) 1 1)) (w4.setRow Q (nov ((8 : Nat) + 1 : Int) (some ⟨g3, 0, none⟩) 1 1 (some ⟨g2, 0, none⟩) 1 1)) := ⟨g2, g3, rfl, k3.other _ _ (by omega), k4.other _ _ (by omega), k5, k6⟩
  have hz3 := hB.size
  have hB5 := below_row (bgo hB hb4) (g := Q) (by omega) (nov ((8 : Nat) + 1 : Int) (some ⟨g3, 0, none⟩) 1 1 (some ⟨g2, 0, none⟩) 1 1)
  have r10 := r9.put (nov ((8 : Nat) + 1 : Int) (some ⟨g3, 0, none⟩) 1 1 (some ⟨g2, 0, none⟩) 1 1)
  clear c0 c1 c2 r1 r9 hb4
  change Code.wp _ _ _ _ (w4.setRow Q (nov ((8 : Nat) + 1 : Int) (some ⟨g3, 0, none⟩) 1 1 (some ⟨g2, 0, none⟩) 1 1))
  generalize w4.setRow Q (nov ((8 : Nat) + 1 : Int) (some ⟨g3, 0, none⟩) 1 1 (some ⟨g2, 0, none⟩) 1 1) = W5 at r0 r2 r10 hK hB5 ⊢
  have c1 : W5.cell? ⟨w.heap.size, 1, none⟩ = some (.int .i64 (ip : Int)) := r0.cell 1
  have HW := hid_of' (wrap_one (la := bXform) (ca := bApply) hK (by obtain ⟨p, q, _, z1, _, _, z2⟩ := hK; have := z1.1; omega) (Int.natCast_nonneg ip) (by decide))
  go_wp2_with (first | (refine wpL_loadNo rfl _ rfl rfl r10 rfl ?_) | (go_at_call 24; refine HW.out.mono ?_; clear HW; rintro q w6 ⟨v6, rfl, ⟨p2, p3, p4, rfl, m3, m4, m5, m6⟩, hb6⟩; have r9 := r2.later hb6) | (refine wpL_storeNo rfl _ _ rfl rfl rfl r9 ?_))
  have r8 := r9.put (nov ((8 : Nat) + 1 : Int) (some ⟨p3, 0, none⟩) 2 p4 (some ⟨p2, 0, none⟩) 1 1)
  exact bodyPost_ret (v := .tuple #[.slice a' l.length c', .agg (nov ((8 : Nat) + 1 : Int) (some ⟨p3, 0, none⟩) 2 p4 (some ⟨p2, 0, none⟩) 1 1)]) (results_tNo (fn := Tryz.f6) (t := 6) (u := 7) rfl rfl r8 rfl) rfl ⟨_, rfl, ⟨p2, p3, p4, rfl, m3.other _ _ (by omega), m4.other _ _ (by omega), by omega, by omega⟩, below_row (bgo hB5 hb6) (by omega) _⟩
end Go.Proofs.YtjalehlmldlooaaGreatDoor
