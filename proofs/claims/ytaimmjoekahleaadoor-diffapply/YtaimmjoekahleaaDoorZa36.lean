
/-
  barrowref15.apply: edits, done one behind the other.
-/
import Derived.Test.YtaimmjoekahleaaDoorZa32
import Derived.Test.YtaimmjoekahleaaDoorZa33
import Derived.Test.YtaimmjoekahleaaDoorZa34
import Derived.Test.YtaimmjoekahleaaDoorZa35
import Derived.Test.YtaimmjoekahleaaDoorZa27
namespace Go.Proofs.YtaimmjoekahleaaDoor
open Go.RowKit Go.Extern.Stop Go.Stop Go.Extern
set_option maxRecDepth 100000

theorem run_subL (a : Option Addr) (n c j : Nat) (h1 : j ≤ n) (w : World) : (Instr.sliceAt 47 (.slice a n c) (some (.int .i64 (j : Int))) none none).run Tryd.prog w = .ok (sliced a j n c 1) w := by
  have hz : (sizeOf (Tryd.prog.elem 47)).run Tryd.prog w = .ok 1 w := by
    show (sizeOf 21).run Tryd.prog w = _
    simp [go_sem]
  rw [run_sliceAt_slice (P := Tryd.prog) (w := w) 47 _ _ _ _ Tryd.underlying47, run_slice_l (P := Tryd.prog) w 47 a n c Tryd.underlying47 .i64 (j : Int) (by omega) (by omega), hz]
  simp [Result.andThen]
theorem run_subH (a : Option Addr) (n c q : Nat) (h2 : q ≤ c) (w : World) : (Instr.sliceAt 47 (.slice a n c) none (some (.int .i64 (q : Int))) none).run Tryd.prog w = .ok (sliced a 0 q c 1) w := by
  have hz : (sizeOf (Tryd.prog.elem 47)).run Tryd.prog w = .ok 1 w := by
    show (sizeOf 21).run Tryd.prog w = _
    simp [go_sem]
  rw [run_sliceAt_slice (P := Tryd.prog) (w := w) 47 _ _ _ _ Tryd.underlying47, run_slice_h (P := Tryd.prog) w 47 a n c Tryd.underlying47 .i64 (q : Int) (by omega) (by omega), hz]
  simp [Result.andThen]
/-- A piece of a row, as append takes it. -/
theorem so_sub {w : World} {a : Option Addr} {n c : Nat} {ys : List Int} (h : RwR (.slice a n c) ys w) {j q : Nat} (h1 : j ≤ q) (h2 : q ≤ ys.length) : So 1 (sliced a j q c 1) ((ys.take q).drop j).length (((ys.take q).drop j).map (Value.int .i32)) w := by
  have hlen : ((ys.take q).drop j).length = q - j := by rw [List.length_drop, List.length_take, Nat.min_eq_left h2]
  refine ⟨by simp, ?_⟩
  by_cases hjq : j = q
  · subst hjq
    refine .inl ⟨by omega, ?_⟩
    have hs : sliced a j j c 1 = .slice (if c = j then a else a.map (·.add (j * 1))) 0 (c - j) := by simp [sliced]
    exact ⟨_, _, hs⟩
  · have h0 : ys ≠ [] := by
      rintro rfl
      simp at h2
      omega
    obtain ⟨a', c', hv, hc1, _⟩ := h.form
    cases hv
    obtain ⟨g, c', hv, _, _, hc⟩ := h.at h0
    cases hv
    have hs : sliced (some ⟨g, 0, none⟩) j q c 1 = .slice (some ⟨g, j, none⟩) (q - j) (c - j) := by
      have : ¬ c = j := by omega
      simp [sliced, this, Addr.add]
      exact fun e => e.symm
    rw [hs, hlen]
    refine .inr ⟨_, _, rfl, fun k x hx => ?_⟩
    rw [Addr.add_lit]
    rw [List.getElem?_map, List.getElem?_drop, List.getElem?_take] at hx
    split at hx
    · obtain ⟨z, hz, rfl⟩ := Option.map_eq_some_iff.1 hx
      exact hc (j + k) z hz
    · cases hx
section
variable {ops : Array Oper} {rest : List Oper} {o : Oper} {A : Act} {w : World} {Q : Exit → Act → World → Prop}
theorem wpL_subG (hgd : o.guard = none) {ox : Operand} {olo ohi : Option Operand} (ho : o.op = .slice 47 ox olo ohi none) {v u : Value} {lo hi : Option Value} (hx : A.eval ox = v) (hlo : olo.map A.eval = lo) (hhi : ohi.map A.eval = hi)
    (hrun : (Instr.sliceAt 47 v lo hi none).run Tryd.prog w = .ok u w) (k : wpList Tryd.prog ops Q rest (A.put o.dst u) w) : wpList Tryd.prog ops Q (o :: rest) A w := by
  refine wpList_plain hgd fun _ hK => ?_
  unfold Oper.wp execOp
  simp only [ho, hx, hlo, hhi, Option.map_none, Sem.run_bind, hrun, Result.andThen]
  exact hK _ _ k
theorem wpL_lit0 (hgd : o.guard = none) (ho : o.op = .buildSlice 47 0 #[])
    (k : ∀ g x, RwR (.slice (some ⟨g, 0, none⟩) 0 0) [] x → w.heap.size ≤ g → Below w.heap.size w x → wpList Tryd.prog ops Q rest (A.put o.dst (.slice (some ⟨g, 0, none⟩) 0 0)) x) : wpList Tryd.prog ops Q (o :: rest) A w := by
  refine wpList_plain hgd fun _ hK => ?_
  have hk := k w.heap.size (w.alloc (.cells #[] 21)) ⟨by simp, .inr ⟨w.heap.size, 0, #[], rfl, heap_alloc_new w _, Nat.le_refl _, Nat.zero_le _, by simp, by simp⟩⟩ (Nat.le_refl _) (below_one _ _)
  unfold Oper.wp
  simp [execOp, ho, go_sem]
  exact hK _ _ hk
theorem wpL_addI (hgd : o.guard = none) {t t' : TypeId} {x y : Operand} (ho : o.op = .binOp .add t x y t') {p q r : Int} (hx : A.eval x = .int .i64 p) (hy : A.eval y = .int .i64 q) (hw : wrap64 (p + q) = r)
    (k : wpList Tryd.prog ops Q rest (A.put o.dst (.int .i64 r)) w) : wpList Tryd.prog ops Q (o :: rest) A w := by
  refine wpList_plain hgd fun _ hK => ?_
  subst hw
  unfold Oper.wp execOp
  simp only [ho, hx, hy]
  simp [go_sem]
  have e : IntKind.i64.wrap (p + q) = wrap64 (p + q) := by
    rw [IntKind.wrap_i64]
    unfold wrap64
    omega
  rw [e]
  exact hK _ _ k
end
/-- One edit in a row of its own. -/
theorem RwE.one {g : Nat} {e : Edt} {w : World} (h : RowAt g #[.int .i64 e.at', .int .i64 e.er, .string e.ins] 46 w) : RwE (.slice (some ⟨g, 0, none⟩) 1 1) [e] w :=
  ⟨rfl, .inr ⟨g, 1, _, rfl, h, Nat.le_refl _, by unfold maxLen; omega, by simp, by simp [fc, edc]⟩⟩
set_option maxHeartbeats 4000000 in
theorem rapply_bad (w : World) (c a : ByteArray) {v : Value} {l : List Edt} (hl : RwE v l w) (ha : a.size ≤ 120) (hv : Lib.validD a.data.toList = false) :
    Calls Tryd.prog 14 #[.string c, .string a, v] w fun e w' => ∃ z, e = .returned (.tuple #[.slice none 0 0, .slice none 0 0, z]) ∧ NoR w.heap.size (some (c, 0, 2)) z w' ∧ Below w.heap.size w w' := by
  have HRa := hid_of' (fun x => runes_no x a (small9 ha) hv)
  have hY := fun x => say_is c 0 2 x
  rw [show (((2 : Nat) : Int) + 1) = 3 from rfl] at hY
  have HY := hid_of' hY
  clear hY
  obtain ⟨a9, c9, rfl, _⟩ := Rw.form hl
  clear hl
  have r0 := RowAt.new w (nov 0 none 0 0 none 0 0) 34
  have b0 := below_one w (.cells (nov 0 none 0 0 none 0 0) 34)
  go_enter Tryd.func14, Tryd.ntmps14
  go_upto_region 1 with fail
  change Code.wp _ _ _ _ (w.alloc (.cells (nov 0 none 0 0 none 0 0) 34))
  generalize w.alloc (.cells (nov 0 none 0 0 none 0 0) 34) = X0 at r0 b0 ⊢
  go_upto_region 3 with (go_at_call 28; refine (HRa.out _).mono ?_; rintro e w1 ⟨rfl, b1⟩)
  have HX := hid_of' (And.intro (r0.later b1) (bgo b0 b1))
  have hr0 := r0.lt
  go_wp2_with (first | (go_at_call 29; refine (HY.out _).mono ?_; rintro e w4 ⟨v4, rfl, hn4, hb4⟩; clear HY; have hn9 := hid_of' (And.intro hn4 hb4); obtain ⟨g4, g4', rfl, _⟩ := hn4; clear hb4) | (refine wpL_storeNo rfl _ _ rfl rfl rfl (HX.out.1.later hn9.out.2) ?_))
  have k4 := Ch.row (S := fun k => k = w.heap.size) (Ch.refl _ w4) (.inl rfl) (nov (((2 : Nat) : Int) + 1) (some ⟨g4', 0, none⟩) 1 1 (some ⟨g4, 0, none⟩) 1 1)
  have hw1 : w.heap.size + 1 ≤ w1.heap.size := by have := HX.out.1.lt; omega
  have hn6 : NoR w.heap.size (some (c, 0, 2)) (.agg (nov (((2 : Nat) : Int) + 1) (some ⟨g4', 0, none⟩) 1 1 (some ⟨g4, 0, none⟩) 1 1)) (w4.setRow w.heap.size (nov (((2 : Nat) : Int) + 1) (some ⟨g4', 0, none⟩) 1 1 (some ⟨g4, 0, none⟩) 1 1)) := by
    obtain ⟨x, x', e1, e2, e3, e4, e5⟩ := hn9.out.1
    exact ⟨x, x', e1, by omega, by omega, e4.ch k4 (fun e => by have e' : x' = w.heap.size := e; omega), e5.ch k4 (fun e => by have e' : x = w.heap.size := e; omega)⟩
  exact bodyPost_ret (v := .tuple #[.slice none 0 0, .slice none 0 0, .agg (nov (((2 : Nat) : Int) + 1) (some ⟨g4', 0, none⟩) 1 1 (some ⟨g4, 0, none⟩) 1 1)]) (results_ttNo (fn := Tryd.f14) (s := 6) (t := 7) (u := 8) rfl rfl ((HX.out.1.later hn9.out.2).put (nov (((2 : Nat) : Int) + 1) (some ⟨g4', 0, none⟩) 1 1 (some ⟨g4, 0, none⟩) 1 1)) rfl) rfl ⟨_, rfl, hn6, below_row (bgo HX.out.2 hn9.out.2) (Nat.le_refl _) _⟩
theorem rw_apart {e t : TypeId} {size n : Nat} {v : Value} {xs : List Value} {w : World} {b : Nat} {cs : Array Value} (h : Rw e size v n xs w) (hr : RowAt b cs t w) (hne : ¬ t = e) : ∀ k, v.ownBlock = some k → ¬ k = b := by
  intro k hk e'
  rcases h.2 with ⟨rfl, _⟩ | ⟨g, cap, cur, rfl, hg, _⟩
  · cases hk
  · cases hk
    subst e'
    rw [show w.heap[g]? = _ from hr] at hg
    simp only [Option.some.injEq, Obj.cells.injEq] at hg
    exact hne hg.2.1
/-- What the document's apply answers. -/
def RfQ (w : World) (c : ByteArray) (xs : List Int) (l : List Edt) (e : Ending) (w' : World) : Prop := match ckL 0 xs l with
  | some (k, code) => ∃ z, e = .returned (.tuple #[.slice none 0 0, .slice none 0 0, z]) ∧ NoR w.heap.size (some (c, (k : Int), code)) z w' ∧ Below w.heap.size w w'
  | none => ∃ t b, e = .returned (.tuple #[t, b, .agg (nov 0 none 0 0 none 0 0)]) ∧ RwR t (apL xs l) w' ∧ RwE b (ivL xs l) w' ∧ Below w.heap.size w w'
/-- A refusal, laid into the block of the answer. -/
theorem NoR.laid {M P : Nat} {c : ByteArray} {i : Int} {code : Nat} {g g' : Nat} {w : World} (h : NoR M (some (c, i, code)) (.agg (nov (((code : Nat) : Int) + 1) (some ⟨g', 0, none⟩) 1 1 (some ⟨g, 0, none⟩) 1 1)) w) (hP : P < M) (q : Array Value) : NoR M (some (c, i, code)) (.agg (nov (((code : Nat) : Int) + 1) (some ⟨g', 0, none⟩) 1 1 (some ⟨g, 0, none⟩) 1 1)) (w.setRow P q) := by
  have k4 := Ch.row (S := fun k => k = P) (Ch.refl _ w) (.inl rfl) q
  obtain ⟨x, x', e1, e2, e3, e4, e5⟩ := h
  exact ⟨x, x', e1, e2, e3, e4.ch k4 (fun e => by have e' : x' = P := e; omega), e5.ch k4 (fun e => by have e' : x = P := e; omega)⟩
theorem NoR.down {M M' : Nat} {o : Rf} {v : Value} {w : World} (h : NoR M o v w) (hm : M' ≤ M) : NoR M' o v w := by
  match o, h with
  | none, h => exact h
  | some (_, _, _), ⟨g, g', h1, h2, h3, h4, h5⟩ => exact ⟨g, g', h1, by omega, by omega, h4, h5⟩
set_option maxHeartbeats 16000000 in
theorem rapply_is (w : World) (c a : ByteArray) {v : Value} {l : List Edt} (hl : RwE v l w) (ha : a.size ≤ 120) (hv : Lib.validD a.data.toList = true) (hsm : l.length ≤ 30 ∧ ∀ e ∈ l, e.ins.size ≤ 40) :
    Calls Tryd.prog 14 #[.string c, .string a, v] w fun e w' => RfQ w c (rn a.data.toList) l e w' := by
  have hru := rn_ru _ _ (Nat.le_refl _) hv
  have hal := Nat.le_trans (rn_len a.data.toList) (show a.data.toList.length ≤ 120 by rw [Array.length_toList]; exact ha)
  have HRa := hid_of' (fun x => runes_ok x a (small9 ha) hv)
  obtain ⟨xs, hxs⟩ : ∃ xs, xs = rn a.data.toList := ⟨_, rfl⟩
  rw [← hxs] at hru hal HRa ⊢
  obtain ⟨a9, c9, hv9, _⟩ := Rw.form hl
  obtain ⟨nl, hnl⟩ : ∃ nl, nl = l.length := ⟨_, rfl⟩
  rw [← hnl] at hv9
  subst hv9
  have hnb : nl ≤ 30 := by rw [hnl]; exact hsm.1
  have HNL := hid_of' hnl
  have r0 := RowAt.new w (nov 0 none 0 0 none 0 0) 34
  have b0 := below_one w (.cells (nov 0 none 0 0 none 0 0) 34)
  have HL := hid_of' (And.intro (hl.later b0) (And.intro hsm.2 (And.intro hru hal)))
  clear hl hsm hru hal hnl hv ha hxs
  go_enter Tryd.func14, Tryd.ntmps14
  go_upto_region 1 with fail
  change Code.wp _ _ _ _ (w.alloc (.cells (nov 0 none 0 0 none 0 0) 34))
  generalize w.alloc (.cells (nov 0 none 0 0 none 0 0) 34) = X0 at r0 b0 HL ⊢
  generalize hZ : w.heap.size = Z at r0 ⊢
  have HPZ := hid_of' (show Z = w.heap.size from hZ.symm)
  go_upto_region 4 with (go_at_call 28; refine (HRa.out _).mono ?_; rintro e X1 ⟨v1, rfl, h1, o1, p1⟩)
  have HX := hid_of' (And.intro (r0.later p1) (And.intro (bgo b0 p1) (And.intro h1 (HL.out.1.later p1))))
  obtain ⟨a1, c1, e1, _⟩ := h1.form
  obtain ⟨n1, hn1⟩ : ∃ n, n = xs.length := ⟨_, rfl⟩
  rw [← hn1] at e1
  subst e1
  have HN1 := hid_of' hn1
  clear r0 b0 h1 o1 p1 HRa hZ hn1
  go_wp2
  go_loopw [9, 11, 12] (fun tv bv kv wr => ∃ (k : Nat) (ys : List Int) (es : List Edt), kv = .int .i64 (k : Int) ∧ k ≤ nl ∧ RwR tv ys wr ∧ RwE bv es wr ∧ (∀ r ∈ ys, Ru r) ∧ ckL k ys (l.drop k) = ckL 0 xs l ∧ apL ys (l.drop k) = apL xs l ∧ ivL ys (l.drop k) ++ es = ivL xs l ∧ es.length = k ∧ ys.length ≤ 120 + k * 40 ∧ Below X1.heap.size X1 wr) (fun _ _ kv _ => nl - (intOf kv).toNat)
  case atStart =>
    refine ⟨0, xs, [], rfl, Nat.zero_le _, ?_, RwE.nil _, HL.out.2.2.1, by rw [List.drop_zero], by rw [List.drop_zero], by rw [List.drop_zero, List.append_nil], rfl, by have := HL.out.2.2.2; omega, Below.refl _ _⟩
    exact HX.out.2.2.1
  case round =>
    obtain ⟨k, ys, es, rfl, hk, hT, hB, hru, hck, hap, hiv, hel, hyl, hbw⟩ := hrel
    obtain ⟨ta, tc, htv, _⟩ := hT.form
    obtain ⟨la, lc, hbv, _⟩ := Rw.form hB
    obtain ⟨tn, htn⟩ : ∃ tn, tn = ys.length := ⟨_, rfl⟩
    rw [← htn] at htv hyl
    rw [hel] at hbv
    subst htv hbv
    have HEL := hid_of' hel
    clear hel
    by_cases hkq : k < nl
    · have hki : (k : Int) < (nl : Int) := by omega
      obtain ⟨e, he⟩ : ∃ e, l[k]? = some e := ⟨_, List.getElem?_eq_getElem (by rw [← HNL.out]; exact hkq)⟩
      have hdr : l.drop k = e :: l.drop (k + 1) := by
        obtain ⟨k1, e1⟩ := List.getElem?_eq_some_iff.1 he
        rw [List.drop_eq_getElem_cons k1, e1]
      have hes := HL.out.2.1 e (List.mem_of_getElem? he)
      obtain ⟨g3, rfl, hg3, c30, c31, c32⟩ := (HX.out.2.2.2.later hbw).at he
      rw [hdr] at hck hap hiv
      obtain ⟨at_, er, ins⟩ := e
      dsimp only at c30 c31 c32 hes
      have htb : tn ≤ 100000 := by omega
      have b1 := below_one wr (.cells #[.int .i64 at_, .int .i64 er, .string ins] 46)
      have r1 := RowAt.new wr #[.int .i64 at_, .int .i64 er, .string ins] 46
      have HR := hid_of' (And.intro hT (And.intro hB (And.intro hru (And.intro hck (And.intro hap (And.intro hiv (And.intro hbw (And.intro htn hes))))))))
      clear hT hB hru hck hap hiv hbw htn hes hdr he
      go_upto_region 9 with fail
      obtain ⟨P, hPe⟩ : ∃ P, P = wr.heap.size := ⟨_, rfl⟩
      rw [← hPe] at r1 ⊢
      generalize wr.alloc (.cells #[.int .i64 at_, .int .i64 er, .string ins] 46) = W5 at b1 r1 ⊢
      have cP0 : W5.cell? ⟨P, 0, none⟩ = some (.int .i64 at_) := r1.is rfl
      have cP1 : W5.cell? ⟨P, 1, none⟩ = some (.int .i64 er) := r1.is rfl
      have HP := hid_of' (And.intro r1 (And.intro b1 hPe))
      have H6 := hid_of' (And.intro ((HX.out.1.later HR.out.2.2.2.2.2.2.1).later b1) (bgo HX.out.2.1 (bgo HR.out.2.2.2.2.2.2.1 b1)))
      clear b1 r1 hPe c30 c31 c32
      by_cases h1 : at_ < 0
      · have HCE := hid_of' (show ckE tn ⟨at_, er, ins⟩ = some 1 by unfold ckE; rw [if_pos (.inl h1)])
        go_upto_region 10 with fail
        clear cP0 cP1
        have hY := fun x => say_is c (k : Int) 1 x
        rw [show (((1 : Nat) : Int) + 1) = 2 from rfl] at hY
        have HY := hid_of' hY
        clear hY
        go_wp2_with (first | (go_at_call 29; refine (HY.out _).mono ?_; rintro e w7 ⟨v7, rfl, hn7, hb7⟩; clear HY; have hn9 := hid_of' (And.intro hn7 hb7); obtain ⟨g4, g4', rfl, _⟩ := hn7; clear hb7) | (refine wpL_storeNo rfl _ _ rfl rfl rfl (H6.out.1.later hn9.out.2) ?_))
        have hPl := H6.out.1.lt
        have hn6 := NoR.down (NoR.laid hn9.out.1 hPl (nov (((1 : Nat) : Int) + 1) (some ⟨g4', 0, none⟩) 1 1 (some ⟨g4, 0, none⟩) 1 1)) H6.out.2.size
        change bodyPost Tryd.prog Tryd.f14 (fun e w' => RfQ w c xs l e w') .ret _ _
        refine bodyPost_ret (v := .tuple #[.slice none 0 0, .slice none 0 0, .agg (nov (((1 : Nat) : Int) + 1) (some ⟨g4', 0, none⟩) 1 1 (some ⟨g4, 0, none⟩) 1 1)]) (results_ttNo (fn := Tryd.f14) (s := 6) (t := 7) (u := 8) rfl rfl ((H6.out.1.later hn9.out.2).put (nov (((1 : Nat) : Int) + 1) (some ⟨g4', 0, none⟩) 1 1 (some ⟨g4, 0, none⟩) 1 1)) rfl) (by first | rfl | assumption | (trace_state; sorry)) ?_
        unfold RfQ
        rw [← HR.out.2.2.2.1, ckL, ← HR.out.2.2.2.2.2.2.2.1, HCE.out]
        exact ⟨_, rfl, hn6, below_row (bgo H6.out.2 hn9.out.2) (by have := HPZ.out; omega) _⟩
      by_cases h2 : (tn : Int) < at_
      · have HCE := hid_of' (show ckE tn ⟨at_, er, ins⟩ = some 1 by unfold ckE; rw [if_pos (.inr (.inl h2))])
        go_upto_region 10 with fail
        clear cP0 cP1
        have hY := fun x => say_is c (k : Int) 1 x
        rw [show (((1 : Nat) : Int) + 1) = 2 from rfl] at hY
        have HY := hid_of' hY
        clear hY
        go_wp2_with (first | (go_at_call 29; refine (HY.out _).mono ?_; rintro e w7 ⟨v7, rfl, hn7, hb7⟩; clear HY; have hn9 := hid_of' (And.intro hn7 hb7); obtain ⟨g4, g4', rfl, _⟩ := hn7; clear hb7) | (refine wpL_storeNo rfl _ _ rfl rfl rfl (H6.out.1.later hn9.out.2) ?_))
        have hPl := H6.out.1.lt
        have hn6 := NoR.down (NoR.laid hn9.out.1 hPl (nov (((1 : Nat) : Int) + 1) (some ⟨g4', 0, none⟩) 1 1 (some ⟨g4, 0, none⟩) 1 1)) H6.out.2.size
        change bodyPost Tryd.prog Tryd.f14 (fun e w' => RfQ w c xs l e w') .ret _ _
        refine bodyPost_ret (v := .tuple #[.slice none 0 0, .slice none 0 0, .agg (nov (((1 : Nat) : Int) + 1) (some ⟨g4', 0, none⟩) 1 1 (some ⟨g4, 0, none⟩) 1 1)]) (results_ttNo (fn := Tryd.f14) (s := 6) (t := 7) (u := 8) rfl rfl ((H6.out.1.later hn9.out.2).put (nov (((1 : Nat) : Int) + 1) (some ⟨g4', 0, none⟩) 1 1 (some ⟨g4, 0, none⟩) 1 1)) rfl) (by first | rfl | assumption | (trace_state; sorry)) ?_
        unfold RfQ
        rw [← HR.out.2.2.2.1, ckL, ← HR.out.2.2.2.2.2.2.2.1, HCE.out]
        exact ⟨_, rfl, hn6, below_row (bgo H6.out.2 hn9.out.2) (by have := HPZ.out; omega) _⟩
      by_cases h3 : er < 0
      · have HCE := hid_of' (show ckE tn ⟨at_, er, ins⟩ = some 1 by unfold ckE; rw [if_pos (.inr (.inr (.inl h3)))])
        go_upto_region 10 with fail
        clear cP0 cP1
        have hY := fun x => say_is c (k : Int) 1 x
        rw [show (((1 : Nat) : Int) + 1) = 2 from rfl] at hY
        have HY := hid_of' hY
        clear hY
        go_wp2_with (first | (go_at_call 29; refine (HY.out _).mono ?_; rintro e w7 ⟨v7, rfl, hn7, hb7⟩; clear HY; have hn9 := hid_of' (And.intro hn7 hb7); obtain ⟨g4, g4', rfl, _⟩ := hn7; clear hb7) | (refine wpL_storeNo rfl _ _ rfl rfl rfl (H6.out.1.later hn9.out.2) ?_))
        have hPl := H6.out.1.lt
        have hn6 := NoR.down (NoR.laid hn9.out.1 hPl (nov (((1 : Nat) : Int) + 1) (some ⟨g4', 0, none⟩) 1 1 (some ⟨g4, 0, none⟩) 1 1)) H6.out.2.size
        change bodyPost Tryd.prog Tryd.f14 (fun e w' => RfQ w c xs l e w') .ret _ _
        refine bodyPost_ret (v := .tuple #[.slice none 0 0, .slice none 0 0, .agg (nov (((1 : Nat) : Int) + 1) (some ⟨g4', 0, none⟩) 1 1 (some ⟨g4, 0, none⟩) 1 1)]) (results_ttNo (fn := Tryd.f14) (s := 6) (t := 7) (u := 8) rfl rfl ((H6.out.1.later hn9.out.2).put (nov (((1 : Nat) : Int) + 1) (some ⟨g4', 0, none⟩) 1 1 (some ⟨g4, 0, none⟩) 1 1)) rfl) (by first | rfl | assumption | (trace_state; sorry)) ?_
        unfold RfQ
        rw [← HR.out.2.2.2.1, ckL, ← HR.out.2.2.2.2.2.2.2.1, HCE.out]
        exact ⟨_, rfl, hn6, below_row (bgo H6.out.2 hn9.out.2) (by have := HPZ.out; omega) _⟩
      by_cases h4 : (tn : Int) - at_ < er
      · have HCE := hid_of' (show ckE tn ⟨at_, er, ins⟩ = some 1 by unfold ckE; rw [if_pos (.inr (.inr (.inr h4)))])
        go_upto_region 10 with fail
        clear cP0 cP1
        have hY := fun x => say_is c (k : Int) 1 x
        rw [show (((1 : Nat) : Int) + 1) = 2 from rfl] at hY
        have HY := hid_of' hY
        clear hY
        go_wp2_with (first | (go_at_call 29; refine (HY.out _).mono ?_; rintro e w7 ⟨v7, rfl, hn7, hb7⟩; clear HY; have hn9 := hid_of' (And.intro hn7 hb7); obtain ⟨g4, g4', rfl, _⟩ := hn7; clear hb7) | (refine wpL_storeNo rfl _ _ rfl rfl rfl (H6.out.1.later hn9.out.2) ?_))
        have hPl := H6.out.1.lt
        have hn6 := NoR.down (NoR.laid hn9.out.1 hPl (nov (((1 : Nat) : Int) + 1) (some ⟨g4', 0, none⟩) 1 1 (some ⟨g4, 0, none⟩) 1 1)) H6.out.2.size
        change bodyPost Tryd.prog Tryd.f14 (fun e w' => RfQ w c xs l e w') .ret _ _
        refine bodyPost_ret (v := .tuple #[.slice none 0 0, .slice none 0 0, .agg (nov (((1 : Nat) : Int) + 1) (some ⟨g4', 0, none⟩) 1 1 (some ⟨g4, 0, none⟩) 1 1)]) (results_ttNo (fn := Tryd.f14) (s := 6) (t := 7) (u := 8) rfl rfl ((H6.out.1.later hn9.out.2).put (nov (((1 : Nat) : Int) + 1) (some ⟨g4', 0, none⟩) 1 1 (some ⟨g4, 0, none⟩) 1 1)) rfl) (by first | rfl | assumption | (trace_state; sorry)) ?_
        unfold RfQ
        rw [← HR.out.2.2.2.1, ckL, ← HR.out.2.2.2.2.2.2.2.1, HCE.out]
        exact ⟨_, rfl, hn6, below_row (bgo H6.out.2 hn9.out.2) (by have := HPZ.out; omega) _⟩
      go_upto_region 11 with fail
      have hce0 : ckE tn ⟨at_, er, ins⟩ = if Lib.validD ins.data.toList = false then some 2 else none := by
        unfold ckE
        rw [if_neg (by dsimp only; omega)]
      clear cP0 cP1
      have cP2 : W5.cell? ⟨P, 2, none⟩ = some (.string ins) := HP.out.1.is rfl
      have his : ins.size ≤ 1000000000 := by have := HR.out.2.2.2.2.2.2.2.2; omega
      cases hvi : Lib.validD ins.data.toList
      · have HRi := hid_of' (fun x => runes_no x ins his hvi)
        rw [hvi, if_pos rfl] at hce0
        have HCE := hid_of' hce0
        clear hce0 hvi his h1 h2 h3 h4
        go_upto_region 13 with (go_at_call 28; refine (HRi.out _).mono ?_; rintro e W6 ⟨rfl, hb6⟩)
        replace H6 := hid_of' (And.intro (H6.out.1.later hb6) (bgo H6.out.2 hb6))
        clear hb6 cP2 HRi
        have hY := fun x => say_is c (k : Int) 2 x
        rw [show (((2 : Nat) : Int) + 1) = 3 from rfl] at hY
        have HY := hid_of' hY
        clear hY
        go_wp2_with (first | (go_at_call 29; refine (HY.out _).mono ?_; rintro e w7 ⟨v7, rfl, hn7, hb7⟩; clear HY; have hn9 := hid_of' (And.intro hn7 hb7); obtain ⟨g4, g4', rfl, _⟩ := hn7; clear hb7) | (refine wpL_storeNo rfl _ _ rfl rfl rfl (H6.out.1.later hn9.out.2) ?_))
        have hPl := H6.out.1.lt
        have hn6 := NoR.down (NoR.laid hn9.out.1 hPl (nov (((2 : Nat) : Int) + 1) (some ⟨g4', 0, none⟩) 1 1 (some ⟨g4, 0, none⟩) 1 1)) H6.out.2.size
        change bodyPost Tryd.prog Tryd.f14 (fun e w' => RfQ w c xs l e w') .ret _ _
        refine bodyPost_ret (v := .tuple #[.slice none 0 0, .slice none 0 0, .agg (nov (((2 : Nat) : Int) + 1) (some ⟨g4', 0, none⟩) 1 1 (some ⟨g4, 0, none⟩) 1 1)]) (results_ttNo (fn := Tryd.f14) (s := 6) (t := 7) (u := 8) rfl rfl ((H6.out.1.later hn9.out.2).put (nov (((2 : Nat) : Int) + 1) (some ⟨g4', 0, none⟩) 1 1 (some ⟨g4, 0, none⟩) 1 1)) rfl) (by first | rfl | assumption | (trace_state; sorry)) ?_
        unfold RfQ
        rw [← HR.out.2.2.2.1, ckL, ← HR.out.2.2.2.2.2.2.2.1, HCE.out]
        exact ⟨_, rfl, hn6, below_row (bgo H6.out.2 hn9.out.2) (by have := HPZ.out; omega) _⟩
      · have HRi := hid_of' (fun x => runes_ok x ins his hvi)
        rw [hvi, if_neg (by decide)] at hce0
        obtain ⟨px, rfl⟩ : ∃ px : Nat, at_ = (px : Int) := ⟨at_.toNat, by omega⟩
        obtain ⟨ex, rfl⟩ : ∃ ex : Nat, er = (ex : Int) := ⟨er.toNat, by omega⟩
        obtain ⟨rx, hrx⟩ : ∃ rx : Nat, rx = px + ex := ⟨_, rfl⟩
        have hpx : px ≤ rx := by omega
        have hrt : rx ≤ tn := by omega
        have HADD := hid_of' (show wrap64 ((px : Int) + (ex : Int)) = (rx : Int) by rw [wrapIs (by omega) (by omega)]; omega)
        have HCE := hid_of' (And.intro hce0 (And.intro hvi hrx))
        clear hce0 hvi his h1 h2 h3 h4 hrx
        go_upto_region 14 with (go_at_call 28; refine (HRi.out _).mono ?_; rintro e W6 ⟨iv, rfl, hi6, _, hb6⟩)
        obtain ⟨ia, ic, hiv6, _⟩ := hi6.form
        obtain ⟨im, him⟩ : ∃ im, im = (rn ins.data.toList).length := ⟨_, rfl⟩
        rw [← him] at hiv6
        subst hiv6
        have b56 := bgo HP.out.2.1 hb6
        have HG := hid_of' (And.intro hi6 (And.intro (HR.out.1.later b56) (And.intro (HR.out.2.1.later b56) (And.intro (HP.out.1.later hb6) (And.intro b56 him)))))
        have HLT := hid_of' (show ys.length = tn ∧ tn ≤ tc by obtain ⟨_, _, q1, q2, _⟩ := HR.out.1.form; simp only [Value.slice.injEq] at q1; have := HR.out.2.2.2.2.2.2.2.1; omega)
        clear hi6 him b56 hb6 cP2 HRi H6
        have HU := hid_of' (fun x => run_sub ta tn tc px rx hpx (by have := HLT.out; omega) x)
        obtain ⟨u14, hu14⟩ : ∃ u, u = sliced ta px rx tc 1 := ⟨_, rfl⟩
        have HS := hid_of' (fun (x : World) (hx : Below W6.heap.size W6 x) => so_sub (HG.out.2.1.later hx) hpx (by have := HLT.out; omega))
        rw [← hu14] at HU HS
        clear hu14
        have hgl : ((ys.take rx).drop px).length ≤ 100000 := by rw [List.length_drop, List.length_take]; omega
        obtain ⟨gs, hgs⟩ : ∃ gs, gs = (ys.take rx).drop px := ⟨_, rfl⟩
        rw [← hgs] at HS hgl
        have HGS := hid_of' (And.intro hgs hgl)
        clear hgs hgl
        go_upto_region 15 with (first
          | (refine wpL_lit0 rfl rfl ?_; intro g14 x14 q1 q2 q3; have H14 := hid_of' (And.intro q1 (And.intro q2 q3)); have cA0 : x14.cell? ⟨P, 0, none⟩ = some (.int .i64 (px : Int)) := (HG.out.2.2.2.1.later q3).is rfl; have cA1 : x14.cell? ⟨P, 1, none⟩ = some (.int .i64 (ex : Int)) := (HG.out.2.2.2.1.later q3).is rfl; clear q1 q2 q3)
          | (refine wpL_addI rfl rfl rfl rfl HADD.out ?_)
          | (refine wpL_subG rfl rfl rfl rfl rfl (HU.out _) ?_)
          | (at_builtin; refine wpL_appR (m := gs) rfl _ _ rfl rfl rfl H14.out.1 (HS.out _ H14.out.2.2) (by have := HGS.out.2; simp only [List.length_nil]; omega) ?_; intro v16 w14 q1 q2 q3; have H15 := hid_of' (And.intro q1 (H14.out.2.2.grown q2 H14.out.2.2.size (fun g hg => by cases hg; exact H14.out.2.1))); clear q1 q2 q3))
        have hg16 : RwR v16 gs w14 := H15.out.1
        obtain ⟨ga, gc, hv16, _⟩ := hg16.form
        obtain ⟨gn, hgn⟩ : ∃ gn, gn = gs.length := ⟨_, rfl⟩
        rw [← hgn] at hv16
        subst hv16
        have cP0 : w14.cell? ⟨P, 0, none⟩ = some (.int .i64 (px : Int)) := (HG.out.2.2.2.1.later H15.out.2).is rfl
        have hPl : P < w14.heap.size := (HG.out.2.2.2.1.later H15.out.2).lt
        have HUt := hid_of' (fun (x : World) (hx : Below w14.heap.size w14 x) => utf8_is (hg16.later hx) (fun r hr => HR.out.2.2.1 r (by rw [HGS.out.1] at hr; exact List.mem_of_mem_take (List.mem_of_mem_drop hr))) (by have := HGS.out.2; omega))
        obtain ⟨t, ht⟩ : ∃ t, t = tx gs := ⟨_, rfl⟩
        rw [← ht] at HUt
        have HTT := hid_of' (And.intro ht hgn)
        clear ht hgn hg16 cA0 cA1
        refine wp_region_tailN 9 (by kernel_rfl) (fun _ => none) (by kernel_rfl) (by kernel_rfl) (by decide) (fun i v x => match i with
          | 0 => v = .pointer (some ⟨P, 0, none⟩)
          | 1 => v = .int .i64 (px : Int)
          | 2 => v = .slice ia im ic
          | 3 => v = .int .i64 (im : Int)
          | 4 => v = .slice ga gn gc
          | 5 => v = .string t
          | 6 => v = .agg #[.int .i64 (px : Int), .int .i64 (im : Int), .string t]
          | 7 => ∃ g, v = .slice (some ⟨g, 0, none⟩) 1 1 ∧ w14.heap.size ≤ g ∧ RowAt g #[.int .i64 (px : Int), .int .i64 (im : Int), .string t] 46 x
          | 8 => v = .slice la k lc
          | _ => True) (fun _ => false) (fun _ _ _ _ h => by cases h) ?_ ?_ ?_
        · intro i v x x' hR hb
          match i, hR with
          | 0, h => exact h
          | 1, h => exact h
          | 2, h => exact h
          | 3, h => exact h
          | 4, h => exact h
          | 5, h => exact h
          | 6, h => exact h
          | 7, h => exact (let ⟨g, h1, h2, h3⟩ := h; ⟨g, h1, h2, h3.later hb⟩)
          | 8, h => exact h
          | m + 9, h => exact h
        · intro i o hi ho q x vals hX hdep hoth
          have t13 : q.tmps[13]? = some (.pointer (some ⟨P, 0, none⟩)) := by rw [hoth 13 (by kernel_rfl)]; rfl
          have t14 : q.tmps[14]? = some (.slice ia im ic) := by rw [hoth 14 (by kernel_rfl)]; rfl
          have t16 : q.tmps[16]? = some (.slice ga gn gc) := by rw [hoth 16 (by kernel_rfl)]; rfl
          have t11 : q.tmps[11]? = some (.slice la k lc) := by rw [hoth 11 (by kernel_rfl)]; rfl
          match i, hi, ho with
          | 0, _, ho =>
            simp only [List.getElem?_cons_zero, Option.some.injEq] at ho
            subst ho
            unfold Oper.wp
            simp [execOp, go_sem, t13]
            exact came _ rfl (Below.refl _ _) rfl (fun h => absurd h (by decide))
          | 1, _, ho =>
            simp only [List.getElem?_cons_succ, List.getElem?_cons_zero, Option.some.injEq] at ho
            subst ho
            obtain ⟨u0, e0⟩ := hdep ⟨0, .data⟩ (by simp) rfl _ 87 rfl rfl
            rw [show vals 0 = .pointer (some ⟨P, 0, none⟩) from e0] at u0
            have cc : x.cell? ⟨P, 0, none⟩ = some (.int .i64 (px : Int)) := by rw [hX.cell hPl]; exact cP0
            unfold Oper.wp
            simp [execOp, go_sem, u0, cc]
            exact came _ rfl (Below.refl _ _) rfl (fun h => absurd h (by decide))
          | 2, _, ho =>
            simp only [List.getElem?_cons_succ, List.getElem?_cons_zero, Option.some.injEq] at ho
            subst ho
            unfold Oper.wp
            simp [execOp, go_sem, t14]
            exact came _ rfl (Below.refl _ _) rfl (fun h => absurd h (by decide))
          | 3, _, ho =>
            simp only [List.getElem?_cons_succ, List.getElem?_cons_zero, Option.some.injEq] at ho
            subst ho
            obtain ⟨u2, e2⟩ := hdep ⟨2, .data⟩ (by simp) rfl _ 89 rfl rfl
            rw [show vals 2 = .slice ia im ic from e2] at u2
            unfold Oper.wp
            simp [go_sem, u2]
            exact came _ rfl (Below.refl _ _) rfl (fun h => absurd h (by decide))
          | 4, _, ho =>
            simp only [List.getElem?_cons_succ, List.getElem?_cons_zero, Option.some.injEq] at ho
            subst ho
            unfold Oper.wp
            simp [execOp, go_sem, t16]
            exact came _ rfl (Below.refl _ _) rfl (fun h => absurd h (by decide))
          | 5, _, ho =>
            simp only [List.getElem?_cons_succ, List.getElem?_cons_zero, Option.some.injEq] at ho
            subst ho
            obtain ⟨u4, e4⟩ := hdep ⟨4, .data⟩ (by simp) rfl _ 91 rfl rfl
            rw [show vals 4 = .slice ga gn gc from e4] at u4
            unfold Oper.wp
            simp [go_sem, u4]
            refine (HUt.out x hX).mono ?_
            rintro r x1 ⟨rfl, hb1⟩
            exact came _ rfl hb1 rfl (fun h => absurd h (by decide))
          | 6, _, ho =>
            simp only [List.getElem?_cons_succ, List.getElem?_cons_zero, Option.some.injEq] at ho
            subst ho
            obtain ⟨u1, e1⟩ := hdep ⟨1, .data⟩ (by simp) rfl _ 88 rfl rfl
            rw [show vals 1 = .int .i64 (px : Int) from e1] at u1
            obtain ⟨u3, e3⟩ := hdep ⟨3, .data⟩ (by simp) rfl _ 90 rfl rfl
            rw [show vals 3 = .int .i64 (im : Int) from e3] at u3
            obtain ⟨u5, e5⟩ := hdep ⟨5, .data⟩ (by simp) rfl _ 92 rfl rfl
            rw [show vals 5 = .string t from e5] at u5
            unfold Oper.wp
            simp [execOp, go_sem, u1, u3, u5]
            exact came _ rfl (Below.refl _ _) rfl (fun h => absurd h (by decide))
          | 7, _, ho =>
            simp only [List.getElem?_cons_succ, List.getElem?_cons_zero, Option.some.injEq] at ho
            subst ho
            obtain ⟨u6, e6⟩ := hdep ⟨6, .data⟩ (by simp) rfl _ 93 rfl rfl
            rw [show vals 6 = .agg #[.int .i64 (px : Int), .int .i64 (im : Int), .string t] from e6] at u6
            unfold Oper.wp
            simp [execOp, go_sem, u6]
            exact came _ rfl (below_one _ _) ⟨x.heap.size, rfl, hX.size, RowAt.new x _ _⟩ (fun h => absurd h (by decide))
          | 8, _, ho =>
            simp only [List.getElem?_cons_succ, List.getElem?_cons_zero, Option.some.injEq] at ho
            subst ho
            unfold Oper.wp
            simp [execOp, go_sem, t11]
            exact came _ rfl (Below.refl _ _) rfl (fun h => absurd h (by decide))
          | m + 9, hi, _ => exact absurd hi (by omega)
        · intro vals W7 hX hR _
          obtain ⟨g9, f7, hg9, r9⟩ : ∃ g, vals 7 = .slice (some ⟨g, 0, none⟩) 1 1 ∧ w14.heap.size ≤ g ∧ RowAt g #[.int .i64 (px : Int), .int .i64 (im : Int), .string t] 46 W7 := hR 7 (by decide)
          have f0 : vals 0 = .pointer (some ⟨P, 0, none⟩) := hR 0 (by decide)
          have f1 : vals 1 = .int .i64 (px : Int) := hR 1 (by decide)
          have f2 : vals 2 = .slice ia im ic := hR 2 (by decide)
          have f3 : vals 3 = .int .i64 (im : Int) := hR 3 (by decide)
          have f4 : vals 4 = .slice ga gn gc := hR 4 (by decide)
          have f5 : vals 5 = .string t := hR 5 (by decide)
          have f6 : vals 6 = .agg #[.int .i64 (px : Int), .int .i64 (im : Int), .string t] := hR 6 (by decide)
          have f8 : vals 8 = .slice la k lc := hR 8 (by decide)
          simp only [List.drop, List.take, putAll, List.setIfInBounds_toArray, List.set_cons_succ, List.set_cons_zero, f0, f1, f2, f3, f4, f5, f6, f7, f8]
          clear f0 f1 f2 f3 f4 f5 f6 f7 f8 hR
          have b67 : Below W6.heap.size W6 W7 := bgo H15.out.2 hX
          have hiE : (⟨(px : Int), (im : Int), t⟩ : Edt) = ivE ys ⟨(px : Int), (ex : Int), ins⟩ := by
            unfold ivE
            dsimp only
            rw [Int.toNat_natCast, Int.toNat_natCast, ← HCE.out.2.2, HTT.out.1, HGS.out.1, HG.out.2.2.2.2.2]
          have hv1 : RwE (.slice (some ⟨g9, 0, none⟩) 1 1) [⟨(px : Int), (im : Int), t⟩] W7 := RwE.one (e := ⟨(px : Int), (im : Int), t⟩) r9
          have hso := (HG.out.2.2.1.later b67).so
          rw [HEL.out] at hso
          have HV := hid_of' (And.intro hv1 (And.intro hso (And.intro b67 (And.intro hiE (And.intro hX hg9)))))
          clear hv1 hso b67 hiE hX hg9 r9 cP0 hPl
          have hk9 : ([(⟨(px : Int), (im : Int), t⟩ : Edt)]).length + es.length ≤ 4398046511104 := by have := HEL.out; show 1 + _ ≤ _; omega
          go_upto_region 16 with (at_builtin; refine wpL_appE (m := es) rfl _ _ rfl rfl rfl HV.out.1 (by rw [HEL.out]; exact HV.out.2.1) hk9 ?_; intro u8 w15 q1 q2 q3; have H16 := hid_of' (And.intro q1 (HV.out.2.2.2.2.1.grown q2 HV.out.2.2.2.2.1.size (fun g hg => by cases hg; exact HV.out.2.2.2.2.2))); clear q1 q2 q3)
          clear hk9
          obtain ⟨a8, c8, hu8, _⟩ := Rw.form H16.out.1
          obtain ⟨n8, hn8⟩ : ∃ n8, n8 = ([(⟨(px : Int), (im : Int), t⟩ : Edt)] ++ es).length := ⟨_, rfl⟩
          rw [← hn8] at hu8
          subst hu8
          have b615 : Below W6.heap.size W6 w15 := bgo H15.out.2 H16.out.2
          have HW := hid_of' (And.intro H16.out.1 (And.intro b615 (And.intro (HG.out.2.1.later b615) (And.intro (HG.out.1.later b615) (HG.out.2.2.2.1.later b615)))))
          have HIE := hid_of' HV.out.2.2.2.1
          clear b615 hn8 HU HS HV H16 H15
          have HU := hid_of' (fun x => run_subH ta tn tc px (by have := HLT.out; omega) x)
          obtain ⟨u14, hu14⟩ : ∃ u, u = sliced ta 0 px tc 1 := ⟨_, rfl⟩
          have HS := hid_of' (fun (x : World) (hx : Below w15.heap.size w15 x) => so_sub (HW.out.2.2.1.later hx) (Nat.zero_le px) (by have := HLT.out; omega))
          rw [← hu14] at HU HS
          clear hu14
          rw [List.drop_zero] at HS
          have hgl : (ys.take px).length ≤ 100000 := by rw [List.length_take]; omega
          obtain ⟨y1, hy1⟩ : ∃ y1, y1 = ys.take px := ⟨_, rfl⟩
          rw [← hy1] at HS hgl
          have HY1 := hid_of' (And.intro hy1 hgl)
          clear hy1 hgl
          go_upto_region 17 with (first
            | (refine wpL_lit0 rfl rfl ?_; intro g17 x17 q1 q2 q3; have H17 := hid_of' (And.intro q1 (And.intro q2 q3)); have cA0 : x17.cell? ⟨P, 0, none⟩ = some (.int .i64 (px : Int)) := (HW.out.2.2.2.2.later q3).is rfl; clear q1 q2 q3)
            | (refine wpL_subG rfl rfl rfl rfl rfl (HU.out _) ?_)
            | (at_builtin; refine wpL_appR (m := y1) rfl _ _ rfl rfl rfl H17.out.1 (HS.out _ H17.out.2.2) (by have := HY1.out.2; simp only [List.length_nil]; omega) ?_; intro v17 w16 q1 q2 q3; have H18 := hid_of' (And.intro (show RwR v17 y1 w16 from q1) (And.intro (H17.out.2.2.grown q2 H17.out.2.2.size (fun g hg => by cases hg; exact H17.out.2.1)) (fun g hg => (q3 g hg).elim (fun h => by cases h; exact H17.out.2.1) (fun h => Nat.le_trans H17.out.2.2.size h) : ∀ g, v17.ownBlock = some g → w15.heap.size ≤ g))); clear q1 q2 q3))
          clear cA0
          obtain ⟨a17, c17, hv17, _⟩ := H18.out.1.form
          obtain ⟨n17, hn17⟩ : ∃ n, n = y1.length := ⟨_, rfl⟩
          rw [← hn17] at hv17
          subst hv17
          clear hn17
          have hin := (HW.out.2.2.2.1.later H18.out.2.1).so
          rw [← HG.out.2.2.2.2.2] at hin
          have HIN := hid_of' hin
          clear hin
          have hl17 : y1.length + (rn ins.data.toList).length ≤ 4398046511104 := by
            have h1 := rn_len ins.data.toList
            have h2 : ins.data.toList.length = ins.size := Array.length_toList
            have h3 := HR.out.2.2.2.2.2.2.2.2
            have h4 := HY1.out.2
            omega
          go_upto_region 18 with (at_builtin; refine wpL_appR (m := rn ins.data.toList) rfl _ _ rfl rfl rfl H18.out.1 (by rw [← HG.out.2.2.2.2.2]; exact HIN.out) hl17 ?_; intro v18 w17 q1 q2 q3; have H19 := hid_of' (And.intro q1 (And.intro (H18.out.2.1.grown q2 H18.out.2.1.size (fun g hg => H18.out.2.2 g hg)) (fun g hg => (q3 g hg).elim (fun h => H18.out.2.2 g h) (fun h => Nat.le_trans H18.out.2.1.size h) : ∀ g, v18.ownBlock = some g → w15.heap.size ≤ g))); clear q1 q2 q3)
          clear hl17 HIN
          obtain ⟨a18, c18, hv18, _⟩ := H19.out.1.form
          obtain ⟨n18, hn18⟩ : ∃ n, n = (y1 ++ rn ins.data.toList).length := ⟨_, rfl⟩
          rw [← hn18] at hv18
          subst hv18
          clear hn18
          have cB0 : w17.cell? ⟨P, 0, none⟩ = some (.int .i64 (px : Int)) := (HW.out.2.2.2.2.later H19.out.2.1).is rfl
          have cB1 : w17.cell? ⟨P, 1, none⟩ = some (.int .i64 (ex : Int)) := (HW.out.2.2.2.2.later H19.out.2.1).is rfl
          replace HU := hid_of' (fun x => run_subL ta tn tc rx hrt x)
          obtain ⟨u18, hu18⟩ : ∃ u, u = sliced ta rx tn tc 1 := ⟨_, rfl⟩
          have hs18 := so_sub (HW.out.2.2.1.later H19.out.2.1) hrt (by have := HLT.out; omega)
          rw [← HLT.out.1, List.take_length, HLT.out.1] at hs18
          rw [← hu18] at HU hs18
          have HS8 := hid_of' hs18
          clear hu18 hs18 HS
          have hl18 : (y1 ++ rn ins.data.toList).length + (ys.drop rx).length ≤ 4398046511104 := by
            have h1 := rn_len ins.data.toList
            have h2 : ins.data.toList.length = ins.size := Array.length_toList
            have h3 := HR.out.2.2.2.2.2.2.2.2
            have h4 := HY1.out.2
            have h5 := HLT.out.1
            rw [List.length_append, List.length_drop]
            omega
          go_upto_region 7 with (first
            | (refine wpL_addI rfl rfl rfl rfl HADD.out ?_)
            | (refine wpL_subG rfl rfl rfl rfl rfl (HU.out _) ?_)
            | (at_builtin; refine wpL_appR (m := ys.drop rx) rfl _ _ rfl rfl rfl H19.out.1 HS8.out hl18 ?_; intro v19 w18 q1 q2 q3; have H20 := hid_of' (And.intro q1 (H19.out.2.1.grown q2 H19.out.2.1.size (fun g hg => H19.out.2.2 g hg))); clear q1 q2 q3))
          clear hl18 HS8 cB0 cB1
          have hap' : (y1 ++ rn ins.data.toList) ++ ys.drop rx = apE ys ⟨(px : Int), (ex : Int), ins⟩ := by
            unfold apE
            dsimp only
            rw [Int.toNat_natCast, Int.toNat_natCast, ← HCE.out.2.2, HY1.out.1, List.append_assoc]
          have h20 := H20.out
          rw [hap'] at h20
          obtain ⟨a19, c19, hv19, _⟩ := h20.1.form
          obtain ⟨n19, hn19⟩ : ∃ n, n = (apE ys ⟨(px : Int), (ex : Int), ins⟩).length := ⟨_, rfl⟩
          rw [← hn19] at hv19
          subst hv19
          have HZ9 := hid_of' h20
          clear h20 hap' hn19
          go_wp2
          go_roundw
          case rel =>
            obtain ⟨e1, e2, e3, e4, e5, e6, e7, e8, e9⟩ := HR.out
            have hce' : ckE ys.length ⟨(px : Int), (ex : Int), ins⟩ = none := by rw [← e8]; exact HCE.out.1
            have hle' := apE_le hce'
            dsimp only at hle' e9
            rw [ckL, hce'] at e4
            dsimp only at e4
            rw [apL] at e5
            rw [ivL, List.append_assoc] at e6
            refine ⟨k + 1, _, [ivE ys ⟨(px : Int), (ex : Int), ins⟩] ++ es, by go_num, by omega, HZ9.out.1, ?_, apE_ru (e := ⟨(px : Int), (ex : Int), ins⟩) e3 HCE.out.2.1, e4, e5, e6, ?_, by omega, ?_⟩
            · rw [← HIE.out]
              exact HW.out.1.later HZ9.out.2
            · rw [List.length_append, HEL.out]
              show 1 + k = k + 1
              omega
            · exact bgo (bgo e7 HG.out.2.2.2.2.1) (bgo HW.out.2.1 HZ9.out.2)
          case measure => simp [intOf]; omega
    · have hki : ¬ (k : Int) < (nl : Int) := by omega
      obtain rfl : k = nl := by omega
      have hnil : l.drop k = [] := List.drop_eq_nil_of_le (by rw [← HNL.out]; exact Nat.le_refl _)
      rw [hnil] at hck hap hiv
      have H9 := hid_of' (HX.out.1.later hbw)
      have HR := hid_of' (And.intro hT (And.intro hB (And.intro hck (And.intro hap (And.intro hiv hbw)))))
      clear hT hB hru hck hap hiv hbw htn hnil
      go_wp2_with (refine wpL_storeNo rfl _ _ rfl rfl rfl H9.out ?_)
      have k4 := Ch.row (S := fun k => k = Z) (Ch.refl _ wr) (.inl rfl) (nov 0 none 0 0 none 0 0)
      refine bodyPost_ret (v := .tuple #[.slice ta tn tc, .slice la k lc, .agg (nov 0 none 0 0 none 0 0)]) (results_ttNo (fn := Tryd.f14) (s := 6) (t := 7) (u := 8) rfl rfl (H9.out.put (nov 0 none 0 0 none 0 0)) rfl) rfl ?_
      obtain ⟨q1, q2, q3, q4, q5, q6⟩ := HR.out
      unfold RfQ
      rw [← q3]
      refine ⟨_, _, rfl, ?_, ?_, below_row (bgo HX.out.2.1 q6) (by have := HPZ.out; omega) _⟩
      · rw [← q4]
        exact Rw.ch q1 k4 (rw_apart q1 H9.out (by decide))
      · rw [← q5]
        exact Rw.ch q2 k4 (rw_apart q2 H9.out (by decide))
end Go.Proofs.YtaimmjoekahleaaDoor
