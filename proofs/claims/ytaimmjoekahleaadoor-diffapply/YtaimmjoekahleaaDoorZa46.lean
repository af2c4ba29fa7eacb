
/-
  diff.perform: edits, done one behind the other.
-/
import Derived.Test.YtaimmjoekahleaaDoorZa38
import Derived.Test.YtaimmjoekahleaaDoorZa45
import Derived.Test.YtaimmjoekahleaaDoorZa27
namespace Go.Proofs.YtaimmjoekahleaaDoor
open Go.RowKit Go.Extern.Stop Go.Stop Go.Extern
set_option maxRecDepth 100000

theorem make_ed (w : World) (N : Nat) (hN : N ≤ 1000000) : ∃ w', (Instr.makeSlice 22 (.int .i64 0) (.int .i64 (N : Int))).run Tryd.prog w = .ok (.slice (some ⟨w.heap.size, 0, none⟩) 0 N) w' ∧ RwE (.slice (some ⟨w.heap.size, 0, none⟩) 0 N) [] w' ∧ Below w.heap.size w w' := by
  obtain ⟨i, hi, hz, hs, hb⟩ := info_parts info_e
  have h := run_make (P := Tryd.prog) w 22 46 i _ Tryd.underlying22 hi hz .i64 .i64 0 (N : Int) (by omega) (by omega) (by rw [hb]; omega) (by omega)
  rw [Int.toNat_natCast, hs] at h
  refine ⟨_, h, ⟨rfl, .inr ⟨w.heap.size, N, _, rfl, heap_alloc_new w _, Nat.zero_le _, by unfold maxLen; omega, ?_, rfl⟩⟩, below_one _ _⟩
  rw [size_madeCells]
  exact Nat.le_refl _
section
variable {ops : Array Oper} {rest : List Oper} {o : Oper} {A : Act} {w : World} {Q : Exit → Act → World → Prop}
theorem wpL_makeE (hgd : o.guard = none) (l c : Operand) (ho : o.op = .makeSlice 22 l c) {N : Nat} (hl : A.eval l = .int .i64 0) (hc : A.eval c = .int .i64 (N : Int)) (hN : N ≤ 1000000)
    (k : ∀ w', RwE (.slice (some ⟨w.heap.size, 0, none⟩) 0 N) [] w' → Below w.heap.size w w' → wpList Tryd.prog ops Q rest (A.put o.dst (.slice (some ⟨w.heap.size, 0, none⟩) 0 N)) w') : wpList Tryd.prog ops Q (o :: rest) A w := by
  refine wpList_plain hgd fun _ hK => ?_
  obtain ⟨w', h1, h2, h3⟩ := make_ed w N hN
  unfold Oper.wp execOp
  simp only [ho, hl, hc, Sem.run_bind, h1, Result.andThen]
  exact hK _ _ (k w' h2 h3)
end
set_option maxHeartbeats 4000000 in
theorem perform_bad {ad : Nat → Addr} {w : World} (E : Env3 ad w) (c a : ByteArray) {v : Value} {l : List Edt} (hl : RwE v l w) (ha : a.size ≤ 70368744177664) (hv : Lib.validD a.data.toList = false) :
    Calls Tryd.prog 13 #[.string c, .string a, v] w fun e w' => ∃ z, e = .returned (.tuple #[.slice none 0 0, .slice none 0 0, z]) ∧ ErrR ad w.heap.size (some (c, 0, 2)) z w' ∧ Below w.heap.size w w' := by
  have HV := hid_of' (valid_is E.env.u8 a ha)
  rw [hv] at HV
  have HT := hid_of' E.env.tx
  have HN := fun x => hid_of' (newR (ad := ad) c 0 2 (by omega) x)
  obtain ⟨a9, c9, rfl, _⟩ := Rw.form hl
  clear E hl
  go_enter Tryd.func13, Tryd.ntmps13
  go_upto_region 2 with (go_at_call 23; (with_reducible refine HV.out.mono ?_); rintro e w1 ⟨rfl, hb1⟩)
  have ct : w1.cell? ⟨0, 0, none⟩ = some (.iface 154 (.pointer (some (ad 2)))) := HT.out.later hb1
  go_wp2_with (go_at_call 24; refine ((HN w1).out.mono ?_); rintro e w2 ⟨v, rfl, he, hb2⟩)
  go_ret3
  exact ⟨_, rfl, he.mono hb1.size, bgo hb1 hb2⟩
/-- What perform answers. -/
def PfQ (ad : Nat → Addr) (w : World) (c : ByteArray) (xs : List Int) (l : List Edt) (e : Ending) (w' : World) : Prop := match ckL 0 xs l with
  | some (k, code) => ∃ z, e = .returned (.tuple #[.slice none 0 0, .slice none 0 0, z]) ∧ ErrR ad w.heap.size (some (c, (k : Int), code)) z w' ∧ Below w.heap.size w w'
  | none => ∃ t b, e = .returned (.tuple #[t, b, .nilIface]) ∧ RwR t (apL xs l) w' ∧ RwE b (ivL xs l) w' ∧ (∀ k, t.ownBlock = some k → w.heap.size ≤ k) ∧ (∀ k, b.ownBlock = some k → w.heap.size ≤ k) ∧ Below w.heap.size w w'
/-- Edits that are small enough. -/
def Sml (l : List Edt) : Prop := l.length ≤ 1000 ∧ ∀ e ∈ l, e.ins.size ≤ 10000

set_option maxHeartbeats 16000000 in
theorem perform_is {ad : Nat → Addr} {w : World} (E : Env3 ad w) (c a : ByteArray) {v : Value} {l : List Edt} (hl : RwE v l w) (ha : a.size ≤ 1000000) (hv : Lib.validD a.data.toList = true) (hsm : Sml l) :
    Calls Tryd.prog 13 #[.string c, .string a, v] w fun e w' => PfQ ad w c (rn a.data.toList) l e w' := by
  have HV := hid_of' (valid_is E.env.u8 a (by omega))
  rw [hv] at HV
  have hru := rn_ru _ _ (Nat.le_refl _) hv
  have hal := Nat.le_trans (rn_len a.data.toList) (show a.data.toList.length ≤ 1000000 by rw [Array.length_toList]; exact ha)
  have HRa := hid_of' (fun x => runes_new x a (by omega))
  have has : a.size ≤ 70368744177664 := by omega
  have HA := hid_of' (And.intro hru (And.intro hal has))
  have HE := hid_of' (And.intro E (And.intro hl hsm))
  obtain ⟨xs, hxs⟩ : ∃ xs, xs = rn a.data.toList := ⟨_, rfl⟩
  rw [← hxs] at HA ⊢
  have HXS := hid_of' hxs
  clear hxs
  obtain ⟨a9, c9, hv9, _⟩ := Rw.form hl
  obtain ⟨nl, hnl⟩ : ∃ nl, nl = l.length := ⟨_, rfl⟩
  rw [← hnl] at hv9
  subst hv9
  have hnb : nl ≤ 1000 := by rw [hnl]; exact hsm.1
  have hnb6 : nl ≤ 1000000 := by omega
  have HNL := hid_of' hnl
  clear E hl hsm hru hal hnl hv ha
  go_enter Tryd.func13, Tryd.ntmps13
  go_upto_region 3 with (go_at_call 23; (with_reducible refine HV.out.mono ?_); rintro e w1 ⟨rfl, hb1⟩)
  go_upto_region 4 with (refine wpL_runes rfl _ rfl rfl HA.out.2.2 ?_; intro tc0 w2 hR2 hb2)
  have H2 := hid_of' (And.intro hR2 (bgo hb1 hb2))
  have hw12 := hb1.size
  have HW12 := hid_of' hw12
  have HBt := hid_of' hb2
  clear hR2 hw12 hb2
  obtain ⟨tn0, htn0⟩ : ∃ tn0, tn0 = (rn a.data.toList).length := ⟨_, rfl⟩
  rw [← htn0] at H2 ⊢
  have HTN := hid_of' htn0
  clear htn0
  go_upto_region 5 with (refine wpL_makeE rfl (.const (.int .i64 0)) (.tmp 25) rfl rfl rfl hnb6 ?_; intro w3 hR3 hb3)
  have HB3 := hid_of' (And.intro (bgo H2.out.2 hb3) (And.intro hR3 (And.intro (H2.out.1.later hb3) (And.intro HBt.out.size HW12.out))))
  have HW1 : Hid (w1.heap.size < w2.heap.size) := by show _ < _; exact Rw.lt H2.out.1 _ rfl
  obtain ⟨T0, hT0⟩ : ∃ T0, T0 = w1.heap.size := ⟨_, rfl⟩
  obtain ⟨B0, hB0⟩ : ∃ B0, B0 = w2.heap.size := ⟨_, rfl⟩
  rw [← hT0] at HB3 HW1 ⊢
  rw [← hB0] at HB3 HW1 ⊢
  have HS := hid_of' (And.intro (show w.heap.size ≤ T0 by rw [hT0]; exact hb1.size) (And.intro (show ¬ T0 = B0 by have := HW1.out; omega) (show w.heap.size ≤ B0 by have := HW1.out; have := hb1.size; omega)))
  rw [← HXS.out] at HB3 HTN
  clear hb3 hR3 hb1 hT0 hB0 H2 HBt HV HRa HW12 HW1
  go_wp2
  go_loopw [9, 10, 29] (fun tv bv kv wr => ∃ (k : Nat) (ys : List Int) (es : List Edt), kv = .int .i64 (k : Int) ∧ k ≤ nl ∧ RwR tv ys wr ∧ RwE bv es wr ∧ es.length = k ∧ (∀ r ∈ ys, Ru r) ∧ ys.length ≤ 1000000 + k * 10000 ∧ ckL k ys (l.drop k) = ckL 0 xs l ∧ apL ys (l.drop k) = apL xs l ∧ ivL ys (l.drop k) ++ es.reverse = ivL xs l ∧ (∀ g, tv.ownBlock = some g → w.heap.size ≤ g ∧ ¬ bv.ownBlock = some g) ∧ (∀ g, bv.ownBlock = some g → w.heap.size ≤ g) ∧ Below w.heap.size w wr) (fun _ _ kv _ => nl - (intOf kv).toNat)
  case atStart =>
    refine ⟨0, xs, [], rfl, Nat.zero_le _, ?_, HB3.out.2.1, rfl, HA.out.1, by have := HA.out.2.1; omega, by rw [List.drop_zero], by rw [List.drop_zero], by rw [List.drop_zero, List.reverse_nil, List.append_nil], ?_, ?_, HB3.out.1⟩
    · rw [HTN.out] at HB3
      rw [HTN.out]
      exact HB3.out.2.2.1
    · intro g hg
      cases hg
      exact ⟨HS.out.1, fun e => by cases e; exact HS.out.2.1 rfl⟩
    · intro g hg
      cases hg
      exact HS.out.2.2
  case round =>
    obtain ⟨k, ys, es, rfl, hk, hT, hB, hel, hru, hyl, hck, hap, hiv, ho1, ho2, hbw⟩ := hrel
    obtain ⟨ta, tc, htv, _⟩ := hT.form
    obtain ⟨la, lc, hbv, _⟩ := Rw.form hB
    obtain ⟨tn, htn⟩ : ∃ tn, tn = ys.length := ⟨_, rfl⟩
    obtain ⟨ln, hln⟩ : ∃ ln, ln = es.length := ⟨_, rfl⟩
    rw [← htn] at htv hyl
    rw [← hln] at hbv hel
    subst htv hbv
    have HEL := hid_of' hel
    clear hel
    by_cases hkq : k < nl
    · have hki : (k : Int) < (nl : Int) := by omega
      obtain ⟨e, he⟩ : ∃ e, l[k]? = some e := ⟨_, List.getElem?_eq_getElem (by rw [← HNL.out]; exact hkq)⟩
      have hdr : l.drop k = e :: l.drop (k + 1) := by
        obtain ⟨k1, e1⟩ := List.getElem?_eq_some_iff.1 he
        rw [List.drop_eq_getElem_cons k1, e1]
      have hes := HE.out.2.2.2 e (List.mem_of_getElem? he)
      obtain ⟨g3, rfl, hg3, c30, c31, c32⟩ := (HE.out.2.1.later hbw).at he
      rw [hdr] at hck hap hiv
      obtain ⟨at_, er, ins⟩ := e
      dsimp only at c30 c31 c32 hes
      have htb : tn ≤ 11000000 := by omega
      have HC := hid_of' (fun (x : World) (hx : Below w.heap.size w x) => check_is (HE.out.1.later hx) ⟨at_, er, ins⟩ tn (by dsimp only; omega) (by omega))
      unfold edv at HC
      dsimp only at HC
      have b1 := below_one wr (.cells #[.int .i64 at_, .int .i64 er, .string ins] 46)
      have r1 := RowAt.new wr #[.int .i64 at_, .int .i64 er, .string ins] 46
      have HR := hid_of' (And.intro hT (And.intro hB (And.intro hru (And.intro hck (And.intro hap (And.intro hiv (And.intro ho1 (And.intro ho2 (And.intro hbw (And.intro htn (And.intro hln hes)))))))))))
      have hk9 : k ≤ 1000 := by omega
      clear hT hB hru hck hap hiv ho1 ho2 hbw htn hln hes hdr he
      go_upto_region 8 with fail
      obtain ⟨P, hPe⟩ : ∃ P, P = wr.heap.size := ⟨_, rfl⟩
      rw [← hPe] at r1 ⊢
      generalize wr.alloc (.cells #[.int .i64 at_, .int .i64 er, .string ins] 46) = W5 at b1 r1 ⊢
      have cP0 : W5.cell? ⟨P, 0, none⟩ = some (.int .i64 at_) := r1.is rfl
      have cP1 : W5.cell? ⟨P, 1, none⟩ = some (.int .i64 er) := r1.is rfl
      have cP2 : W5.cell? ⟨P, 2, none⟩ = some (.string ins) := r1.is rfl
      have HP := hid_of' (And.intro r1 (And.intro b1 hPe))
      clear b1 r1 hPe c30 c31 c32
      have HC5 := hid_of' (HC.out W5 (bgo HR.out.2.2.2.2.2.2.2.2.1 HP.out.2.1))
      clear HC
      rcases hce : ckE tn ⟨at_, er, ins⟩ with _ | code
      · rw [hce] at HC5
        unfold ErrC at HC5
        dsimp only at HC5
        obtain ⟨z1, z2, z3, z4⟩ := ckE_ok hce
        dsimp only at z1 z2 z3 z4
        obtain ⟨px, rfl⟩ : ∃ px : Nat, at_ = (px : Int) := ⟨at_.toNat, by omega⟩
        obtain ⟨ex, rfl⟩ : ∃ ex : Nat, er = (ex : Int) := ⟨er.toNat, by omega⟩
        rw [Int.toNat_natCast, Int.toNat_natCast] at z3
        obtain ⟨rx, hrx⟩ : ∃ rx : Nat, rx = px + ex := ⟨_, rfl⟩
        have hrx2 : (px : Int) + (ex : Int) = (rx : Int) := by omega
        have hpx : px ≤ rx := by omega
        have hrt : rx ≤ tn := by omega
        have his : ins.size ≤ 70368744177664 := by have := HR.out.2.2.2.2.2.2.2.2.2.2.2; omega
        have HZ := hid_of' (And.intro hce (And.intro z4 (And.intro hrx hrx2)))
        clear hce z1 z2 z3 z4 hrx hrx2
        go_upto_region 11 with (go_at_call 25; refine HC5.out.mono ?_; rintro e w6 ⟨rfl, hb6⟩)
        have cQ0 : w6.cell? ⟨P, 0, none⟩ = some (.int .i64 (px : Int)) := (HP.out.1.later hb6).is rfl
        have cQ1 : w6.cell? ⟨P, 1, none⟩ = some (.int .i64 (ex : Int)) := (HP.out.1.later hb6).is rfl
        have cQ2 : w6.cell? ⟨P, 2, none⟩ = some (.string ins) := (HP.out.1.later hb6).is rfl
        have H6 := hid_of' (And.intro (HP.out.1.later hb6) (bgo HP.out.2.1 hb6))
        clear hb6 cP0 cP1 cP2 HC5
        go_upto_region 12 with (refine wpL_runes rfl (.tmp 45) rfl rfl his ?_; intro ic W6 hI hb7)
        have HI := hid_of' (And.intro hI (And.intro trivial (H6.out.1.later hb7)))
        have HB7 := hid_of' hb7
        have cR0 : W6.cell? ⟨P, 0, none⟩ = some (.int .i64 (px : Int)) := (H6.out.1.later hb7).is rfl
        have cR1 : W6.cell? ⟨P, 1, none⟩ = some (.int .i64 (ex : Int)) := (H6.out.1.later hb7).is rfl
        obtain ⟨J, hJ⟩ : ∃ J, J = w6.heap.size := ⟨_, rfl⟩
        obtain ⟨im, him⟩ : ∃ im, im = (rn ins.data.toList).length := ⟨_, rfl⟩
        rw [← hJ, ← him] at HI ⊢
        have HJ := hid_of' (And.intro hJ him)
        clear hI hb7 cQ0 cQ1 cQ2 hJ him
        go_upto_region 13 with fail
        rw [HZ.out.2.2.2, wrapIs (n := (rx : Int)) (by omega) (by omega)]
        obtain ⟨ia, hia⟩ : ∃ ia : Option Addr, ia = some ⟨J, 0, none⟩ := ⟨_, rfl⟩
        rw [← hia] at HI ⊢
        have HIA := hid_of' hia
        clear hia
        have hPl : P < W6.heap.size := HI.out.2.2.lt
        have cP0 : W6.cell? ⟨P, 0, none⟩ = some (.int .i64 (px : Int)) := cR0
        have hT6 : RwR (.slice ta tn tc) ys W6 := (HR.out.1.later H6.out.2).later HB7.out
        have hB6 : RwE (.slice la ln lc) es W6 := (HR.out.2.1.later H6.out.2).later HB7.out
        obtain ⟨u, hu⟩ : ∃ u, u = sliced ta px rx tc 1 := ⟨_, rfl⟩
        obtain ⟨t, ht⟩ : ∃ t, t = tx ((ys.take rx).drop px) := ⟨_, rfl⟩
        obtain ⟨_, _, hf6, hf7, _⟩ := hT6.form
        simp only [Value.slice.injEq] at hf6
        have htc : tn ≤ tc := by have := HR.out.2.2.2.2.2.2.2.2.2.1; omega
        have HU := hid_of' (And.intro (fun x => run_sub ta tn tc px rx hpx (Nat.le_trans hrt htc) x) (fun x (hx : Below W6.heap.size W6 x) => str_sub (hT6.later hx) HR.out.2.2.1 hpx (by rw [← HR.out.2.2.2.2.2.2.2.2.2.1]; exact hrt)))
        rw [← hu, ← ht] at HU
        have HTB := hid_of' (And.intro hT6 (And.intro hB6 ht))
        clear hu ht hT6 hB6 hf6 hf7 cR0 cR1
        refine wp_region_tailN 13 (by kernel_rfl) (fun _ => none) (by kernel_rfl) (by kernel_rfl) (by decide) (fun i v x => match i with
          | 0 => v = .slice la ln lc
          | 1 => v = .pointer (some ⟨P, 0, none⟩)
          | 2 => v = .int .i64 (px : Int)
          | 3 => v = .slice ia im ic
          | 4 => v = .int .i64 (im : Int)
          | 5 => v = .slice ta tn tc
          | 6 => v = .pointer (some ⟨P, 0, none⟩)
          | 7 => v = .int .i64 (px : Int)
          | 8 => v = .int .i64 (rx : Int)
          | 9 => v = u
          | 10 => v = .string t
          | 11 => v = .agg #[.int .i64 (px : Int), .int .i64 (im : Int), .string t]
          | 12 => ∃ g, v = .slice (some ⟨g, 0, none⟩) 1 1 ∧ RowAt g #[.int .i64 (px : Int), .int .i64 (im : Int), .string t] 46 x
          | _ => True) (fun _ => false) (fun _ _ _ _ h => by cases h) ?_ ?_ ?_
        · intro i v x x' hR hb
          match i, hR with
          | 0, h => exact h
          | 1, h => exact h
          | 2, h => exact h
          | 3, h => exact h
          | 4, h => exact h
          | 5, h => exact h
          | 6, h => exact h
          | 7, h => exact h
          | 8, h => exact h
          | 9, h => exact h
          | 10, h => exact h
          | 11, h => exact h
          | 12, h => exact (let ⟨g, h1, h2⟩ := h; ⟨g, h1, h2.later hb⟩)
          | m + 13, h => exact h
        · intro i o hi ho q x vals hX hdep hoth
          have t10 : q.tmps[10]? = some (.slice la ln lc) := by rw [hoth 10 (by kernel_rfl)]; rfl
          have t12 : q.tmps[12]? = some (.pointer (some ⟨P, 0, none⟩)) := by rw [hoth 12 (by kernel_rfl)]; rfl
          have t14 : q.tmps[14]? = some (.slice ia im ic) := by rw [hoth 14 (by kernel_rfl)]; rfl
          have t9 : q.tmps[9]? = some (.slice ta tn tc) := by rw [hoth 9 (by kernel_rfl)]; rfl
          have t15 : q.tmps[15]? = some (.int .i64 (rx : Int)) := by rw [hoth 15 (by kernel_rfl)]; rfl
          match i, hi, ho with
          | 0, _, ho =>
            simp only [List.getElem?_cons_zero, Option.some.injEq] at ho
            subst ho
            unfold Oper.wp
            simp [execOp, go_sem, t10]
            exact came _ rfl (Below.refl _ _) rfl (fun h => absurd h (by decide))
          | 1, _, ho =>
            simp only [List.getElem?_cons_succ, List.getElem?_cons_zero, Option.some.injEq] at ho
            subst ho
            unfold Oper.wp
            simp [execOp, go_sem, t12]
            exact came _ rfl (Below.refl _ _) rfl (fun h => absurd h (by decide))
          | 2, _, ho =>
            simp only [List.getElem?_cons_succ, List.getElem?_cons_zero, Option.some.injEq] at ho
            subst ho
            obtain ⟨u1, e1⟩ := hdep ⟨1, .data⟩ (by simp) rfl _ 53 rfl rfl
            rw [show vals 1 = .pointer (some ⟨P, 0, none⟩) from e1] at u1
            have cc : x.cell? ⟨P, 0, none⟩ = some (.int .i64 (px : Int)) := by rw [hX.cell hPl]; exact cP0
            unfold Oper.wp
            simp [execOp, go_sem, u1, cc]
            exact came _ rfl (Below.refl _ _) rfl (fun h => absurd h (by decide))
          | 3, _, ho =>
            simp only [List.getElem?_cons_succ, List.getElem?_cons_zero, Option.some.injEq] at ho
            subst ho
            unfold Oper.wp
            simp [execOp, go_sem, t14]
            exact came _ rfl (Below.refl _ _) rfl (fun h => absurd h (by decide))
          | 4, _, ho =>
            simp only [List.getElem?_cons_succ, List.getElem?_cons_zero, Option.some.injEq] at ho
            subst ho
            obtain ⟨u3, e3⟩ := hdep ⟨3, .data⟩ (by simp) rfl _ 55 rfl rfl
            rw [show vals 3 = .slice ia im ic from e3] at u3
            unfold Oper.wp
            simp [go_sem, u3]
            exact came _ rfl (Below.refl _ _) rfl (fun h => absurd h (by decide))
          | 5, _, ho =>
            simp only [List.getElem?_cons_succ, List.getElem?_cons_zero, Option.some.injEq] at ho
            subst ho
            unfold Oper.wp
            simp [execOp, go_sem, t9]
            exact came _ rfl (Below.refl _ _) rfl (fun h => absurd h (by decide))
          | 6, _, ho =>
            simp only [List.getElem?_cons_succ, List.getElem?_cons_zero, Option.some.injEq] at ho
            subst ho
            unfold Oper.wp
            simp [execOp, go_sem, t12]
            exact came _ rfl (Below.refl _ _) rfl (fun h => absurd h (by decide))
          | 7, _, ho =>
            simp only [List.getElem?_cons_succ, List.getElem?_cons_zero, Option.some.injEq] at ho
            subst ho
            obtain ⟨u6, e6⟩ := hdep ⟨6, .data⟩ (by simp) rfl _ 58 rfl rfl
            rw [show vals 6 = .pointer (some ⟨P, 0, none⟩) from e6] at u6
            have cc : x.cell? ⟨P, 0, none⟩ = some (.int .i64 (px : Int)) := by rw [hX.cell hPl]; exact cP0
            unfold Oper.wp
            simp [execOp, go_sem, u6, cc]
            exact came _ rfl (Below.refl _ _) rfl (fun h => absurd h (by decide))
          | 8, _, ho =>
            simp only [List.getElem?_cons_succ, List.getElem?_cons_zero, Option.some.injEq] at ho
            subst ho
            unfold Oper.wp
            simp [execOp, go_sem, t15]
            exact came _ rfl (Below.refl _ _) rfl (fun h => absurd h (by decide))
          | 9, _, ho =>
            simp only [List.getElem?_cons_succ, List.getElem?_cons_zero, Option.some.injEq] at ho
            subst ho
            obtain ⟨u5, e5⟩ := hdep ⟨5, .data⟩ (by simp) rfl _ 57 rfl rfl
            rw [show vals 5 = .slice ta tn tc from e5] at u5
            obtain ⟨u7, e7⟩ := hdep ⟨7, .data⟩ (by simp) rfl _ 59 rfl rfl
            rw [show vals 7 = .int .i64 (px : Int) from e7] at u7
            obtain ⟨u8, e8⟩ := hdep ⟨8, .data⟩ (by simp) rfl _ 60 rfl rfl
            rw [show vals 8 = .int .i64 (rx : Int) from e8] at u8
            exact opw_sub _ _ _ rfl (by simp [Act.eval, u5]) (by simp [Act.eval, u7]) (by simp [Act.eval, u8]) (HU.out.1 x) (came _ rfl (Below.refl _ _) rfl (fun h => absurd h (by decide)))
          | 10, _, ho =>
            simp only [List.getElem?_cons_succ, List.getElem?_cons_zero, Option.some.injEq] at ho
            subst ho
            obtain ⟨u9, e9⟩ := hdep ⟨9, .data⟩ (by simp) rfl _ 61 rfl rfl
            rw [show vals 9 = u from e9] at u9
            exact opw_str _ rfl (by simp [Act.eval, u9]) (HU.out.2 x hX) (came _ rfl (Below.refl _ _) rfl (fun h => absurd h (by decide)))
          | 11, _, ho =>
            simp only [List.getElem?_cons_succ, List.getElem?_cons_zero, Option.some.injEq] at ho
            subst ho
            obtain ⟨u2, e2⟩ := hdep ⟨2, .data⟩ (by simp) rfl _ 54 rfl rfl
            rw [show vals 2 = .int .i64 (px : Int) from e2] at u2
            obtain ⟨u4, e4⟩ := hdep ⟨4, .data⟩ (by simp) rfl _ 56 rfl rfl
            rw [show vals 4 = .int .i64 (im : Int) from e4] at u4
            obtain ⟨u10, e10⟩ := hdep ⟨10, .data⟩ (by simp) rfl _ 62 rfl rfl
            rw [show vals 10 = .string t from e10] at u10
            unfold Oper.wp
            simp [execOp, go_sem, u2, u4, u10]
            exact came _ rfl (Below.refl _ _) rfl (fun h => absurd h (by decide))
          | 12, _, ho =>
            simp only [List.getElem?_cons_succ, List.getElem?_cons_zero, Option.some.injEq] at ho
            subst ho
            obtain ⟨u11, e11⟩ := hdep ⟨11, .data⟩ (by simp) rfl _ 63 rfl rfl
            rw [show vals 11 = .agg #[.int .i64 (px : Int), .int .i64 (im : Int), .string t] from e11] at u11
            unfold Oper.wp
            simp [execOp, go_sem, u11]
            exact came _ rfl (below_one _ _) ⟨x.heap.size, rfl, RowAt.new x _ _⟩ (fun h => absurd h (by decide))
          | m + 13, hi, _ => exact absurd hi (by omega)
        · intro vals W7 hX hR _
          obtain ⟨g9, f12, r9⟩ : ∃ g, vals 12 = .slice (some ⟨g, 0, none⟩) 1 1 ∧ RowAt g #[.int .i64 (px : Int), .int .i64 (im : Int), .string t] 46 W7 := hR 12 (by decide)
          have f0 : vals 0 = .slice la ln lc := hR 0 (by decide)
          have f1 : vals 1 = .pointer (some ⟨P, 0, none⟩) := hR 1 (by decide)
          have f2 : vals 2 = .int .i64 (px : Int) := hR 2 (by decide)
          have f3 : vals 3 = .slice ia im ic := hR 3 (by decide)
          have f4 : vals 4 = .int .i64 (im : Int) := hR 4 (by decide)
          have f5 : vals 5 = .slice ta tn tc := hR 5 (by decide)
          have f6 : vals 6 = .pointer (some ⟨P, 0, none⟩) := hR 6 (by decide)
          have f7 : vals 7 = .int .i64 (px : Int) := hR 7 (by decide)
          have f8 : vals 8 = .int .i64 (rx : Int) := hR 8 (by decide)
          have f9 : vals 9 = u := hR 9 (by decide)
          have f10 : vals 10 = .string t := hR 10 (by decide)
          have f11 : vals 11 = .agg #[.int .i64 (px : Int), .int .i64 (im : Int), .string t] := hR 11 (by decide)
          simp only [List.drop, List.take, putAll, List.setIfInBounds_toArray, List.set_cons_succ, List.set_cons_zero, f0, f1, f2, f3, f4, f5, f6, f7, f8, f9, f10, f11, f12]
          clear f0 f1 f2 f3 f4 f5 f6 f7 f8 f9 f10 f11 f12 hR
          have hs7 := r9.so1 3 rfl (fc edc [⟨(px : Int), (im : Int), t⟩]) rfl
          have HS7 := hid_of' (And.intro (HTB.out.2.1.later hX) hs7)
          have HX := hid_of' hX
          clear hs7 r9 hX cP0
          have hln9 : es.length + 1 ≤ 4398046511104 := by rw [← HR.out.2.2.2.2.2.2.2.2.2.2.1]; have := HEL.out; omega
          go_upto_region 14 with (at_builtin; refine wpL_appE (m := [⟨(px : Int), (im : Int), t⟩]) rfl _ _ rfl rfl rfl HS7.out.1 HS7.out.2 hln9 ?_; intro u8 w8 q1 q2 q3)
          clear hln9
          obtain ⟨e1, e2, e3, e4, e5, e6, e7, e8, e9, e10, e11, e12⟩ := HR.out
          have hwb : Below w.heap.size w W7 := bgo (bgo (bgo e9 H6.out.2) HB7.out) HX.out
          have hob : ∀ g, Value.ownBlock (.slice la ln lc) = some g → ¬ g = J := fun g hg e => by have h1 := Rw.lt e2 g hg; have h2 := HJ.out.1; have h3 := H6.out.2.size; omega
          have hot : ∀ g, Value.ownBlock (.slice ta tn tc) = some g → ¬ g = J := fun g hg e => by have h1 := Rw.lt e1 g hg; have h2 := HJ.out.1; have h3 := H6.out.2.size; omega
          have hT8 : RwR (.slice ta tn tc) ys w8 := Rw.grow (HTB.out.1.later HX.out) q2 (fun g hg => (e7 g hg).2)
          have hI7 : RwR (.slice ia im ic) (rn ins.data.toList) W7 := HI.out.1.later HX.out
          have hI8 : RwR (.slice ia im ic) (rn ins.data.toList) w8 := Rw.grow hI7 q2 (fun g hg he => by rw [HIA.out] at hg; cases hg; exact hob _ he rfl)
          have hP8 : RowAt P #[.int .i64 (px : Int), .int .i64 (ex : Int), .string ins] 46 w8 := (HI.out.2.2.later HX.out).grow q2 (fun he => by have h1 := Rw.lt e2 P he; have h2 := HP.out.2.2; omega)
          have hwb8 : Below w.heap.size w w8 := hwb.grown q2 hwb.size (fun g hg => e8 g hg)
          have hu8o : ∀ g, u8.ownBlock = some g → w.heap.size ≤ g := fun g hg => (q3 g hg).elim (fun he => e8 g he) (fun he => Nat.le_trans hwb.size he)
          have htu : ∀ g, Value.ownBlock (.slice ta tn tc) = some g → ¬ u8.ownBlock = some g := fun g hg he => (q3 g he).elim (fun h => (e7 g hg).2 h) (fun h => by have h1 := Rw.lt (HTB.out.1.later HX.out) g hg; omega)
          have cS0 : w8.cell? ⟨P, 0, none⟩ = some (.int .i64 (px : Int)) := hP8.is rfl
          have hlen8 : ys.length + (rn ins.data.toList).length ≤ 1000000000 := by
            have h1 := rn_len ins.data.toList
            have h2 : ins.data.toList.length = ins.size := Array.length_toList
            have h3 := e12
            omega
          have HRp := hid_of' (replace_ok hT8 hI8 (by rw [HIA.out]; intro h; cases h) (fun g hg he => by rw [HIA.out] at he; cases he; exact hot _ hg rfl) hpx (by omega : rx ≤ ys.length) hlen8)
          have hru' := apE_ru (e := ⟨(px : Int), (ex : Int), ins⟩) e3 HZ.out.2.1
          have hce' : ckE ys.length ⟨(px : Int), (ex : Int), ins⟩ = none := by rw [← e10]; exact HZ.out.1
          have hap' : ys.take px ++ (rn ins.data.toList ++ ys.drop rx) = apE ys ⟨(px : Int), (ex : Int), ins⟩ := by
            unfold apE
            dsimp only
            rw [Int.toNat_natCast, Int.toNat_natCast, ← HZ.out.2.2.1]
          have hiv' : (⟨(px : Int), (im : Int), t⟩ : Edt) = ivE ys ⟨(px : Int), (ex : Int), ins⟩ := by
            unfold ivE
            dsimp only
            rw [Int.toNat_natCast, Int.toNat_natCast, ← HZ.out.2.2.1, HTB.out.2.2, HJ.out.2]
          rw [hap'] at HRp
          rw [hiv'] at q1
          have hle' := apE_le hce'
          dsimp only at hle'
          rw [ckL, hce'] at e4
          dsimp only at e4
          rw [apL] at e5
          rw [ivL] at e6
          have HG := hid_of' (And.intro q1 (And.intro hwb8 (And.intro hu8o (And.intro htu (And.intro hru' (And.intro e4 (And.intro e5 (And.intro e6 (And.intro hle' (And.intro e10 (And.intro e11 (And.intro e12 e7))))))))))))
          clear q1 q2 q3 e1 e2 e3 e4 e5 e6 e7 e8 e9 e10 e11 e12 hwb hob hot hT8 hI7 hI8 hP8 hwb8 hu8o htu hlen8 hru' hce' hap' hiv' hle'
          obtain ⟨a8, c8, hu8, _⟩ := Rw.form HG.out.1
          obtain ⟨n8, hn8⟩ : ∃ n8, n8 = (es ++ [ivE ys ⟨(px : Int), (ex : Int), ins⟩]).length := ⟨_, rfl⟩
          rw [← hn8] at hu8
          subst hu8
          have HN8 := hid_of' hn8
          clear hn8
          go_upto_region 15 with (go_at_call 26; refine HRp.out.mono ?_; rintro e w9 ⟨v9, rfl, y1, y2, y3⟩)
          obtain ⟨a10, c10, hv10, _⟩ := y1.form
          obtain ⟨n10, hn10⟩ : ∃ n10, n10 = (apE ys ⟨(px : Int), (ex : Int), ins⟩).length := ⟨_, rfl⟩
          rw [← hn10] at hv10
          subst hv10
          have HY := hid_of' (And.intro y1 (And.intro y2 (And.intro y3 hn10)))
          clear y1 y2 y3 hn10
          go_wp2
          go_roundw
          case rel =>
            obtain ⟨y1, y2, y3, y4⟩ := HY.out
            obtain ⟨q1, hwb8, hu8o, htu, hru', e4, e5, e6, hle', e10, e11, e12, e7⟩ := HG.out
            have hlt8 := Rw.lt q1
            refine ⟨k + 1, _, _, by go_num, by omega, y1, Rw.grow q1 y2 (fun g hg he => htu g he hg), ?_, hru', by omega, e4, e5, ?_, ?_, hu8o, ?_⟩
            · rw [List.length_append, ← e11]
              have := HEL.out
              show _ + 1 = _
              omega
            · rw [List.reverse_append, List.reverse_singleton, ← List.append_assoc]
              exact e6
            · intro g hg
              refine (y3 g hg).elim (fun h => ⟨(e7 g h).1, htu g h⟩) (fun h => ⟨Nat.le_trans hwb8.size h, fun he => ?_⟩)
              have := hlt8 g he
              omega
            · exact hwb8.grown y2 hwb8.size (fun g hg => (e7 g hg).1)
          case measure => simp [intOf]; omega
      · rw [hce] at HC5
        unfold ErrC at HC5
        dsimp only at HC5
        have hcl : code < 13 := by rcases ckE_lt hce with h | h <;> omega
        have HNw := hid_of' (fun x => newR (ad := ad) c (k : Int) code hcl x)
        have HCe := hid_of' hce
        clear hce hcl
        go_upto_region 10 with (go_at_call 25; refine HC5.out.mono ?_; rintro e w6 ⟨rfl, hb6⟩)
        have H6 := hid_of' (bgo (bgo HR.out.2.2.2.2.2.2.2.2.1 HP.out.2.1) hb6)
        clear hb6 HC5 cP0 cP1 cP2
        go_wp2_with (go_at_call 24; refine ((HNw.out w6).mono ?_); rintro e w7 ⟨v, rfl, he, hb7⟩)
        go_ret3
        obtain ⟨e1, e2, e3, e4, e5, e6, e7, e8, e9, e10, e11, e12⟩ := HR.out
        unfold PfQ
        rw [← e4, ckL, ← e10, HCe.out]
        exact ⟨_, rfl, he.mono H6.out.size, bgo H6.out hb7⟩
    · have hki : ¬ (k : Int) < (nl : Int) := by omega
      obtain rfl : k = nl := by omega
      have hnil : l.drop k = [] := List.drop_eq_nil_of_le (by rw [← HNL.out]; exact Nat.le_refl _)
      rw [hnil] at hck hap hiv
      have HRv := hid_of' (reverseE_ok hB (by have := HEL.out; omega))
      have HR := hid_of' (And.intro hT (And.intro hck (And.intro hap (And.intro hiv (And.intro ho1 (And.intro ho2 hbw))))))
      clear hT hB hru hck hap hiv ho1 ho2 hbw htn hln hnil
      go_wp2_with (go_at_call 27; refine HRv.out.mono ?_; rintro e w9 ⟨⟨z9, rfl⟩, hr9, hg9⟩; have HG := hid_of' (And.intro hr9 hg9); clear hr9 hg9)
      go_ret3
      obtain ⟨q1, q2, q3, q4, q5, q6, q7⟩ := HR.out
      unfold PfQ
      rw [← q2]
      refine ⟨_, _, rfl, ?_, ?_, fun g hg => (q5 g hg).1, q6, ?_⟩
      · rw [← q3]
        exact Rw.grow q1 HG.out.2 (fun g hg => (q5 g hg).2)
      · rw [← q4]
        exact HG.out.1
      · exact q7.grown HG.out.2 q7.size (fun g hg => q6 g hg)
end Go.Proofs.YtaimmjoekahleaaDoor
