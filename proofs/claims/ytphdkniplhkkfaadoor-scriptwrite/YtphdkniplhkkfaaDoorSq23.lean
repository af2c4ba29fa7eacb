
/-
  barrowlaw18: cut, SpoilBytes; ScriptWrite holds of any steps.
-/
import Derived.Test.YtphdkniplhkkfaaDoorSq16
import Derived.Test.YtphdkniplhkkfaaDoorSq22
import Derived.Test.YtphdkniplhkkfaaDoorScY
import Derived.Test.YtphdkniplhkkfaaDoorScSb
namespace Go.Proofs.YtphdkniplhkkfaaDoor
open Go.RowKit Go.Extern.Stop Go.Stop Go.Extern
set_option maxRecDepth 100000

theorem opw_strB {K : Act → World → Prop} {o : Oper} {A : Act} {w : World} {Q : Exit → Act → World → Prop} (x : Operand) (ho : o.op = .convert 24 9 x) {v : Value} {s : ByteArray} (hx : A.eval x = v) (hrun : (convert 24 9 v).run Tryd.prog w = .ok (.string s) w)
    (k : K (A.put o.dst (.string s)) w) : o.wp Tryd.prog A w K Q := by
  unfold Oper.wp execOp
  simp only [ho, hx, Sem.run_bind, hrun, Result.andThen]
  exact k
theorem wpL_app0T {ops : Array Oper} {rest : List Oper} {o : Oper} {A : Act} {w : World} {Q : Exit → Act → World → Prop} (hgd : o.guard = none) (s x : Operand) (ho : o.op = .call { callee := .builtin .append, args := #[s, x], argTypes := #[22, 22] })
    {u : Value} {ge : Nat} {m : List Stp} (hs : A.eval s = .slice (some ⟨ge, 0, none⟩) 0 0) (hx : A.eval x = u) (he : RowAt ge #[] 30 w) (hu : So 5 u m.length (fc stc m) w) (hm : m.length ≤ 100000)
    (k : ∀ v' w', RwT v' m w' → Below w.heap.size w w' → (∀ k, v'.ownBlock = some k → k = ge ∨ w.heap.size ≤ k) → wpList Tryd.prog ops Q rest (A.put o.dst v') w') : wpList Tryd.prog ops Q (o :: rest) A w := by
  obtain ⟨i0, hi, h1, h2, h3⟩ := info_parts info_t
  exact wpL_app0 (P := Tryd.prog) hgd s x 22 ho 30 i0 _ 5 48 Tryd.underlying22 hi h1 h2 h3 rfl hs hx he hu (stc_one _) (by unfold maxLen; omega) (by omega) k
theorem u8s_of (bs : List UInt8) : u8s (bs.map fun b => Value.int .u8 (b.toNat : Int)) := fun u hu => by
  obtain ⟨b, _, rfl⟩ := List.mem_map.1 hu
  exact ⟨_, rfl⟩
set_option maxHeartbeats 8000000 in
theorem scriptWrite_all {w : World} {v : Value} {l : List Stp} (hTab : TabOk w) (h : SlT w v l) (hz : ∀ e ∈ l, e.t.size ≤ maxLen) :
    Calls Tryd.prog 3 #[v] w fun e w' => e = .returned (.bool true) ∧ Below w.heap.size w w' := by
  have HC := hid_of' (cut_ok h hz)
  have HLn := hid_of' (And.intro (cutL_len l) (cutL_small l))
  generalize cutL l = L at HC HLn
  have HK := hid_of' (fun x => wakes_is x)
  have HTab := hid_of' hTab
  clear h hz hTab
  go_enter Tryd.func3, Tryd.ntmps3
  go_upto_region 2 with (go_at_call 5; refine HC.out.mono ?_; rintro e w1 ⟨u, rfl, ru, ou, b1⟩)
  have e1 : RowAt w1.heap.size #[] 30 (w1.alloc (.cells #[] 30)) := RowAt.new w1 _ _
  have b2 := below_one w1 (.cells #[] 30)
  go_upto_region 3 with (at_builtin; refine wpL_app0T (m := L) rfl _ _ rfl rfl rfl e1 ((ru.later b2).so) (by have := HLn.out.1; omega) ?_; intro vi w2 p1 p2 p3)
  have H2 := hid_of' (And.intro p1 (And.intro ((ru.later b2).later p2) (And.intro (bgo b1 (bgo b2 p2)) (Rw.lt ((ru.later b2).later p2)))))
  clear ru ou b1 e1 b2 p1 p2 p3 HC
  have HW0 := hid_of' (write_ok (RwT.sl H2.out.1) (by have := HLn.out.1; omega) (fun e he => by have := HLn.out.2 e he; omega))
  go_upto_region 4 with (go_at_call 6; refine HW0.out.mono ?_; rintro e W0 ⟨vb, rfl, hvb, ovb, b3⟩)
  obtain ⟨SW, hSW⟩ : ∃ SW : ByteArray, (⟨(wrL L).toArray⟩ : ByteArray) = SW := ⟨_, rfl⟩
  have hru := H2.out.2.1.later b3
  have hri := H2.out.1.later b3
  have hbW := bgo H2.out.2.2.1 b3
  have hLl : L.length ≤ 1000000 := by have := HLn.out.1; omega
  have HWr := hid_of' (fun (x : World) (hx : Below W0.heap.size W0 x) => refwrite_ok (RwT.sl (hru.later hx)) (by have := HLn.out.1; omega) (fun e he => by have := HLn.out.2 e he; omega))
  have HSt := hid_of' (fun (x : World) (hx : Below W0.heap.size W0 x) => keepSteps_same (RwT.sl (hri.later hx)) (RwT.sl (hru.later hx)) hLl)
  refine wp_region_tail 11 (by kernel_rfl) (fun j => if j = 6 then some false else none) (by kernel_rfl) (by kernel_rfl) (by decide) (fun i v x => match i with
    | 0 => v = vb
    | 1 => v = .string SW
    | 2 => v = u
    | 3 => RwB v (wrL L) x
    | 4 => v = .string SW
    | 5 => v = .bool false
    | 6 => v = .bool false
    | 7 => v = vi
    | 8 => v = u
    | 9 => v = .bool true
    | 10 => v = .bool false
    | _ => True) (fun _ => false) (fun j v x b hj hR => by
      by_cases e : j = 6
      · subst e
        simp at hj
        subst hj
        exact hR
      · simp [e] at hj) ?_ ?_ ?_
  · intro i v x x' hR hb
    match i, hR with
    | 0, h => exact h
    | 1, h => exact h
    | 2, h => exact h
    | 3, h => exact RwB.later h hb
    | 4, h => exact h
    | 5, h => exact h
    | 6, h => exact h
    | 7, h => exact h
    | 8, h => exact h
    | 9, h => exact h
    | 10, h => exact h
    | m + 11, h => exact h
  · intro i o hi ho q x vals hX hdep hoth
    have t0 : q.tmps[0]? = some (u) := by rw [hoth 0 (by kernel_rfl)]; rfl
    have t3 : q.tmps[3]? = some (vi) := by rw [hoth 3 (by kernel_rfl)]; rfl
    have t4 : q.tmps[4]? = some (vb) := by rw [hoth 4 (by kernel_rfl)]; rfl
    match i, hi, ho with
    | 0, _, ho =>
      simp only [List.getElem?_cons_zero, Option.some.injEq] at ho
      subst ho
      unfold Oper.wp
      simp [execOp, go_sem, t4]
      exact came _ rfl (Below.refl _ _) rfl (fun h => absurd h (by decide))
    | 1, _, ho =>
      simp only [List.getElem?_cons_succ, List.getElem?_cons_zero, Option.some.injEq] at ho
      subst ho
      obtain ⟨u0, e0⟩ := hdep ⟨0, .data⟩ (by simp) rfl _ 13 rfl rfl
      rw [show vals 0 = vb from e0] at u0
      exact opw_strB _ rfl (by simp [Act.eval, u0]) (hSW ▸ run_strB (hvb.later hX)) (came _ rfl (Below.refl _ _) rfl (fun h => absurd h (by decide)))
    | 2, _, ho =>
      simp only [List.getElem?_cons_succ, List.getElem?_cons_zero, Option.some.injEq] at ho
      subst ho
      unfold Oper.wp
      simp [execOp, go_sem, t0]
      exact came _ rfl (Below.refl _ _) rfl (fun h => absurd h (by decide))
    | 3, _, ho =>
      simp only [List.getElem?_cons_succ, List.getElem?_cons_zero, Option.some.injEq] at ho
      subst ho
      obtain ⟨u2, e2⟩ := hdep ⟨2, .data⟩ (by simp) rfl _ 15 rfl rfl
      rw [show vals 2 = u from e2] at u2
      unfold Oper.wp
      simp [go_sem, u2]
      refine (HWr.out x hX).mono ?_
      rintro r x1 ⟨v3, rfl, h3, _, hb1⟩
      exact came _ rfl hb1 h3 (fun h => absurd h (by decide))
    | 4, _, ho =>
      simp only [List.getElem?_cons_succ, List.getElem?_cons_zero, Option.some.injEq] at ho
      subst ho
      obtain ⟨u3, e3⟩ := hdep ⟨3, .data⟩ (by simp) rfl _ 16 rfl rfl
      exact opw_strB _ rfl (by simp [Act.eval, u3]) (hSW ▸ run_strB e3) (came _ rfl (Below.refl _ _) rfl (fun h => absurd h (by decide)))
    | 5, _, ho =>
      simp only [List.getElem?_cons_succ, List.getElem?_cons_zero, Option.some.injEq] at ho
      subst ho
      obtain ⟨u1, e1⟩ := hdep ⟨1, .data⟩ (by simp) rfl _ 14 rfl rfl
      rw [show vals 1 = .string SW from e1] at u1
      obtain ⟨u4, e4⟩ := hdep ⟨4, .data⟩ (by simp) rfl _ 17 rfl rfl
      rw [show vals 4 = .string SW from e4] at u4
      unfold Oper.wp
      simp [execOp, go_sem, u1, u4]
      exact came _ rfl (Below.refl _ _) rfl (fun h => absurd h (by decide))
    | 6, _, ho =>
      simp only [List.getElem?_cons_succ, List.getElem?_cons_zero, Option.some.injEq] at ho
      subst ho
      obtain ⟨u5, e5⟩ := hdep ⟨5, .data⟩ (by simp) rfl _ 18 rfl rfl
      rw [show vals 5 = .bool false from e5] at u5
      unfold Oper.wp
      simp [execOp, go_sem, u5]
      exact came _ rfl (Below.refl _ _) rfl (fun h => absurd h (by decide))
    | 7, _, ho =>
      simp only [List.getElem?_cons_succ, List.getElem?_cons_zero, Option.some.injEq] at ho
      subst ho
      unfold Oper.wp
      simp [execOp, go_sem, t3]
      exact came _ rfl (Below.refl _ _) rfl (fun h => absurd h (by decide))
    | 8, _, ho =>
      simp only [List.getElem?_cons_succ, List.getElem?_cons_zero, Option.some.injEq] at ho
      subst ho
      unfold Oper.wp
      simp [execOp, go_sem, t0]
      exact came _ rfl (Below.refl _ _) rfl (fun h => absurd h (by decide))
    | 9, _, ho =>
      simp only [List.getElem?_cons_succ, List.getElem?_cons_zero, Option.some.injEq] at ho
      subst ho
      obtain ⟨u7, e7⟩ := hdep ⟨7, .data⟩ (by simp) rfl _ 20 rfl rfl
      rw [show vals 7 = vi from e7] at u7
      obtain ⟨u8, e8⟩ := hdep ⟨8, .data⟩ (by simp) rfl _ 21 rfl rfl
      rw [show vals 8 = u from e8] at u8
      unfold Oper.wp
      simp [go_sem, u7, u8]
      refine (HSt.out x hX).mono ?_
      rintro r x1 ⟨rfl, hb1⟩
      exact came _ rfl hb1 rfl (fun h => absurd h (by decide))
    | 10, _, ho =>
      simp only [List.getElem?_cons_succ, List.getElem?_cons_zero, Option.some.injEq] at ho
      subst ho
      obtain ⟨u9, e9⟩ := hdep ⟨9, .data⟩ (by simp) rfl _ 22 rfl rfl
      rw [show vals 9 = .bool true from e9] at u9
      unfold Oper.wp
      simp [execOp, go_sem, u9]
      exact came _ rfl (Below.refl _ _) rfl (fun h => absurd h (by decide))
    | m + 11, hi, _ => exact absurd hi (by omega)
  · intro vals W1 hX hR _
    have f0 : vals 0 = vb := hR 0 (by decide)
    have f1 : vals 1 = .string SW := hR 1 (by decide)
    have f2 : vals 2 = u := hR 2 (by decide)
    have f5 : vals 5 = .bool false := hR 5 (by decide)
    have f6 : vals 6 = .bool false := hR 6 (by decide)
    have f7 : vals 7 = vi := hR 7 (by decide)
    have f8 : vals 8 = u := hR 8 (by decide)
    have f9 : vals 9 = .bool true := hR 9 (by decide)
    have f10 : vals 10 = .bool false := hR 10 (by decide)
    have h3 : RwB (vals 3) (wrL L) W1 := hR 3 (by decide)
    have f4 : vals 4 = .string SW := hR 4 (by decide)
    simp only [List.drop, List.take, putAll, List.setIfInBounds_toArray, List.set_cons_succ, List.set_cons_zero, f0, f1, f2, f4, f5, f6, f7, f8, f9, f10]
    clear f0 f1 f2 f4 f5 f6 f7 f8 f9 f10 hR
    have H4 := hid_of' (And.intro (hvb.later hX) (And.intro (hru.later hX) (And.intro (bgo hbW hX) (And.intro ovb (And.intro b3.size (And.intro hX.size H2.out.2.2.2))))))
    have HSW := hid_of' hSW
    clear hvb hru hri hbW HWr HSt hX h3 ovb b3 hSW
    go_upto_region 6 with fail
    have HSp := hid_of' (spoilBytes_is H4.out.1 (u8s_of _) (by have := wrL_len L; have := HLn.out.1; omega))
    go_upto_region 7 with (go_at_call 9; refine HSp.out.mono ?_; rintro e w5 ⟨⟨z5, rfl⟩, c5⟩)
    have hvb2 := H4.out.2.2.2.1
    have ru5 : RwT u L w5 := Rw.ch H4.out.2.1 c5 (fun k hk e => by
      have h1 := H4.out.2.2.2.2.2.2 k hk
      have h2 := hvb2 k e
      omega)
    have hb5 : Below w.heap.size w w5 := H4.out.2.2.1.trans (c5.below (n := w.heap.size) (fun s hs e => by
      have h2 := hvb2 s e
      have h3 := H2.out.2.2.1.size
      omega) H4.out.2.2.1.size)
    obtain ⟨ua, uc, huv, _, _⟩ := Rw.form ru5
    obtain ⟨n, hn⟩ : ∃ n, n = L.length := ⟨_, rfl⟩
    rw [← hn] at huv
    subst huv
    have hnn : n ≤ 200 := by have := HLn.out.1; omega
    have HU := hid_of' (And.intro ru5 (And.intro hb5 hn))
    clear ru5 hb5 hn c5 HSp H4 hvb2
    go_upto_region 8 with fail
    go_loopw [5] (fun iv wr => ∃ k : Nat, iv = .int .i64 (k : Int) ∧ k ≤ n ∧ Below w5.heap.size w5 wr) (fun iv _ => n - (intOf iv).toNat)
    case atStart => exact ⟨0, rfl, Nat.zero_le _, Below.refl _ _⟩
    case round =>
      obtain ⟨k, rfl, hk, hB⟩ := hrel
      by_cases hkn : k < n
      · have hki : (k : Int) < (n : Int) := by omega
        obtain ⟨e, he⟩ : ∃ e, L[k]? = some e := ⟨_, List.getElem?_eq_getElem (by rw [← HU.out.2.2]; exact hkn)⟩
        have hes := HLn.out.2 e (List.mem_of_getElem? he)
        obtain ⟨g, o, rfl, hg, hcs⟩ := ((RwT.sl HU.out.1).later hB).at he
        obtain ⟨sk, sa, sb, sc, st⟩ := e
        unfold stE at hcs
        dsimp only at hcs hes
        have hTk := HTab.out.later (bgo HU.out.2.1 hB)
        have HPl := hid_of' (fun (x : World) => plain_is sk sa sb sc st (by omega) x)
        have HPr := hid_of' (fun (x : World) => refplain_is sk sa sb sc st (by omega) x)
        have HTx := hid_of' (fun (x : World) (hx : Below wr.heap.size wr x) => text_is (k := sk) (a := sa) (b := sb) (c := sc) (t := st) (by omega) (hTk.later hx))
        have HTr := hid_of' (fun (x : World) => reftext_is (w := x) (k := sk) (a := sa) (b := sb) (c := sc) (t := st) (by omega))
        generalize pln ⟨sk, sa, sb, sc, st⟩ = pb at HPl HPr
        generalize textB ⟨sk, sa, sb, sc, st⟩ = tb at HTx HTr
        clear he hTk
        cases pb
        all_goals
          go_upto_region 10 with fail
          go_upto_region 10 with fail
          refine wp_region_cls (by kernel_rfl) (by kernel_rfl) ?_
          repeat (first | go_big_quiet_skip | (go_big_quiet_want; first | (refine quiet_ldT _ rfl rfl hcs.cls ?_; simp only [Act.put, List.setIfInBounds_toArray, List.set_cons_succ, List.set_cons_zero]; go_big_quiet_on) | (refine quiet_ldT _ rfl rfl hcs.cls ?_; simp only [Act.put, List.setIfInBounds_toArray, List.set_cons_succ, List.set_cons_zero]; go_big_quiet_on) | (refine quiet_ldT _ rfl rfl hcs.cls ?_; simp only [Act.put, List.setIfInBounds_toArray, List.set_cons_succ, List.set_cons_zero]; go_big_quiet_on) | (refine quiet_ldT _ rfl rfl hcs.cls ?_; simp only [Act.put, List.setIfInBounds_toArray, List.set_cons_succ, List.set_cons_zero]; go_big_quiet_on) | (go_big_quiet_op; first | go_big_quiet_on | go_big_quiet_call ((first | (go_at_call 10; exact cls_of (HPl.out _)) | (go_at_call 11; exact cls_of (HPr.out _)) | (go_at_call 12; exact cls_of (HTx.out _ (wOf_below _))) | (go_at_call 13; exact cls_of (HTr.out _)))))))
          refine wpQuiet_nil ?_
          rintro w1 ⟨s1, e1⟩
          have hb1 := wOf_below s1
          rw [← e1] at hb1
          clear e1 s1
          replace hB := bgo hB hb1
          clear hb1
          go_wp2
          exact ⟨⟨k + 1, by go_num, by omega, hB⟩, by simp [intOf]; omega⟩
      · have hki : ¬ (k : Int) < (n : Int) := by omega
        have hru := (RwT.sl HU.out.1).later hB
        have hbW := bgo HU.out.2.1 hB
        have HWp := hid_of' (fun (x : World) (hx : Below wr.heap.size wr x) => write_ok (hru.later hx) (by have := HLn.out.1; omega) (fun e he => by have := HLn.out.2 e he; omega))
        have HWr := hid_of' (fun (x : World) (hx : Below wr.heap.size wr x) => refwrite_ok (hru.later hx) (by have := HLn.out.1; omega) (fun e he => by have := HLn.out.2 e he; omega))
        have hSW := HSW.out
        clear hB hru
        go_upto_region 12 with fail
        refine wp_region_tail 9 (by kernel_rfl) (fun j => if j = 7 then some true else none) (by kernel_rfl) (by kernel_rfl) (by decide) (fun i v x => match i with
          | 0 => v = .slice ua n uc
          | 1 => RwB v (wrL L) x
          | 2 => v = .string SW
          | 3 => v = .slice ua n uc
          | 4 => RwB v (wrL L) x
          | 5 => v = .string SW
          | 6 => v = .bool true
          | 7 => v = .bool true
          | 8 => v = .bool true
          | _ => True) (fun _ => false) (fun j v x b hj hR => by
      by_cases e : j = 7
      · subst e
        simp at hj
        subst hj
        exact hR
      · simp [e] at hj) ?_ ?_ ?_
        · intro i v x x' hR hb
          match i, hR with
          | 0, h => exact h
          | 1, h => exact RwB.later h hb
          | 2, h => exact h
          | 3, h => exact h
          | 4, h => exact RwB.later h hb
          | 5, h => exact h
          | 6, h => exact h
          | 7, h => exact h
          | 8, h => exact h
          | m + 9, h => exact h
        · intro i o hi ho q x vals hX hdep hoth
          have t0 : q.tmps[0]? = some (.slice ua n uc) := by rw [hoth 0 (by kernel_rfl)]; rfl
          match i, hi, ho with
          | 0, _, ho =>
            simp only [List.getElem?_cons_zero, Option.some.injEq] at ho
            subst ho
            unfold Oper.wp
            simp [execOp, go_sem, t0]
            exact came _ rfl (Below.refl _ _) rfl (fun h => absurd h (by decide))
          | 1, _, ho =>
            simp only [List.getElem?_cons_succ, List.getElem?_cons_zero, Option.some.injEq] at ho
            subst ho
            obtain ⟨u0, e0⟩ := hdep ⟨0, .data⟩ (by simp) rfl _ 57 rfl rfl
            rw [show vals 0 = .slice ua n uc from e0] at u0
            unfold Oper.wp
            simp [go_sem, u0]
            refine (HWp.out x hX).mono ?_
            rintro r x1 ⟨v3, rfl, h3, _, hb1⟩
            exact came _ rfl hb1 h3 (fun h => absurd h (by decide))
          | 2, _, ho =>
            simp only [List.getElem?_cons_succ, List.getElem?_cons_zero, Option.some.injEq] at ho
            subst ho
            obtain ⟨u1, e1⟩ := hdep ⟨1, .data⟩ (by simp) rfl _ 58 rfl rfl
            exact opw_strB _ rfl (by simp [Act.eval, u1]) (hSW ▸ run_strB e1) (came _ rfl (Below.refl _ _) rfl (fun h => absurd h (by decide)))
          | 3, _, ho =>
            simp only [List.getElem?_cons_succ, List.getElem?_cons_zero, Option.some.injEq] at ho
            subst ho
            unfold Oper.wp
            simp [execOp, go_sem, t0]
            exact came _ rfl (Below.refl _ _) rfl (fun h => absurd h (by decide))
          | 4, _, ho =>
            simp only [List.getElem?_cons_succ, List.getElem?_cons_zero, Option.some.injEq] at ho
            subst ho
            obtain ⟨u3, e3⟩ := hdep ⟨3, .data⟩ (by simp) rfl _ 60 rfl rfl
            rw [show vals 3 = .slice ua n uc from e3] at u3
            unfold Oper.wp
            simp [go_sem, u3]
            refine (HWr.out x hX).mono ?_
            rintro r x1 ⟨v3, rfl, h3, _, hb1⟩
            exact came _ rfl hb1 h3 (fun h => absurd h (by decide))
          | 5, _, ho =>
            simp only [List.getElem?_cons_succ, List.getElem?_cons_zero, Option.some.injEq] at ho
            subst ho
            obtain ⟨u4, e4⟩ := hdep ⟨4, .data⟩ (by simp) rfl _ 61 rfl rfl
            exact opw_strB _ rfl (by simp [Act.eval, u4]) (hSW ▸ run_strB e4) (came _ rfl (Below.refl _ _) rfl (fun h => absurd h (by decide)))
          | 6, _, ho =>
            simp only [List.getElem?_cons_succ, List.getElem?_cons_zero, Option.some.injEq] at ho
            subst ho
            obtain ⟨u2, e2⟩ := hdep ⟨2, .data⟩ (by simp) rfl _ 59 rfl rfl
            rw [show vals 2 = .string SW from e2] at u2
            obtain ⟨u5, e5⟩ := hdep ⟨5, .data⟩ (by simp) rfl _ 62 rfl rfl
            rw [show vals 5 = .string SW from e5] at u5
            unfold Oper.wp
            simp [execOp, go_sem, u2, u5]
            exact came _ rfl (Below.refl _ _) rfl (fun h => absurd h (by decide))
          | 7, _, ho =>
            simp only [List.getElem?_cons_succ, List.getElem?_cons_zero, Option.some.injEq] at ho
            subst ho
            obtain ⟨u6, e6⟩ := hdep ⟨6, .data⟩ (by simp) rfl _ 63 rfl rfl
            rw [show vals 6 = .bool true from e6] at u6
            unfold Oper.wp
            simp [execOp, go_sem, u6]
            exact came _ rfl (Below.refl _ _) rfl (fun h => absurd h (by decide))
          | 8, _, ho =>
            simp only [List.getElem?_cons_succ, List.getElem?_cons_zero, Option.some.injEq] at ho
            subst ho
            unfold Oper.wp
            simp [go_sem, ]
            refine (HK.out x).mono ?_
            rintro r x1 ⟨rfl, hb1⟩
            exact came _ rfl hb1 rfl (fun h => absurd h (by decide))
          | m + 9, hi, _ => exact absurd hi (by omega)
        · intro vals W2 hX hR _
          have f0 : vals 0 = .slice ua n uc := hR 0 (by decide)
          have f2 : vals 2 = .string SW := hR 2 (by decide)
          have f3 : vals 3 = .slice ua n uc := hR 3 (by decide)
          have f5 : vals 5 = .string SW := hR 5 (by decide)
          have f6 : vals 6 = .bool true := hR 6 (by decide)
          have f7 : vals 7 = .bool true := hR 7 (by decide)
          have f8 : vals 8 = .bool true := hR 8 (by decide)
          simp only [List.drop, List.take, putAll, List.setIfInBounds_toArray, List.set_cons_succ, List.set_cons_zero, f0, f2, f3, f5, f6, f7, f8]
          clear f0 f2 f3 f5 f6 f7 f8 hR
          have HX := hid_of' (bgo hbW hX)
          clear hX hbW hSW HWp HWr
          go_wp2
          go_ret
          exact ⟨rfl, HX.out⟩
end Go.Proofs.YtphdkniplhkkfaaDoor
