
/-
  barrowlaw02.WireUnlike answers true.
-/
import Derived.Test.YtfiajbgeijgheaaDoorUnC
namespace Go.Proofs.YtfiajbgeijgheaaDoor
open Go.RowKit
set_option maxRecDepth 100000

set_option maxHeartbeats 4000000 in
theorem unlike_any {ad : Nat → Addr} {w : World} {va vb : Value} {a b : List Itm} (L : Lw ad w) (ha : SlI w va a) (hb : SlI w vb b) :
    Calls Tryd.prog 6 #[va, vb] w fun e w' => e = .returned (.bool true) ∧ Below w.heap.size w w' := by
  obtain ⟨i0, hi, hi3⟩ := Option.map_eq_some_iff.1 info_item
  simp only [Prod.mk.injEq] at hi3
  obtain ⟨hz0, hz1, hz2⟩ := hi3
  obtain ⟨a1, c1, rfl⟩ : ∃ x c, va = .slice x a.length c := by
    rcases ha with ⟨rfl, a, c, rfl⟩ | ⟨g, o, c, rfl, _⟩
    · exact ⟨a, c, rfl⟩
    · exact ⟨_, c, rfl⟩
  obtain ⟨a2, c2, rfl⟩ : ∃ x c, vb = .slice x b.length c := by
    rcases hb with ⟨rfl, a, c, rfl⟩ | ⟨g, o, c, rfl, _⟩
    · exact ⟨a, c, rfl⟩
    · exact ⟨_, c, rfl⟩
  have HC : Aside (SlI w (.slice a1 a.length c1) a ∧ SlI w (.slice a2 b.length c2) b) := ⟨ha, hb⟩
  have HL : Aside (Lw ad w) := L
  clear ha hb L
  go_enter Tryd.func6, Tryd.ntmps6
  go_upto_block 0 with fail
  go_cut [5, 6] from 7 to 70 (fun s5 s6 wx => ∃ i : Nat, i ≤ 30 ∧ UnInv a b w i s5 s6 wx)
  case first =>
    go_wp2_with fail
    have hI : UnInv a b w 0 (.slice none 0 0) (.slice none 0 0) w := ⟨by simpa [uns, icells] using World.ownsRow_nil w w.heap.size 29 4, by simpa [uns, icells] using World.ownsRow_nil w w.heap.size 29 4, by simp [Value.ownBlock], Below.refl _ _⟩
    go_loopg [5, 6, 7] a.length (fun k xv yv iv wr => ∃ (i : Nat), k = a.length - i ∧ i ≤ a.length ∧ i ≤ b.length ∧ i ≤ 30 ∧ iv = .int .i64 (i : Int) ∧ UnInv a b w i xv yv wr)
    case atStart => exact ⟨0, by omega, by omega, by omega, by omega, rfl, hI⟩
    case round =>
      obtain ⟨i, hgk, hia, hib, h30, rfl, hS⟩ := hrel
      clear hI
      have HI : Aside (UnInv a b w i u5 u6 wr) := hS
      by_cases hlt : i < a.length ∧ i < b.length ∧ i < 30
      · have h1 : (i : Int) < (a.length : Int) := by omega
        have h2 : (i : Int) < (b.length : Int) := by omega
        have h3 : (i : Int) < 30 := by omega
        have hp : a[i]? = some (a[i]'hlt.1) := List.getElem?_eq_getElem hlt.1
        have hq : b[i]? = some (b[i]'hlt.2.1) := List.getElem?_eq_getElem hlt.2.1
        generalize a[i]'hlt.1 = p at hp
        generalize b[i]'hlt.2.1 = q at hq
        obtain ⟨ga, oa, hga, hgl, fa, ea⟩ : ∃ gc oc, a1 = some ⟨gc, oc, none⟩ ∧ gc < w.heap.size ∧ p.Fit ∧ ItAt w gc (oc + i * 4) p := by
          rcases HC.out.1 with ⟨h0, _⟩ | ⟨g, o, c, he, hg, hc⟩
          · rw [h0] at hlt; simp at hlt
          · simp only [Value.slice.injEq, true_and] at he
            exact ⟨g, o, he.1, hg, hc i p hp⟩
        obtain ⟨gb, ob, hgb, hgm, fb, eb⟩ : ∃ gc oc, a2 = some ⟨gc, oc, none⟩ ∧ gc < w.heap.size ∧ q.Fit ∧ ItAt w gc (oc + i * 4) q := by
          rcases HC.out.2 with ⟨h0, _⟩ | ⟨g, o, c, he, hg, hc⟩
          · rw [h0] at hlt; simp at hlt
          · simp only [Value.slice.injEq, true_and] at he
            exact ⟨g, o, he.1, hg, hc i q hq⟩
        subst hga hgb
        have hea : CsIn ga (oa + i * 4) (iv p) wr := ea.in.later hS.bel
        have heb : CsIn gb (ob + i * 4) (iv q) wr := eb.in.later hS.bel
        have hkt : (i : Int).toNat = i := by omega
        have HP : Aside (a[i]? = some p ∧ b[i]? = some q) := ⟨hp, hq⟩
        clear hp hq fa fb hS hgl hgm HC ea eb
        go_upto_region 5 with fail
        refine wp_region_float (by kernel_rfl) (by kernel_rfl) (fun i9 v x => match i9 with
          | 0 => v = .slice (some ⟨ga, oa, none⟩) a.length c1
          | 1 => v = .int .i64 (i : Int)
          | 2 => v = .pointer (some ⟨ga, oa + i * 4, none⟩)
          | 3 => v = .agg (iv p)
          | 4 => v = .slice (some ⟨gb, ob, none⟩) b.length c2
          | 5 => v = .int .i64 (i : Int)
          | 6 => v = .pointer (some ⟨gb, ob + i * 4, none⟩)
          | 7 => v = .agg (iv q)
          | _ => True) (fun i9 => match i9 with | 8 => some (29, 4) | 9 => some (29, 4) | _ => none) (fun i9 => match i9 with | 10 => some (8, 3) | 11 => some (9, 7) | _ => none) ?_ ?_ ?_ ?_ ?_ ?_ ?_
        · intro kk f s h
          match kk, h with
          | 10, h => cases h; exact ⟨rfl, (by intro h; cases h), rfl, rfl, _, _, _, _, _, ⟨8, .data⟩, ⟨3, .data⟩, rfl, rfl, rfl, rfl, rfl, (by simp), rfl, rfl, (by simp), rfl, rfl⟩
          | 11, h => cases h; exact ⟨rfl, (by intro h; cases h), rfl, rfl, _, _, _, _, _, ⟨9, .data⟩, ⟨7, .data⟩, rfl, rfl, rfl, rfl, rfl, (by simp), rfl, rfl, (by simp), rfl, rfl⟩
          | 0, h | 1, h | 2, h | 3, h | 4, h | 5, h | 6, h | 7, h | 8, h | 9, h => cases h
          | m + 12, h => cases h
        · intro i9 t n h
          match i9, h with
          | 8, h => rfl
          | 9, h => rfl
          | 0, h | 1, h | 2, h | 3, h | 4, h | 5, h | 6, h | 7, h | 10, h | 11, h => cases h
          | m + 12, h => cases h
        · intro p9 q9 f s s' k1 k2
          have e1 : (p9 = 10 ∧ f = 8) ∨ (p9 = 11 ∧ f = 9) := by
            match p9, k1 with
            | 10, h => cases h; simp
            | 11, h => cases h; simp
            | 0, h | 1, h | 2, h | 3, h | 4, h | 5, h | 6, h | 7, h | 8, h | 9, h => cases h
            | m + 12, h => cases h
          have e2 : (q9 = 10 ∧ f = 8) ∨ (q9 = 11 ∧ f = 9) := by
            match q9, k2 with
            | 10, h => cases h; simp
            | 11, h => cases h; simp
            | 0, h | 1, h | 2, h | 3, h | 4, h | 5, h | 6, h | 7, h | 8, h | 9, h => cases h
            | m + 12, h => cases h
          omega
        · intro i9 o ho hA hK q9 X vals S hX hS hdep hoth
          have t0 : q9.tmps[0]? = some (.slice (some ⟨ga, oa, none⟩) a.length c1) := by rw [hoth 0 (by kernel_rfl)]; rfl
          have t1 : q9.tmps[1]? = some (.slice (some ⟨gb, ob, none⟩) b.length c2) := by rw [hoth 1 (by kernel_rfl)]; rfl
          have t7 : q9.tmps[7]? = some (.int .i64 (i : Int)) := by rw [hoth 7 (by kernel_rfl)]; rfl
          match i9, ho, hA, hK with
          | 0, ho, hA, hK =>
            simp only [List.getElem?_cons_zero, Option.some.injEq] at ho
            subst ho
            unfold Oper.wp
            simp [execOp, go_sem, t0]
            exact cameF _ rfl (Below.refl _ _) (fun _ _ => rfl)
          | 1, ho, hA, hK =>
            simp only [List.getElem?_cons_succ, List.getElem?_cons_zero, Option.some.injEq] at ho
            subst ho
            unfold Oper.wp
            simp [execOp, go_sem, t7]
            exact cameF _ rfl (Below.refl _ _) (fun _ _ => rfl)
          | 2, ho, hA, hK =>
            simp only [List.getElem?_cons_succ, List.getElem?_cons_zero, Option.some.injEq] at ho
            subst ho
            obtain ⟨u0, e0⟩ := hdep ⟨0, .data⟩ (by simp) rfl _ 32 rfl rfl
            rw [show vals 0 = .slice (some ⟨ga, oa, none⟩) a.length c1 from e0 rfl rfl X (KeptP.refl _ _)] at u0
            obtain ⟨u1, e1⟩ := hdep ⟨1, .data⟩ (by simp) rfl _ 33 rfl rfl
            rw [show vals 1 = .int .i64 (i : Int) from e1 rfl rfl X (KeptP.refl _ _)] at u1
            unfold Oper.wp
            simp [execOp, go_sem, u0, u1, h1, hkt]
            exact cameF _ rfl (Below.refl _ _) (fun _ _ => rfl)
          | 3, ho, hA, hK =>
            simp only [List.getElem?_cons_succ, List.getElem?_cons_zero, Option.some.injEq] at ho
            subst ho
            obtain ⟨u2, e2⟩ := hdep ⟨2, .data⟩ (by simp) rfl _ 34 rfl rfl
            rw [show vals 2 = .pointer (some ⟨ga, oa + i * 4, none⟩) from e2 rfl rfl X (KeptP.refl _ _)] at u2
            exact opw_loadI _ rfl (by simp [Act.eval, u2]) (hea.later hX) (cameF _ rfl (Below.refl _ _) (fun _ _ => rfl))
          | 4, ho, hA, hK =>
            simp only [List.getElem?_cons_succ, List.getElem?_cons_zero, Option.some.injEq] at ho
            subst ho
            unfold Oper.wp
            simp [execOp, go_sem, t1]
            exact cameF _ rfl (Below.refl _ _) (fun _ _ => rfl)
          | 5, ho, hA, hK =>
            simp only [List.getElem?_cons_succ, List.getElem?_cons_zero, Option.some.injEq] at ho
            subst ho
            unfold Oper.wp
            simp [execOp, go_sem, t7]
            exact cameF _ rfl (Below.refl _ _) (fun _ _ => rfl)
          | 6, ho, hA, hK =>
            simp only [List.getElem?_cons_succ, List.getElem?_cons_zero, Option.some.injEq] at ho
            subst ho
            obtain ⟨u4, e4⟩ := hdep ⟨4, .data⟩ (by simp) rfl _ 36 rfl rfl
            rw [show vals 4 = .slice (some ⟨gb, ob, none⟩) b.length c2 from e4 rfl rfl X (KeptP.refl _ _)] at u4
            obtain ⟨u5, e5⟩ := hdep ⟨5, .data⟩ (by simp) rfl _ 37 rfl rfl
            rw [show vals 5 = .int .i64 (i : Int) from e5 rfl rfl X (KeptP.refl _ _)] at u5
            unfold Oper.wp
            simp [execOp, go_sem, u4, u5, h2, hkt]
            exact cameF _ rfl (Below.refl _ _) (fun _ _ => rfl)
          | 7, ho, hA, hK =>
            simp only [List.getElem?_cons_succ, List.getElem?_cons_zero, Option.some.injEq] at ho
            subst ho
            obtain ⟨u6, e6⟩ := hdep ⟨6, .data⟩ (by simp) rfl _ 38 rfl rfl
            rw [show vals 6 = .pointer (some ⟨gb, ob + i * 4, none⟩) from e6 rfl rfl X (KeptP.refl _ _)] at u6
            exact opw_loadI _ rfl (by simp [Act.eval, u6]) (heb.later hX) (cameF _ rfl (Below.refl _ _) (fun _ _ => rfl))
          | 8, ho, hA, hK => cases hA
          | 9, ho, hA, hK => cases hA
          | 10, ho, hA, hK => cases hK
          | 11, ho, hA, hK => cases hK
          | m + 12, ho, hA, hK => simp at ho
        · intro i9 o t n ho hA q9 x
          match i9, ho, hA with
          | 8, ho, hA =>
            cases hA
            simp only [List.getElem?_cons_succ, List.getElem?_cons_zero, Option.some.injEq] at ho
            subst ho
            unfold Oper.wp
            simp [execOp, go_sem]
            exact ⟨_, rfl, rfl, rfl⟩
          | 9, ho, hA =>
            cases hA
            simp only [List.getElem?_cons_succ, List.getElem?_cons_zero, Option.some.injEq] at ho
            subst ho
            unfold Oper.wp
            simp [execOp, go_sem]
            exact ⟨_, rfl, rfl, rfl⟩
          | 0, ho, hA | 1, ho, hA | 2, ho, hA | 3, ho, hA | 4, ho, hA | 5, ho, hA | 6, ho, hA | 7, ho, hA | 10, ho, hA | 11, ho, hA => cases hA
          | m + 12, ho, hA => cases hA
        · intro i9 o of os_ f s n g' t df ds sv ho hK hA hf hs hdf hds q9 x cs0 sf ss hR hg hn
          match i9, ho, hK with
          | 10, ho, hK =>
            cases hK
            cases hA
            simp only [List.getElem?_cons_succ, List.getElem?_cons_zero, Option.some.injEq] at ho hf hs
            subst ho hf hs
            cases hdf
            cases hds
            obtain rfl : sv = .agg (iv p) := hR
            exact wp_store_row _ _ _ rfl g' ((iv p)) (by simp [Act.eval, sf]) (by simp [Act.eval, ss]) _ cs0 hg (i_size p) (by rw [hn]; rfl) (i_one p) ⟨undef, (iv p), rfl, rfl, rfl, rfl⟩
          | 11, ho, hK =>
            cases hK
            cases hA
            simp only [List.getElem?_cons_succ, List.getElem?_cons_zero, Option.some.injEq] at ho hf hs
            subst ho hf hs
            cases hdf
            cases hds
            obtain rfl : sv = .agg (iv q) := hR
            exact wp_store_row _ _ _ rfl g' ((iv q)) (by simp [Act.eval, sf]) (by simp [Act.eval, ss]) _ cs0 hg (i_size q) (by rw [hn]; rfl) (i_one q) ⟨undef, (iv q), rfl, rfl, rfl, rfl⟩
          | 0, ho, hK | 1, ho, hK | 2, ho, hK | 3, ho, hK | 4, ho, hK | 5, ho, hK | 6, ho, hK | 7, ho, hK | 8, ho, hK | 9, ho, hK => cases hK
          | m + 12, ho, hK => cases hK
        · intro vals w5 hb5 hR5 hBk
          obtain ⟨gA, csA, qA, gA0, hrA, _, hstA⟩ := hBk 8 _ _ (by decide) rfl
          obtain ⟨gB, csB, qB, gB0, hrB, _, hstB⟩ := hBk 9 _ _ (by decide) rfl
          have v3 : vals 3 = .agg (iv p) := hR5 3 (by decide) rfl rfl
          have v7 : vals 7 = .agg (iv q) := hR5 7 (by decide) rfl rfl
          have eA : csA = iv p := Value.agg.inj ((hstA 10 3 (by decide) rfl).symm.trans v3)
          have eB : csB = iv q := Value.agg.inj ((hstB 11 7 (by decide) rfl).symm.trans v7)
          subst eA eB
          have rA : RowAt gA (iv p) 29 w5 := hrA
          have rB : RowAt gB (iv q) 29 w5 := hrB
          simp only [putAll, qA, qB, List.setIfInBounds_toArray, List.set_cons_succ, List.set_cons_zero]
          clear hrA hrB hR5 hBk hstA hstB v3 v7 qA qB hea heb
          obtain ⟨pk, pn, ps, pb⟩ := p
          obtain ⟨qk, qn, qs, qb⟩ := q
          have a0 : w5.cell? ⟨gA, 0, none⟩ = some (.int .i64 pk) := by rw [rA.cell]; rfl
          have b0 : w5.cell? ⟨gB, 0, none⟩ = some (.int .i64 qk) := by rw [rB.cell]; rfl
          have f0 := frozenW_of rB 0
          have rB6 : RowAt gB (iv ⟨pk, qn, qs, qb⟩) 29 (w5.setCell ⟨gB, 0, none⟩ (.int .i64 pk)) := heap_setCell_at rB 0 (.int .i64 pk)
          have rA6 : RowAt gA (iv ⟨pk, pn, ps, pb⟩) 29 (w5.setCell ⟨gB, 0, none⟩ (.int .i64 pk)) := by
            by_cases e : gA = gB
            · subst e
              exact heap_setCell_at rA 0 (.int .i64 pk)
            · unfold RowAt
              rw [Below.heap_setCell _ _ _ _ e]
              exact rA
          have hb6 : Below wr.heap.size wr (w5.setCell ⟨gB, 0, none⟩ (.int .i64 pk)) := hb5.setCell (p := ⟨gB, 0, none⟩) gB0 _
          go_upto_region 7 with fail
          clear rA rB a0 b0 f0 hb5
          generalize w5.setCell ⟨gB, 0, none⟩ (.int .i64 pk) = w6 at *
          have a1' : w6.cell? ⟨gA, 1, none⟩ = some (.int .i64 pn) := by rw [rA6.cell]; rfl
          have a2' : w6.cell? ⟨gA, 2, none⟩ = some (.string ps) := by rw [rA6.cell]; rfl
          have b1' : w6.cell? ⟨gB, 1, none⟩ = some (.int .i64 qn) := by rw [rB6.cell]; rfl
          have b2' : w6.cell? ⟨gB, 2, none⟩ = some (.string qs) := by rw [rB6.cell]; rfl
          have HR := hid_of' (And.intro rA6 rB6)
          clear rA6 rB6 hkt
          by_cases n1 : pn < 0
          · go_wp2
            go_roundg (a.length - (i + 1))
            case measure => omega
            case rel => exact ⟨i + 1, rfl, by omega, by omega, by omega, by go_num, HI.out.skip HP.out.1 HP.out.2 (by simp [unOk, n1]) hb6⟩
          by_cases n2 : qn < 0
          · go_wp2
            go_roundg (a.length - (i + 1))
            case measure => omega
            case rel => exact ⟨i + 1, rfl, by omega, by omega, by omega, by go_num, HI.out.skip HP.out.1 HP.out.2 (by simp [unOk, n2]) hb6⟩
          by_cases n3 : (100 : Int) < (ps.size : Int)
          · go_wp2
            go_roundg (a.length - (i + 1))
            case measure => omega
            case rel => exact ⟨i + 1, rfl, by omega, by omega, by omega, by go_num, HI.out.skip HP.out.1 HP.out.2 (by simp [unOk, show 100 < ps.size by omega]) hb6⟩
          by_cases n4 : (100 : Int) < (qs.size : Int)
          · go_wp2
            go_roundg (a.length - (i + 1))
            case measure => omega
            case rel => exact ⟨i + 1, rfl, by omega, by omega, by omega, by go_num, HI.out.skip HP.out.1 HP.out.2 (by simp [unOk, show 100 < qs.size by omega]) hb6⟩
          have hu : unOk (⟨pk, pn, ps, pb⟩, ⟨qk, qn, qs, qb⟩) = true := by
            have e3 : ¬ 100 < ps.size := by omega
            have e4 : ¬ 100 < qs.size := by omega
            simp [unOk, n1, n2, e3, e4]
          have a0 : w6.cell? ⟨gA, 0, none⟩ = some (.int .i64 pk) := by rw [HR.out.1.cell]; rfl
          have a3 : w6.cell? ⟨gA, 3, none⟩ = some (.int .u8 (pb.toNat : Int)) := by rw [HR.out.1.cell]; rfl
          have hln := uns_len a b i
          have hwr := HI.out.bel.size
          have x1 := own_fr HI.out.xo (.below hb6)
          have HU := hid_of' hu
          clear hu
          go_upto_region 9 with (at_builtin; refine wpList_append_apart rfl _ _ 22 rfl w.heap.size 29 i0 (.agg #[.int .i64 0, .int .i64 0, .string ⟨#[]⟩, .int .u8 0]) 4 40 Tryd.underlying22 hi hz0 hz1 hz2 rfl (by decide) _ _ _ rfl (x1.alloc _) ⟨w6.heap.size, 0, none⟩ 1 (Itm.cells ⟨pk, pn, ps, pb⟩) rfl rfl ?c1 ?c2 ?c3 ?c4 ?c5 ?_)
          case c1 => exact fun j u h => h
          case c2 =>
            intro u hu
            simp only [Itm.cells, List.mem_cons, List.not_mem_nil, or_false] at hu
            rcases hu with rfl | rfl | rfl | rfl <;> rfl
          case c3 => unfold maxLen; omega
          case c4 => omega
          case c5 => have := hb6.size; simp; omega
          intro v7 w7 hown7 hgr7 hap7
          have hgb : ¬ u5.ownBlock = some gB := fun e => by have := (HI.out.xo.lt gB e).2; omega
          have y1 : (w6.alloc (.cells #[.int .i64 pk, .int .i64 pn, .string ps, .int .u8 (pb.toNat : Int)] 29)).ownsRow w.heap.size 29 4 u6 (uns a b i).length (icells ((uns a b i).map (·.2))) := own_fr (own_fr HI.out.yo (.below hb6)) ((FrT.refl w6).alloc _)
          replace hap7 : v7.ownBlock = u5.ownBlock ∨ v7.ownBlock = some (w6.alloc (.cells #[.int .i64 pk, .int .i64 pn, .string ps, .int .u8 (pb.toNat : Int)] 29)).heap.size := by simpa using hap7
          obtain ⟨y2, ap2⟩ := apart_grow (v' := v7) y1 (fun k hk he => HI.out.ap k he hk) hgr7 hown7 hap7
          have rB7 : RowAt gB (iv ⟨pk, qn, qs, qb⟩) 29 w7 := by
            have h1 := HR.out.2.alloc (.cells #[.int .i64 pk, .int .i64 pn, .string ps, .int .u8 (pb.toNat : Int)] 29)
            exact (hgr7.block gB h1.lt (fun e => hgb e.symm)).trans h1
          have b0 : w7.cell? ⟨gB, 0, none⟩ = some (.int .i64 pk) := by rw [rB7.cell]; rfl
          have b1 : w7.cell? ⟨gB, 1, none⟩ = some (.int .i64 qn) := by rw [rB7.cell]; rfl
          have b2 : w7.cell? ⟨gB, 2, none⟩ = some (.string qs) := by rw [rB7.cell]; rfl
          have b3 : w7.cell? ⟨gB, 3, none⟩ = some (.int .u8 (qb.toNat : Int)) := by rw [rB7.cell]; rfl
          have hs7 : w6.heap.size + 1 ≤ w7.heap.size := by have := hgr7.size; simpa using this
          have HG := hid_of' (And.intro hgr7 (And.intro hown7 hap7))
          clear hgr7 hown7 hap7 y1 ap2 rB7 hgb a0 a1' a2' a3 b1' b2' x1
          go_upto_region 4 with (at_builtin; refine wpList_append_apart rfl _ _ 22 rfl w.heap.size 29 i0 (.agg #[.int .i64 0, .int .i64 0, .string ⟨#[]⟩, .int .u8 0]) 4 40 Tryd.underlying22 hi hz0 hz1 hz2 rfl (by decide) _ _ _ rfl (y2.alloc _) ⟨w7.heap.size, 0, none⟩ 1 (Itm.cells ⟨pk, qn, qs, qb⟩) rfl rfl ?d1 ?d2 ?d3 ?d4 ?d5 ?_)
          case d1 => exact cell_four_new w7 ⟨pk, qn, qs, qb⟩ _
          case d2 =>
            intro u hu
            simp only [Itm.cells, List.mem_cons, List.not_mem_nil, or_false] at hu
            rcases hu with rfl | rfl | rfl | rfl <;> rfl
          case d3 => unfold maxLen; omega
          case d4 => omega
          case d5 => have := hb6.size; simp; omega
          intro v8 w8 hown8 hgr8 hap8
          replace hap8 : v8.ownBlock = u6.ownBlock ∨ v8.ownBlock = some (w7.alloc (.cells #[.int .i64 pk, .int .i64 qn, .string qs, .int .u8 (qb.toNat : Int)] 29)).heap.size := by simpa using hap8
          have HG8 := hid_of' (And.intro hgr8 (And.intro hown8 hap8))
          clear hgr8 hown8 hap8
          go_wp2
          go_roundg (a.length - (i + 1))
          case measure => omega
          case rel => exact ⟨i + 1, rfl, by omega, by omega, by omega, by go_num, HI.out.more HP.out.1 HP.out.2 HU.out hb6 _ HG.out.1 HG.out.2.1 HG.out.2.2 _ HG8.out.1 HG8.out.2.1 HG8.out.2.2⟩
      · have hII : i ≤ 30 ∧ UnInv a b w i u5 u6 wr := ⟨h30, HI.out⟩
        have HJ := hid_of' hII
        clear hII hS
        by_cases h1 : (i : Int) < (a.length : Int)
        · by_cases h2 : (i : Int) < (b.length : Int)
          · have h3 : ¬ (i : Int) < 30 := by omega
            go_wp2
            go_meet
            exact ⟨i, HJ.out⟩
          · go_wp2
            go_meet
            exact ⟨i, HJ.out⟩
        · go_wp2
          go_meet
          exact ⟨i, HJ.out⟩
  case rest =>
    obtain ⟨i, h30, hS⟩ := hcut
    have hall := uns_all (SlI.fits HC.out.1) (SlI.fits HC.out.2) (i := i)
    have hlen := uns_len a b i
    have hxo := hS.xo
    have hyo := hS.yo
    have hbel := hS.bel
    have hLc := lw_below HL.out hbel HL.out.size
    clear hS HC
    generalize uns a b i = z at *
    have hX : SlI wc u5 (z.map (·.1)) := own_sl (by rw [List.length_map]; exact hxo) (fun x hx => by obtain ⟨p, hp, rfl⟩ := List.mem_map.1 hx; exact (hall p hp).2.1)
    have hY : SlI wc u6 (z.map (·.2)) := own_sl (by rw [List.length_map]; exact hyo) (fun x hx => by obtain ⟨p, hp, rfl⟩ := List.mem_map.1 hx; exact (hall p hp).2.2.1)
    have e1 : rowTo (z.map (·.1)) 40 = z.map (·.1) := rowTo_all (fun x hx => by obtain ⟨p, hp, rfl⟩ := List.mem_map.1 hx; exact (hall p hp).2.2.2.1) (by rw [List.length_map]; omega)
    have e2 : rowTo (z.map (·.2)) 40 = z.map (·.2) := rowTo_all (fun x hx => by obtain ⟨p, hp, rfl⟩ := List.mem_map.1 hx; exact (hall p hp).2.2.2.2) (by rw [List.length_map]; omega)
    have hkinds : ∀ (k : Nat) (p : Itm × Itm), z[k]? = some p → p.1.kind = p.2.kind := fun k p h => (hall p (List.mem_of_getElem? h)).1
    have hal := alB_form hall
    obtain ⟨l, hl⟩ : ∃ l, z.map (·.1) = l := ⟨_, rfl⟩
    obtain ⟨m, hm⟩ : ∃ m, z.map (·.2) = m := ⟨_, rfl⟩
    rw [hl] at hX e1 hal
    rw [hm] at hY e2 hal
    have hll : l.length = z.length := by rw [← hl, List.length_map]
    have hml : m.length = z.length := by rw [← hm, List.length_map]
    have HZ := hid_of' (And.intro (And.intro hl hm) (And.intro hll hml))
    clear hl hm hll hml
    obtain ⟨a5, c5, rfl⟩ := hX.form
    obtain ⟨a6, c6, rfl⟩ := hY.form
    have HA := hid_of' (And.intro hal hkinds)
    have HXY := hid_of' e2
    have HR := hid_of' (row_all hLc hX e1)
    clear hal hall hkinds e1 e2 hxo hyo
    go_upto_region 11 with (go_at_call 28; (with_reducible refine HR.out.mono ?_); rintro e w2 ⟨m2, g2, rfl, hg2, hb2⟩)
    have HR2 := hid_of' (row_all (lw_below hLc hb2 hLc.size) (hY.later hb2) HXY.out)
    clear HR
    go_upto_region 12 with (go_at_call 28; (with_reducible refine HR2.out.mono ?_); rintro e w3 ⟨m3, g3, rfl, hg3, hb3⟩)
    have hX3 := (hX.later hb2).later hb3
    have hY3 := (hY.later hb2).later hb3
    have hg23 : w3.heap[g2]? = some (.cells (Lib.byteCells (formL l)).toArray 5 (0, 0)) := by rw [hb3.block g2 (lt_of_heap hg2)]; exact hg2
    have hL3 := lw_below (lw_below hLc hb2 hLc.size) hb3 (lw_below hLc hb2 hLc.size).size
    have hB3 := bgo (bgo hbel hb2) hb3
    have H3 := hid_of' (And.intro hg23 (And.intro hg3 (And.intro hL3 hB3)))
    clear HR2 hX hY hg2 hb2 hb3 hg23 hL3 hB3 hLc hbel hg3
    go_wp2_with fail
    go_loopw [14, 15] (fun bv jv wr => ∃ k : Nat, jv = .int .i64 (k : Int) ∧ k ≤ l.length ∧ bv = .bool (alB z k) ∧ Below w3.heap.size w3 wr) (fun _ j _ => l.length - (intOf j).toNat)
    case atStart => exact ⟨0, rfl, Nat.zero_le _, rfl, Below.refl _ _⟩
    case round =>
      obtain ⟨k, rfl, hk, rfl, hB⟩ := hrel
      have hk30 : k ≤ 30 := by have := HZ.out.2.1; omega
      by_cases hkn : k < l.length
      · have hki : (k : Int) < (l.length : Int) := by omega
        obtain ⟨p, hp⟩ : ∃ p, z[k]? = some p := ⟨_, List.getElem?_eq_getElem (by have := HZ.out.2.1; omega)⟩
        have hx : l[k]? = some p.1 := by rw [← HZ.out.1.1, List.getElem?_map, hp]; rfl
        have hy : m[k]? = some p.2 := by rw [← HZ.out.1.2, List.getElem?_map, hp]; rfl
        obtain ⟨g5, o5, h5, _, hI5⟩ := (hX3.later hB).some hx
        obtain ⟨g6, o6, h6, _, hI6⟩ := (hY3.later hB).some hy
        have hkm : (k : Int) < (m.length : Int) := by have := (List.getElem?_eq_some_iff.1 hy).1; omega
        have hkt : (k : Int).toNat = k := by omega
        have hkk := HA.out.2 k p hp
        have hsc := alB_succ hp
        subst h5 h6
        obtain ⟨⟨xk, xn, xs, xb⟩, ⟨yk, yn, ys, yb⟩⟩ := p
        have HI := hid_of' (And.intro hI5.in hI6.in)
        obtain ⟨d0, _, _, _⟩ := hI5
        simp only at d0 hkk hsc
        have HP := hid_of' (And.intro hsc (And.intro hX3 hY3))
        clear hx hy hp hI6 hX3 hY3 hsc hkk
        have hkind : xk % 3 = 0 ∨ xk % 3 = 1 ∨ xk % 3 = 2 := by omega
        cases hal : alB z k
        all_goals rw [hal] at HP
        all_goals clear hal
        all_goals rcases hkind with hq | hq | hq
        · have e5 : ∀ s : Wld wr, (wOf s).cell? ⟨g5, o5 + k * 4 + 1, none⟩ = some (.int .i64 xn) := fun s => (HI.out.1.later (wOf_below s)).2 1 _ rfl
          have e6 : ∀ s : Wld wr, (wOf s).cell? ⟨g6, o6 + k * 4 + 1, none⟩ = some (.int .i64 yn) := fun s => (HI.out.2.later (wOf_below s)).2 1 _ rfl
          go_upto_region 19 with (go_at_call 8; refine (within3 _ _).mono ?_; rintro e w9 ⟨rfl, h9⟩; obtain rfl := h9.symm)
          refine wp_region_cls (by kernel_rfl) (by kernel_rfl) ?_
          repeat (first | go_big_quiet_skip | (go_big_quiet_want; first | (go_big_quiet_op; first | go_big_quiet_on | go_big_quiet_call ((fail)))))
          refine wpQuiet_nil ?_
          rintro w1 ⟨s1, e1⟩
          have hb1 := wOf_below s1
          rw [← e1] at hb1
          clear e1 s1
          replace hB := bgo hB hb1
          clear hb1
          go_wp2
          go_roundw
          case rel => exact ⟨k + 1, by go_num, by omega, by rw [HP.out.1, Bool.false_and], hB⟩
          case measure => simp [intOf]; omega
        · have e5 : ∀ s : Wld wr, (wOf s).cell? ⟨g5, o5 + k * 4 + 2, none⟩ = some (.string xs) := fun s => (HI.out.1.later (wOf_below s)).2 2 _ rfl
          have e6 : ∀ s : Wld wr, (wOf s).cell? ⟨g6, o6 + k * 4 + 2, none⟩ = some (.string ys) := fun s => (HI.out.2.later (wOf_below s)).2 2 _ rfl
          go_upto_region 21 with (go_at_call 8; refine (within3 _ _).mono ?_; rintro e w9 ⟨rfl, h9⟩; obtain rfl := h9.symm)
          refine wp_region_cls (by kernel_rfl) (by kernel_rfl) ?_
          repeat (first | go_big_quiet_skip | (go_big_quiet_want; first | (go_big_quiet_op; first | go_big_quiet_on | go_big_quiet_call ((fail)))))
          refine wpQuiet_nil ?_
          rintro w1 ⟨s1, e1⟩
          have hb1 := wOf_below s1
          rw [← e1] at hb1
          clear e1 s1
          replace hB := bgo hB hb1
          clear hb1
          go_wp2
          go_roundw
          case rel => exact ⟨k + 1, by go_num, by omega, by rw [HP.out.1, Bool.false_and], hB⟩
          case measure => simp [intOf]; omega
        · have e5 : ∀ s : Wld wr, (wOf s).cell? ⟨g5, o5 + k * 4 + 3, none⟩ = some (.int .u8 (xb.toNat : Int)) := fun s => (HI.out.1.later (wOf_below s)).2 3 _ rfl
          have e6 : ∀ s : Wld wr, (wOf s).cell? ⟨g6, o6 + k * 4 + 3, none⟩ = some (.int .u8 (yb.toNat : Int)) := fun s => (HI.out.2.later (wOf_below s)).2 3 _ rfl
          go_upto_region 17 with (go_at_call 8; refine (within3 _ _).mono ?_; rintro e w9 ⟨rfl, h9⟩; obtain rfl := h9.symm)
          refine wp_region_cls (by kernel_rfl) (by kernel_rfl) ?_
          repeat (first | go_big_quiet_skip | (go_big_quiet_want; first | (go_big_quiet_op; first | go_big_quiet_on | go_big_quiet_call ((fail)))))
          refine wpQuiet_nil ?_
          rintro w1 ⟨s1, e1⟩
          have hb1 := wOf_below s1
          rw [← e1] at hb1
          clear e1 s1
          replace hB := bgo hB hb1
          clear hb1
          go_wp2
          go_roundw
          case rel => exact ⟨k + 1, by go_num, by omega, by rw [HP.out.1, Bool.false_and], hB⟩
          case measure => simp [intOf]; omega
        · have e5 : ∀ s : Wld wr, (wOf s).cell? ⟨g5, o5 + k * 4 + 1, none⟩ = some (.int .i64 xn) := fun s => (HI.out.1.later (wOf_below s)).2 1 _ rfl
          have e6 : ∀ s : Wld wr, (wOf s).cell? ⟨g6, o6 + k * 4 + 1, none⟩ = some (.int .i64 yn) := fun s => (HI.out.2.later (wOf_below s)).2 1 _ rfl
          go_upto_region 19 with (go_at_call 8; refine (within3 _ _).mono ?_; rintro e w9 ⟨rfl, h9⟩; obtain rfl := h9.symm)
          refine wp_region_cls (by kernel_rfl) (by kernel_rfl) ?_
          repeat (first | go_big_quiet_skip | (go_big_quiet_want; first | (go_big_quiet_op; first | go_big_quiet_on | go_big_quiet_call ((fail)))))
          refine wpQuiet_nil ?_
          rintro w1 ⟨s1, e1⟩
          have hb1 := wOf_below s1
          rw [← e1] at hb1
          clear e1 s1
          replace hB := bgo hB hb1
          clear hb1
          go_wp2
          go_roundw
          case rel => exact ⟨k + 1, by go_num, by omega, by rw [HP.out.1]; simp [likeB, hq], hB⟩
          case measure => simp [intOf]; omega
        · have e5 : ∀ s : Wld wr, (wOf s).cell? ⟨g5, o5 + k * 4 + 2, none⟩ = some (.string xs) := fun s => (HI.out.1.later (wOf_below s)).2 2 _ rfl
          have e6 : ∀ s : Wld wr, (wOf s).cell? ⟨g6, o6 + k * 4 + 2, none⟩ = some (.string ys) := fun s => (HI.out.2.later (wOf_below s)).2 2 _ rfl
          go_upto_region 21 with (go_at_call 8; refine (within3 _ _).mono ?_; rintro e w9 ⟨rfl, h9⟩; obtain rfl := h9.symm)
          refine wp_region_cls (by kernel_rfl) (by kernel_rfl) ?_
          repeat (first | go_big_quiet_skip | (go_big_quiet_want; first | (go_big_quiet_op; first | go_big_quiet_on | go_big_quiet_call ((fail)))))
          refine wpQuiet_nil ?_
          rintro w1 ⟨s1, e1⟩
          have hb1 := wOf_below s1
          rw [← e1] at hb1
          clear e1 s1
          replace hB := bgo hB hb1
          clear hb1
          go_wp2
          go_roundw
          case rel => exact ⟨k + 1, by go_num, by omega, by rw [HP.out.1]; simp [likeB, hq, text_eq], hB⟩
          case measure => simp [intOf]; omega
        · have e5 : ∀ s : Wld wr, (wOf s).cell? ⟨g5, o5 + k * 4 + 3, none⟩ = some (.int .u8 (xb.toNat : Int)) := fun s => (HI.out.1.later (wOf_below s)).2 3 _ rfl
          have e6 : ∀ s : Wld wr, (wOf s).cell? ⟨g6, o6 + k * 4 + 3, none⟩ = some (.int .u8 (yb.toNat : Int)) := fun s => (HI.out.2.later (wOf_below s)).2 3 _ rfl
          go_upto_region 17 with (go_at_call 8; refine (within3 _ _).mono ?_; rintro e w9 ⟨rfl, h9⟩; obtain rfl := h9.symm)
          refine wp_region_cls (by kernel_rfl) (by kernel_rfl) ?_
          repeat (first | go_big_quiet_skip | (go_big_quiet_want; first | (go_big_quiet_op; first | go_big_quiet_on | go_big_quiet_call ((fail)))))
          refine wpQuiet_nil ?_
          rintro w1 ⟨s1, e1⟩
          have hb1 := wOf_below s1
          rw [← e1] at hb1
          clear e1 s1
          replace hB := bgo hB hb1
          clear hb1
          go_wp2
          go_roundw
          case rel => exact ⟨k + 1, by go_num, by omega, by rw [HP.out.1]; simp [likeB, hq, byte_eq], hB⟩
          case measure => simp [intOf]; omega
      · have hki : ¬ (k : Int) < (l.length : Int) := by omega
        obtain rfl : k = l.length := by omega
        have hv : alB z l.length = decide (formL l = formL m) := by rw [HZ.out.2.1]; exact HA.out.1
        have hc1 := conv_block (w := wr) (by rw [hB.block g2 (lt_of_heap H3.out.1)]; exact H3.out.1) (formL l).length
        have hc2 := conv_block (w := wr) (by rw [hB.block g3 (lt_of_heap H3.out.2.1)]; exact H3.out.2.1) (formL m).length
        have HB := hid_of' (And.intro (bgo H3.out.2.2.2 hB) (lw_below H3.out.2.2.1 hB H3.out.2.2.1.size))
        clear hB hX3 hY3
        have hXY : (formL l = formL m) ↔ (⟨(formL l).toArray⟩ : ByteArray) = ⟨(formL m).toArray⟩ := ⟨fun h => by rw [h], fun h => by simpa using h⟩
        by_cases he : formL l = formL m
        · have hx := hXY.1 he
          rw [decide_eq_true he] at hv
          rw [hv]
          clear hXY he hv
          generalize (⟨(formL l).toArray⟩ : ByteArray) = X at *
          generalize (⟨(formL m).toArray⟩ : ByteArray) = Y at *
          subst hx
          go_wp2_with (go_at_call 19; refine (wakes_ok HB.out.2).mono ?_; rintro e w9 ⟨rfl, hb9⟩)
          go_ret
          exact ⟨rfl, bgo HB.out.1 hb9⟩
        · have hx : ¬ (⟨(formL l).toArray⟩ : ByteArray) = ⟨(formL m).toArray⟩ := fun h => he (hXY.2 h)
          rw [decide_eq_false he] at hv
          rw [hv]
          clear hXY he hv
          generalize (⟨(formL l).toArray⟩ : ByteArray) = X at *
          generalize (⟨(formL m).toArray⟩ : ByteArray) = Y at *
          have hd : (X.toList == Y.toList) = false := (Lib.bytes_beq_false_iff _ _).2 hx
          go_wp2_with (go_at_call 19; refine (wakes_ok HB.out.2).mono ?_; rintro e w9 ⟨rfl, hb9⟩)
          go_ret
          exact ⟨rfl, bgo HB.out.1 hb9⟩
end Go.Proofs.YtfiajbgeijgheaaDoor
