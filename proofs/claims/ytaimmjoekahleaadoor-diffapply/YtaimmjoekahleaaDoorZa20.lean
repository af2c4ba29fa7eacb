
/-
  diff.distances: the table is the document's.
-/
import Derived.Test.YtaimmjoekahleaaDoorZa19
namespace Go.Proofs.YtaimmjoekahleaaDoor
open Go.RowKit Go.Extern.Stop Go.Stop Go.Extern
set_option maxRecDepth 100000

set_option maxHeartbeats 16000000 in
theorem distances_ok {w : World} {va vb : Value} {xs ys : List Int} (hx : RwR va xs w) (hy : RwR vb ys w) (hx0 : xs ≠ []) (hy0 : ys ≠ []) (hl : xs.length + ys.length ≤ 8388608) :
    Calls Tryd.prog 47 #[va, vb] w fun r w' => ∃ T, r = .returned (.slice (some ⟨T, 0, none⟩) (xs.length + 1) (xs.length + 1)) ∧ TbAt .i32 21 47 xs ys T w.heap.size w' ∧ Below w.heap.size w w' := by
  obtain ⟨ga, ca0, rfl, _, hgl, hca⟩ := hx.at hx0
  obtain ⟨gb, cb0, rfl, _, hhl, hcb⟩ := hy.at hy0
  have HA := hid_of' (And.intro hca hcb)
  clear hx hy hca hcb hx0 hy0
  obtain ⟨n, hn⟩ : ∃ n, n = xs.length := ⟨_, rfl⟩
  obtain ⟨m, hm⟩ : ∃ m, m = ys.length := ⟨_, rfl⟩
  rw [← hn] at hl ⊢
  rw [← hm] at hl ⊢
  obtain ⟨N, hN⟩ : ∃ N : Nat, N = n + 1 := ⟨_, rfl⟩
  obtain ⟨M, hM⟩ : ∃ M : Nat, M = m + 1 := ⟨_, rfl⟩
  have HN := hid_of' (And.intro hn (And.intro hm (And.intro hN hM)))
  have hmk := fun w => make_rows w N (by omega)
  have hmm := fun w => make_row w M (by omega)
  rw [show (N : Int) = (n : Int) + 1 by omega] at hmk
  rw [show (M : Int) = (m : Int) + 1 by omega] at hmm
  have hT0 := RowAt.new w (madeCells #[.slice none 0 0] N) 47
  have hs0 : (madeCells #[Value.slice none 0 0] N).size = N := size_madeCells _ _
  have hb0 := below_one w (.cells (madeCells #[.slice none 0 0] N) 47)
  have hz0 : (madeCells #[Value.int .i32 0] M).size = M := size_madeCells _ _
  clear hn hm hN hM
  go_enter Tryd.func47, Tryd.ntmps47
  go_upto_region 2 with fail
  generalize madeCells #[Value.slice none 0 0] N = cur0 at hT0 hs0 hb0 hmk ⊢
  generalize madeCells #[Value.int .i32 0] M = row0 at hmm hz0
  obtain ⟨T, hTT⟩ : ∃ T, T = w.heap.size := ⟨_, rfl⟩
  rw [← hTT] at hT0 ⊢
  generalize w.alloc (.cells cur0 47) = W0 at hT0 hb0 ⊢
  clear hmk
  have H0 := hid_of' (And.intro hT0 (And.intro hs0 (And.intro hb0 hTT)))
  clear hT0 hs0 hb0 hTT
  go_wp2
  go_loopw [6] (fun iv wr => ∃ (i1 : Nat) (z : Int) (cur : Array Value), iv = .int .i64 z ∧ z = (i1 : Int) - 1 ∧ i1 ≤ N ∧ RowAt T cur 47 wr ∧ cur.size = N ∧ Rws .i32 21 xs ys cur T i1 w.heap.size wr.heap.size wr ∧ Ch (fun _ => False) w wr) (fun iv _ => (intOf iv + 1).toNat)
  case atStart => exact ⟨N, (n : Int), cur0, rfl, by have := HN.out.2.2.1; omega, Nat.le_refl _, H0.out.1, H0.out.2.1, fun k h1 h2 => absurd h2 (by have := HN.out; omega), Ch.of H0.out.2.2.1⟩
  case round =>
    obtain ⟨i1, z, cur, rfl, hz, hi1, hT, hcs, hrows, hC⟩ := hrel
    by_cases h1 : i1 = 0
    · subst h1
      obtain rfl : z = -1 := by omega
      have HE := hid_of' (And.intro hT (And.intro hrows hC))
      clear hT hrows hC hcs hz
      go_wp2
      go_ret
      have hn := HN.out
      refine ⟨T, by rw [hn.2.2.1]; rfl, ⟨cur, _, HE.out.1, by have := H0.out.2.2.2; omega, HE.out.2.1⟩, HE.out.2.2.none (fun _ _ q => q)⟩
    · obtain ⟨ix, rfl⟩ : ∃ ix, i1 = ix + 1 := ⟨i1 - 1, by omega⟩
      obtain rfl : z = (ix : Int) := by omega
      clear hz
      have hz0' : (0 : Int) ≤ (ix : Int) := by omega
      have hiN : (ix : Int) < (N : Int) := by omega
      have hTlt := hT.lt
      have cT0 : ∃ v0, wr.cell? ⟨T, ix, none⟩ = some v0 := ⟨_, hT.is (Array.getElem?_eq_getElem (by omega))⟩
      obtain ⟨v0, cT0⟩ := cT0
      have fT0 : wr.frozen? ⟨T, ix, none⟩ = false := hT.free ix
      have hsz : (wr.setCell ⟨T, ix, none⟩ (.slice (some ⟨wr.heap.size, 0, none⟩) M M)).heap.size = wr.heap.size := by simp [World.setCell]
      have hTs := (hT.setc ix (.slice (some ⟨wr.heap.size, 0, none⟩) M M)).later (below_one _ (.cells row0 21))
      have hRn := RowAt.new (wr.setCell ⟨T, ix, none⟩ (.slice (some ⟨wr.heap.size, 0, none⟩) M M)) row0 21
      rw [hsz] at hRn
      have hRs := (hrows.set ⟨T, ix, none⟩ (.slice (some ⟨wr.heap.size, 0, none⟩) M M) (.inr rfl)).later (below_one _ (.cells row0 21))
      have hCs := (hC.set (p := ⟨T, ix, none⟩) (.inr (by have := H0.out.2.2.2; show w.heap.size ≤ T; omega)) (.slice (some ⟨wr.heap.size, 0, none⟩) M M)).later (below_one _ (.cells row0 21))
      have hbsz : ((wr.setCell ⟨T, ix, none⟩ (.slice (some ⟨wr.heap.size, 0, none⟩) M M)).alloc (.cells row0 21)).heap.size = wr.heap.size + 1 := by rw [World.size_alloc, hsz]
      have hcurb : (cur.setIfInBounds ix (.slice (some ⟨wr.heap.size, 0, none⟩) M M))[ix]? = some (.slice (some ⟨wr.heap.size, 0, none⟩) M M) := Array.getElem?_setIfInBounds_self_of_lt (by omega)
      have hrows' : Rws .i32 21 xs ys (cur.setIfInBounds ix (.slice (some ⟨wr.heap.size, 0, none⟩) M M)) T (ix + 1) w.heap.size wr.heap.size ((wr.setCell ⟨T, ix, none⟩ (.slice (some ⟨wr.heap.size, 0, none⟩) M M)).alloc (.cells row0 21)) := fun k h1 h2 => by
        obtain ⟨b, row, q1, q⟩ := hRs k h1 h2
        exact ⟨b, row, by rw [Array.getElem?_setIfInBounds_ne (by omega)]; exact q1, q⟩
      have hcz : (cur.setIfInBounds ix (.slice (some ⟨wr.heap.size, 0, none⟩) M M)).size = N := by rw [Array.size_setIfInBounds]; exact hcs
      have HQ := hid_of' (And.intro (And.intro hTs hRn) (And.intro (And.intro hrows' hCs) (And.intro hcurb (And.intro hcz hbsz))))
      clear hT hrows hRs hC hsz hTs hRn hrows' hCs hcurb hcz hbsz
      go_upto_region 6 with fail
      obtain ⟨⟨hTs, hRn⟩, ⟨hrows', hCs⟩, hcurb, hcz, hbsz⟩ := HQ.out
      clear HQ
      generalize hb9 : wr.heap.size = b at hTs hRn hCs hbsz hcurb hrows' hcz hTlt ⊢
      generalize cur.setIfInBounds ix (.slice (some ⟨b, 0, none⟩) M M) = cur1 at hTs hcurb hrows' hcz ⊢
      have hwb : w.heap.size ≤ b := by
        have := hCs.size
        have h7 := H0.out.2.2.2
        omega
      generalize (wr.setCell ⟨T, ix, none⟩ (.slice (some ⟨b, 0, none⟩) M M)).alloc (.cells row0 21) = W1 at hTs hRn hCs hbsz hrows' ⊢
      have HB := hid_of' (And.intro (Nat.le_refl b) (And.intro (show ¬ b = T by omega) hwb))
      have H1 := hid_of' (And.intro hTs (And.intro hRn (And.intro hrows' hCs)))
      have HC1 := hid_of' (And.intro hcurb (And.intro hcz hbsz))
      have HI1 := hid_of' hi1
      clear hTs hRn hrows' hCs hcurb hcz hbsz cT0 fT0 hcs hb9 hwb
      go_wp2
      go_loopw [7] (fun jv wq => ∃ (j1 : Nat) (z : Int) (row : Array Value), jv = .int .i64 z ∧ z = (j1 : Int) - 1 ∧ j1 ≤ M ∧ RowAt b row 21 wq ∧ row.size = M ∧ (∀ j, j1 ≤ j → j ≤ ys.length → row[j]? = some (.int .i32 (ds (xs.drop ix) (ys.drop j)))) ∧ RowAt T cur1 47 wq ∧ Rws .i32 21 xs ys cur1 T (ix + 1) w.heap.size b wq ∧ Ch (fun _ => False) w wq ∧ b < wq.heap.size) (fun jv _ => (intOf jv + 1).toNat)
      case atStart => exact ⟨M, (m : Int), row0, rfl, by have := HN.out.2.2.2; omega, Nat.le_refl _, H1.out.2.1, hz0, fun j h1 h2 => absurd h2 (by have := HN.out; omega), H1.out.1, H1.out.2.2.1, H1.out.2.2.2, by have := HC1.out.2.2; omega⟩
      case round =>
        obtain ⟨j1, z, row, rfl, hz, hj1, hbq, hbz, hfill, hTq, hrq, hCq, hbl⟩ := hrel
        have hixn : ix ≤ n := by have := HN.out; have := HI1.out; omega
        by_cases h1 : j1 = 0
        · subst h1
          obtain rfl : z = -1 := by omega
          have HE := hid_of' (And.intro hbq (And.intro hfill (And.intro hTq (And.intro hrq (And.intro hCq hbl)))))
          clear hbq hfill hTq hrq hCq hbl hz hbz
          go_wp2
          go_roundw
          case rel =>
            obtain ⟨e1, e2, e3, e4, e5, e6⟩ := HE.out
            refine ⟨ix, (ix : Int) - 1, cur1, by go_num, rfl, by omega, e3, HC1.out.2.1, fun k k1 k2 => ?_, e5⟩
            by_cases hk : k = ix
            · subst hk
              refine ⟨b, row, ?_, e1, HB.out.2.2, e6, HB.out.2.1, fun j hj => e2 j (Nat.zero_le _) hj⟩
              rw [← HN.out.2.1, ← HN.out.2.2.2]
              exact HC1.out.1
            · obtain ⟨b', row', q1, q2, q3, q4, q⟩ := e4 k (by omega) k2
              exact ⟨b', row', q1, q2, q3, by omega, q⟩
          case measure => first | (simp [intOf]; done) | (simp [intOf]; omega)
        obtain ⟨jx, rfl⟩ : ∃ jx, j1 = jx + 1 := ⟨j1 - 1, by omega⟩
        obtain rfl : z = (jx : Int) := by omega
        clear hz
        have hz0j : (0 : Int) ≤ (jx : Int) := by omega
        have hjM : (jx : Int) < (M : Int) := by omega
        have hjxm : jx ≤ m := by have := HN.out; omega
        have HF := hid_of' (And.intro hbz hfill)
        obtain ⟨v1, hv1⟩ : ∃ v1, wr.cell? ⟨b, jx, none⟩ = some v1 := ⟨_, hbq.is (Array.getElem?_eq_getElem (by omega))⟩
        by_cases hin : ix = n
        · have HR := hid_of' (And.intro hbq (And.intro hTq (And.intro hrq (And.intro hCq hbl))))
          have hine : ((ix : Int) == (n : Int)) = true := by simp [hin]
          have HI := hid_of' hin
          clear hin
          have cTi : wr.cell? ⟨T, ix, none⟩ = some (.slice (some ⟨b, 0, none⟩) M M) := hTq.is HC1.out.1
          have cbj : wr.cell? ⟨b, jx, none⟩ = some v1 := hv1
          have fbj : wr.frozen? ⟨b, jx, none⟩ = false := hbq.free jx
          clear hbq hTq hrq hCq hbz hfill hv1
          go_wp2
          go_roundw
          case rel =>
            refine ⟨jx, (jx : Int) - 1, _, by go_num, rfl, by omega, HR.out.1.setc jx _, ?_, ?_, HR.out.2.1.setO _ _ (fun e => HB.out.2.1 e.symm), HR.out.2.2.1.set _ _ (.inl HB.out.1), HR.out.2.2.2.1.set (p := ⟨b, jx, none⟩) (.inr HB.out.2.2) _, ?_⟩
            · rw [Array.size_setIfInBounds]
              exact HF.out.1
            · intro j hj1 hj2'
              by_cases hjj : j = jx
              · subst hjj
                rw [Array.getElem?_setIfInBounds_self_of_lt (by rw [HF.out.1]; omega)]
                have hn := HN.out
                have hi := HI.out
                rw [ds_end (by omega) hj2' (.inl (by omega))]
                congr 2
                omega
              · rw [Array.getElem?_setIfInBounds_ne (fun e => hjj e.symm)]
                exact HF.out.2 j (by omega) hj2'
            · have := HR.out.2.2.2.2
              simpa [World.setCell] using this
          case measure => first | (simp [intOf]; done) | (simp [intOf]; omega)
        by_cases hjm : jx = m
        · have HR := hid_of' (And.intro hbq (And.intro hTq (And.intro hrq (And.intro hCq hbl))))
          have hine : ((ix : Int) == (n : Int)) = false := by simp; omega
          have hjme : ((jx : Int) == (m : Int)) = true := by simp [hjm]
          have HI := hid_of' hjm
          clear hin hjm
          have cTi : wr.cell? ⟨T, ix, none⟩ = some (.slice (some ⟨b, 0, none⟩) M M) := hTq.is HC1.out.1
          have cbj : wr.cell? ⟨b, jx, none⟩ = some v1 := hv1
          have fbj : wr.frozen? ⟨b, jx, none⟩ = false := hbq.free jx
          clear hbq hTq hrq hCq hbz hfill hv1
          go_wp2
          go_roundw
          case rel =>
            refine ⟨jx, (jx : Int) - 1, _, by go_num, rfl, by omega, HR.out.1.setc jx _, ?_, ?_, HR.out.2.1.setO _ _ (fun e => HB.out.2.1 e.symm), HR.out.2.2.1.set _ _ (.inl HB.out.1), HR.out.2.2.2.1.set (p := ⟨b, jx, none⟩) (.inr HB.out.2.2) _, ?_⟩
            · rw [Array.size_setIfInBounds]
              exact HF.out.1
            · intro j hj1 hj2'
              by_cases hjj : j = jx
              · subst hjj
                rw [Array.getElem?_setIfInBounds_self_of_lt (by rw [HF.out.1]; omega)]
                have hn := HN.out
                have hi := HI.out
                rw [ds_end (by omega) hj2' (.inr (by omega))]
                congr 2
                omega
              · rw [Array.getElem?_setIfInBounds_ne (fun e => hjj e.symm)]
                exact HF.out.2 j (by omega) hj2'
            · have := HR.out.2.2.2.2
              simpa [World.setCell] using this
          case measure => first | (simp [intOf]; done) | (simp [intOf]; omega)
        have hin2 : (ix : Int) < (n : Int) := by omega
        have hjm2 : (jx : Int) < (m : Int) := by omega
        have hine : ((ix : Int) == (n : Int)) = false := by simp; omega
        have hjme : ((jx : Int) == (m : Int)) = false := by simp; omega
        obtain ⟨a, ha⟩ : ∃ a, xs[ix]? = some a := ⟨_, List.getElem?_eq_getElem (by have := HN.out.1; omega)⟩
        obtain ⟨bb, hbb⟩ : ∃ bb, ys[jx]? = some bb := ⟨_, List.getElem?_eq_getElem (by have := HN.out.2.1; omega)⟩
        have hbw : Below w.heap.size w wr := hCq.none (fun _ _ q => q)
        have hgq : ga < wr.heap.size := Nat.lt_of_lt_of_le hgl hbw.size
        have hhq : gb < wr.heap.size := Nat.lt_of_lt_of_le hhl hbw.size
        have ca : wr.cell? ⟨ga, ix, none⟩ = some (.int .i32 a) := by rw [hbw.cell hgl]; exact HA.out.1 ix a ha
        have cb : wr.cell? ⟨gb, jx, none⟩ = some (.int .i32 bb) := by rw [hbw.cell hhl]; exact HA.out.2 jx bb hbb
        have HR0 := hid_of' (And.intro hbq (And.intro hTq (And.intro hrq (And.intro hCq hbl))))
        have HAB := hid_of' (And.intro ha hbb)
        have HNE := hid_of' (And.intro hin hjm)
        clear hbq hTq hrq hCq hbl hbz hfill hin hjm ha hbb hbw hv1
        go_upto_region 12 with fail
        refine wp_region_tail 9 (by kernel_rfl) (fun _ => none) (by kernel_rfl) (by kernel_rfl) (by decide) (fun i v x => match i with
          | 0 => v = .slice (some ⟨ga, 0, none⟩) n ca0
          | 1 => v = .int .i64 (ix : Int)
          | 2 => v = .pointer (some ⟨ga, ix, none⟩)
          | 3 => v = .int .i32 a
          | 4 => v = .slice (some ⟨gb, 0, none⟩) m cb0
          | 5 => v = .int .i64 (jx : Int)
          | 6 => v = .pointer (some ⟨gb, jx, none⟩)
          | 7 => v = .int .i32 bb
          | 8 => v = .bool (a == bb)
          | _ => True) (fun _ => false) (fun _ _ _ _ h => by cases h) ?_ ?_ ?_
        · intro i v x x' hR hb
          match i, hR with
          | 0, h => exact h
          | 1, h => exact h
          | 2, h => exact h
          | 3, h => exact h
          | 4, h => exact h
          | 5, h => exact h
          | 6, h => exact h
          | 7, h => exact h
          | 8, h => exact h
          | m + 9, h => exact h
        · intro i o hi ho q x vals hX hdep hoth
          have t0 : q.tmps[0]? = some (.slice (some ⟨ga, 0, none⟩) n ca0) := by rw [hoth 0 (by kernel_rfl)]; rfl
          have t6 : q.tmps[6]? = some (.int .i64 (ix : Int)) := by rw [hoth 6 (by kernel_rfl)]; rfl
          have t1 : q.tmps[1]? = some (.slice (some ⟨gb, 0, none⟩) m cb0) := by rw [hoth 1 (by kernel_rfl)]; rfl
          have t7 : q.tmps[7]? = some (.int .i64 (jx : Int)) := by rw [hoth 7 (by kernel_rfl)]; rfl
          match i, hi, ho with
          | 0, _, ho =>
            simp only [List.getElem?_cons_zero, Option.some.injEq] at ho
            subst ho
            unfold Oper.wp
            simp [execOp, go_sem, t0]
            exact came _ rfl (Below.refl _ _) rfl (fun h => absurd h (by decide))
          | 1, _, ho =>
            simp only [List.getElem?_cons_succ, List.getElem?_cons_zero, Option.some.injEq] at ho
            subst ho
            unfold Oper.wp
            simp [execOp, go_sem, t6]
            exact came _ rfl (Below.refl _ _) rfl (fun h => absurd h (by decide))
          | 2, _, ho =>
            simp only [List.getElem?_cons_succ, List.getElem?_cons_zero, Option.some.injEq] at ho
            subst ho
            obtain ⟨u0, e0⟩ := hdep ⟨0, .data⟩ (by simp) rfl _ 83 rfl rfl
            rw [show vals 0 = .slice (some ⟨ga, 0, none⟩) n ca0 from e0] at u0
            obtain ⟨u1, e1⟩ := hdep ⟨1, .data⟩ (by simp) rfl _ 84 rfl rfl
            rw [show vals 1 = .int .i64 (ix : Int) from e1] at u1
            unfold Oper.wp
            simp [execOp, go_sem, u0, u1, hin2]
            exact came _ rfl (Below.refl _ _) rfl (fun h => absurd h (by decide))
          | 3, _, ho =>
            simp only [List.getElem?_cons_succ, List.getElem?_cons_zero, Option.some.injEq] at ho
            subst ho
            obtain ⟨u2, e2⟩ := hdep ⟨2, .data⟩ (by simp) rfl _ 85 rfl rfl
            rw [show vals 2 = .pointer (some ⟨ga, ix, none⟩) from e2] at u2
            have cc : x.cell? ⟨ga, ix, none⟩ = some (.int .i32 a) := by rw [hX.cell hgq]; exact ca
            unfold Oper.wp
            simp [execOp, go_sem, u2, cc]
            exact came _ rfl (Below.refl _ _) rfl (fun h => absurd h (by decide))
          | 4, _, ho =>
            simp only [List.getElem?_cons_succ, List.getElem?_cons_zero, Option.some.injEq] at ho
            subst ho
            unfold Oper.wp
            simp [execOp, go_sem, t1]
            exact came _ rfl (Below.refl _ _) rfl (fun h => absurd h (by decide))
          | 5, _, ho =>
            simp only [List.getElem?_cons_succ, List.getElem?_cons_zero, Option.some.injEq] at ho
            subst ho
            unfold Oper.wp
            simp [execOp, go_sem, t7]
            exact came _ rfl (Below.refl _ _) rfl (fun h => absurd h (by decide))
          | 6, _, ho =>
            simp only [List.getElem?_cons_succ, List.getElem?_cons_zero, Option.some.injEq] at ho
            subst ho
            obtain ⟨u4, e4⟩ := hdep ⟨4, .data⟩ (by simp) rfl _ 87 rfl rfl
            rw [show vals 4 = .slice (some ⟨gb, 0, none⟩) m cb0 from e4] at u4
            obtain ⟨u5, e5⟩ := hdep ⟨5, .data⟩ (by simp) rfl _ 88 rfl rfl
            rw [show vals 5 = .int .i64 (jx : Int) from e5] at u5
            unfold Oper.wp
            simp [execOp, go_sem, u4, u5, hjm2]
            exact came _ rfl (Below.refl _ _) rfl (fun h => absurd h (by decide))
          | 7, _, ho =>
            simp only [List.getElem?_cons_succ, List.getElem?_cons_zero, Option.some.injEq] at ho
            subst ho
            obtain ⟨u6, e6⟩ := hdep ⟨6, .data⟩ (by simp) rfl _ 89 rfl rfl
            rw [show vals 6 = .pointer (some ⟨gb, jx, none⟩) from e6] at u6
            have cc : x.cell? ⟨gb, jx, none⟩ = some (.int .i32 bb) := by rw [hX.cell hhq]; exact cb
            unfold Oper.wp
            simp [execOp, go_sem, u6, cc]
            exact came _ rfl (Below.refl _ _) rfl (fun h => absurd h (by decide))
          | 8, _, ho =>
            simp only [List.getElem?_cons_succ, List.getElem?_cons_zero, Option.some.injEq] at ho
            subst ho
            obtain ⟨u3, e3⟩ := hdep ⟨3, .data⟩ (by simp) rfl _ 86 rfl rfl
            rw [show vals 3 = .int .i32 a from e3] at u3
            obtain ⟨u7, e7⟩ := hdep ⟨7, .data⟩ (by simp) rfl _ 90 rfl rfl
            rw [show vals 7 = .int .i32 bb from e7] at u7
            unfold Oper.wp
            simp [execOp, go_sem, u3, u7]
            exact came _ rfl (Below.refl _ _) rfl (fun h => absurd h (by decide))
          | m + 9, hi, _ => exact absurd hi (by omega)
        · intro vals W2 hX hR _
          have f0 : vals 0 = .slice (some ⟨ga, 0, none⟩) n ca0 := hR 0 (by decide)
          have f1 : vals 1 = .int .i64 (ix : Int) := hR 1 (by decide)
          have f2 : vals 2 = .pointer (some ⟨ga, ix, none⟩) := hR 2 (by decide)
          have f3 : vals 3 = .int .i32 a := hR 3 (by decide)
          have f4 : vals 4 = .slice (some ⟨gb, 0, none⟩) m cb0 := hR 4 (by decide)
          have f5 : vals 5 = .int .i64 (jx : Int) := hR 5 (by decide)
          have f6 : vals 6 = .pointer (some ⟨gb, jx, none⟩) := hR 6 (by decide)
          have f7 : vals 7 = .int .i32 bb := hR 7 (by decide)
          have f8 : vals 8 = .bool (a == bb) := hR 8 (by decide)
          simp only [List.drop, List.take, putAll, List.setIfInBounds_toArray, List.set_cons_succ, List.set_cons_zero, f0, f1, f2, f3, f4, f5, f6, f7, f8]
          clear f0 f1 f2 f3 f4 f5 f6 f7 f8 hR
          have HR := hid_of' (And.intro (HR0.out.1.later hX) (And.intro (HR0.out.2.1.later hX) (And.intro (HR0.out.2.2.1.later hX) (And.intro (HR0.out.2.2.2.1.later hX) (Nat.lt_of_lt_of_le HR0.out.2.2.2.2 hX.size)))))
          clear HR0 hX ca cb hgq hhq
          have hTl := HR.out.2.1.lt
          have hbl := HR.out.1.lt
          have cTi : W2.cell? ⟨T, ix, none⟩ = some (.slice (some ⟨b, 0, none⟩) M M) := HR.out.2.1.is HC1.out.1
          obtain ⟨b2, row2, q1, q2, q3, q4, q5, q6⟩ := HR.out.2.2.1 (ix + 1) (Nat.le_refl _) (by have := HN.out.1; have := HNE.out.1; omega)
          rw [← HN.out.2.1, ← HN.out.2.2.2] at q1
          obtain ⟨i2, hi2e⟩ : ∃ i2, i2 = ix + 1 := ⟨_, rfl⟩
          obtain ⟨j2, hj2e⟩ : ∃ j2, j2 = jx + 1 := ⟨_, rfl⟩
          have hb2l := q2.lt
          have cTj : W2.cell? ⟨T, i2, none⟩ = some (.slice (some ⟨b2, 0, none⟩) M M) := by rw [hi2e]; exact HR.out.2.1.is q1
          have hi2 : (i2 : Int) < (N : Int) := by have := HN.out; have := HNE.out; omega
          have hj2 : (j2 : Int) < (M : Int) := by have := HN.out; have := HNE.out; omega
          have ew1 : IntKind.i64.wrap ((ix : Int) + 1) = (i2 : Int) := wrapK hi2e (by omega)
          by_cases hab : a = bb
          · have habb : (a == bb) = true := by simp [hab]
            rw [habb]
            obtain ⟨d11, hd11⟩ : ∃ d : Nat, d = ds (xs.drop (ix + 1)) (ys.drop (jx + 1)) := ⟨_, rfl⟩
            have c11 : W2.cell? ⟨b2, j2, none⟩ = some (.int .i32 (d11 : Int)) := by rw [hj2e, hd11]; exact q2.is (q6 (jx + 1) (by have := HN.out; have := HNE.out; omega))
            obtain ⟨v1, hv1⟩ : ∃ v1, W2.cell? ⟨b, jx, none⟩ = some v1 := ⟨_, HR.out.1.is (Array.getElem?_eq_getElem (by have := HF.out.1; omega))⟩
            have fbj : W2.frozen? ⟨b, jx, none⟩ = false := HR.out.1.free jx
            have HD := hid_of' (And.intro hd11 hab)
            have HJ := hid_of' (And.intro hi2e hj2e)
            have HEW := hid_of' (wrapK hj2e (by omega))
            clear hd11 hab q1 q2 q3 q4 q5 q6 hi2e hj2e habb
            have ew2 : IntKind.i64.wrap ((jx : Int) + 1) = (j2 : Int) := HEW.out
            go_upto_region 13 with fail
            refine wp_region_tail 14 (by kernel_rfl) (fun _ => none) (by kernel_rfl) (by kernel_rfl) (by decide) (fun i v x => match i with
              | 0 => v = .slice (some ⟨T, 0, none⟩) N N
              | 1 => v = .int .i64 (ix : Int)
              | 2 => v = .pointer (some ⟨T, ix, none⟩)
              | 3 => v = .slice (some ⟨b, 0, none⟩) M M
              | 4 => v = .int .i64 (jx : Int)
              | 5 => v = .slice (some ⟨T, 0, none⟩) N N
              | 6 => v = .int .i64 (ix : Int)
              | 7 => v = .int .i64 (i2 : Int)
              | 8 => v = .pointer (some ⟨T, i2, none⟩)
              | 9 => v = .slice (some ⟨b2, 0, none⟩) M M
              | 10 => v = .int .i64 (jx : Int)
              | 11 => v = .int .i64 (j2 : Int)
              | 12 => v = .pointer (some ⟨b2, j2, none⟩)
              | 13 => v = .int .i32 (d11 : Int)
              | _ => True) (fun _ => false) (fun _ _ _ _ h => by cases h) ?_ ?_ ?_
            · intro i v x x' hR hb
              match i, hR with
              | 0, h => exact h
              | 1, h => exact h
              | 2, h => exact h
              | 3, h => exact h
              | 4, h => exact h
              | 5, h => exact h
              | 6, h => exact h
              | 7, h => exact h
              | 8, h => exact h
              | 9, h => exact h
              | 10, h => exact h
              | 11, h => exact h
              | 12, h => exact h
              | 13, h => exact h
              | m + 14, h => exact h
            · intro i o hi ho q x vals hX hdep hoth
              have t5 : q.tmps[5]? = some (.slice (some ⟨T, 0, none⟩) N N) := by rw [hoth 5 (by kernel_rfl)]; rfl
              have t6 : q.tmps[6]? = some (.int .i64 (ix : Int)) := by rw [hoth 6 (by kernel_rfl)]; rfl
              have t7 : q.tmps[7]? = some (.int .i64 (jx : Int)) := by rw [hoth 7 (by kernel_rfl)]; rfl
              match i, hi, ho with
              | 0, _, ho =>
                simp only [List.getElem?_cons_zero, Option.some.injEq] at ho
                subst ho
                unfold Oper.wp
                simp [execOp, go_sem, t5]
                exact came _ rfl (Below.refl _ _) rfl (fun h => absurd h (by decide))
              | 1, _, ho =>
                simp only [List.getElem?_cons_succ, List.getElem?_cons_zero, Option.some.injEq] at ho
                subst ho
                unfold Oper.wp
                simp [execOp, go_sem, t6]
                exact came _ rfl (Below.refl _ _) rfl (fun h => absurd h (by decide))
              | 2, _, ho =>
                simp only [List.getElem?_cons_succ, List.getElem?_cons_zero, Option.some.injEq] at ho
                subst ho
                obtain ⟨u0, e0⟩ := hdep ⟨0, .data⟩ (by simp) rfl _ 92 rfl rfl
                rw [show vals 0 = .slice (some ⟨T, 0, none⟩) N N from e0] at u0
                obtain ⟨u1, e1⟩ := hdep ⟨1, .data⟩ (by simp) rfl _ 93 rfl rfl
                rw [show vals 1 = .int .i64 (ix : Int) from e1] at u1
                unfold Oper.wp
                simp [execOp, go_sem, u0, u1, hiN]
                exact came _ rfl (Below.refl _ _) rfl (fun h => absurd h (by decide))
              | 3, _, ho =>
                simp only [List.getElem?_cons_succ, List.getElem?_cons_zero, Option.some.injEq] at ho
                subst ho
                obtain ⟨u2, e2⟩ := hdep ⟨2, .data⟩ (by simp) rfl _ 94 rfl rfl
                rw [show vals 2 = .pointer (some ⟨T, ix, none⟩) from e2] at u2
                have cT : x.cell? ⟨T, ix, none⟩ = some (.slice (some ⟨b, 0, none⟩) M M) := by rw [hX.cell hTl]; exact cTi
                unfold Oper.wp
                simp [execOp, go_sem, u2, cT]
                exact came _ rfl (Below.refl _ _) rfl (fun h => absurd h (by decide))
              | 4, _, ho =>
                simp only [List.getElem?_cons_succ, List.getElem?_cons_zero, Option.some.injEq] at ho
                subst ho
                unfold Oper.wp
                simp [execOp, go_sem, t7]
                exact came _ rfl (Below.refl _ _) rfl (fun h => absurd h (by decide))
              | 5, _, ho =>
                simp only [List.getElem?_cons_succ, List.getElem?_cons_zero, Option.some.injEq] at ho
                subst ho
                unfold Oper.wp
                simp [execOp, go_sem, t5]
                exact came _ rfl (Below.refl _ _) rfl (fun h => absurd h (by decide))
              | 6, _, ho =>
                simp only [List.getElem?_cons_succ, List.getElem?_cons_zero, Option.some.injEq] at ho
                subst ho
                unfold Oper.wp
                simp [execOp, go_sem, t6]
                exact came _ rfl (Below.refl _ _) rfl (fun h => absurd h (by decide))
              | 7, _, ho =>
                simp only [List.getElem?_cons_succ, List.getElem?_cons_zero, Option.some.injEq] at ho
                subst ho
                obtain ⟨u6, e6⟩ := hdep ⟨6, .data⟩ (by simp) rfl _ 98 rfl rfl
                rw [show vals 6 = .int .i64 (ix : Int) from e6] at u6
                unfold Oper.wp
                simp [execOp, go_sem, u6, ew1]
                exact came _ rfl (Below.refl _ _) rfl (fun h => absurd h (by decide))
              | 8, _, ho =>
                simp only [List.getElem?_cons_succ, List.getElem?_cons_zero, Option.some.injEq] at ho
                subst ho
                obtain ⟨u5, e5⟩ := hdep ⟨5, .data⟩ (by simp) rfl _ 97 rfl rfl
                rw [show vals 5 = .slice (some ⟨T, 0, none⟩) N N from e5] at u5
                obtain ⟨u7, e7⟩ := hdep ⟨7, .data⟩ (by simp) rfl _ 99 rfl rfl
                rw [show vals 7 = .int .i64 (i2 : Int) from e7] at u7
                unfold Oper.wp
                simp [execOp, go_sem, u5, u7, hi2]
                exact came _ rfl (Below.refl _ _) rfl (fun h => absurd h (by decide))
              | 9, _, ho =>
                simp only [List.getElem?_cons_succ, List.getElem?_cons_zero, Option.some.injEq] at ho
                subst ho
                obtain ⟨u8, e8⟩ := hdep ⟨8, .data⟩ (by simp) rfl _ 100 rfl rfl
                rw [show vals 8 = .pointer (some ⟨T, i2, none⟩) from e8] at u8
                have cU : x.cell? ⟨T, i2, none⟩ = some (.slice (some ⟨b2, 0, none⟩) M M) := by rw [hX.cell hTl]; exact cTj
                unfold Oper.wp
                simp [execOp, go_sem, u8, cU]
                exact came _ rfl (Below.refl _ _) rfl (fun h => absurd h (by decide))
              | 10, _, ho =>
                simp only [List.getElem?_cons_succ, List.getElem?_cons_zero, Option.some.injEq] at ho
                subst ho
                unfold Oper.wp
                simp [execOp, go_sem, t7]
                exact came _ rfl (Below.refl _ _) rfl (fun h => absurd h (by decide))
              | 11, _, ho =>
                simp only [List.getElem?_cons_succ, List.getElem?_cons_zero, Option.some.injEq] at ho
                subst ho
                obtain ⟨u10, e10⟩ := hdep ⟨10, .data⟩ (by simp) rfl _ 102 rfl rfl
                rw [show vals 10 = .int .i64 (jx : Int) from e10] at u10
                unfold Oper.wp
                simp [execOp, go_sem, u10, ew2]
                exact came _ rfl (Below.refl _ _) rfl (fun h => absurd h (by decide))
              | 12, _, ho =>
                simp only [List.getElem?_cons_succ, List.getElem?_cons_zero, Option.some.injEq] at ho
                subst ho
                obtain ⟨u9, e9⟩ := hdep ⟨9, .data⟩ (by simp) rfl _ 101 rfl rfl
                rw [show vals 9 = .slice (some ⟨b2, 0, none⟩) M M from e9] at u9
                obtain ⟨u11, e11⟩ := hdep ⟨11, .data⟩ (by simp) rfl _ 103 rfl rfl
                rw [show vals 11 = .int .i64 (j2 : Int) from e11] at u11
                unfold Oper.wp
                simp [execOp, go_sem, u9, u11, hj2]
                exact came _ rfl (Below.refl _ _) rfl (fun h => absurd h (by decide))
              | 13, _, ho =>
                simp only [List.getElem?_cons_succ, List.getElem?_cons_zero, Option.some.injEq] at ho
                subst ho
                obtain ⟨u12, e12⟩ := hdep ⟨12, .data⟩ (by simp) rfl _ 104 rfl rfl
                rw [show vals 12 = .pointer (some ⟨b2, j2, none⟩) from e12] at u12
                have cc : x.cell? ⟨b2, j2, none⟩ = some (.int .i32 (d11 : Int)) := by rw [hX.cell hb2l]; exact c11
                unfold Oper.wp
                simp [execOp, go_sem, u12, cc]
                exact came _ rfl (Below.refl _ _) rfl (fun h => absurd h (by decide))
              | m + 14, hi, _ => exact absurd hi (by omega)
            · intro vals W3 hX hR _
              have f0 : vals 0 = .slice (some ⟨T, 0, none⟩) N N := hR 0 (by decide)
              have f1 : vals 1 = .int .i64 (ix : Int) := hR 1 (by decide)
              have f2 : vals 2 = .pointer (some ⟨T, ix, none⟩) := hR 2 (by decide)
              have f3 : vals 3 = .slice (some ⟨b, 0, none⟩) M M := hR 3 (by decide)
              have f4 : vals 4 = .int .i64 (jx : Int) := hR 4 (by decide)
              have f5 : vals 5 = .slice (some ⟨T, 0, none⟩) N N := hR 5 (by decide)
              have f6 : vals 6 = .int .i64 (ix : Int) := hR 6 (by decide)
              have f7 : vals 7 = .int .i64 (i2 : Int) := hR 7 (by decide)
              have f8 : vals 8 = .pointer (some ⟨T, i2, none⟩) := hR 8 (by decide)
              have f9 : vals 9 = .slice (some ⟨b2, 0, none⟩) M M := hR 9 (by decide)
              have f10 : vals 10 = .int .i64 (jx : Int) := hR 10 (by decide)
              have f11 : vals 11 = .int .i64 (j2 : Int) := hR 11 (by decide)
              have f12 : vals 12 = .pointer (some ⟨b2, j2, none⟩) := hR 12 (by decide)
              have f13 : vals 13 = .int .i32 (d11 : Int) := hR 13 (by decide)
              simp only [List.drop, List.take, putAll, List.setIfInBounds_toArray, List.set_cons_succ, List.set_cons_zero, f0, f1, f2, f3, f4, f5, f6, f7, f8, f9, f10, f11, f12, f13]
              clear f0 f1 f2 f3 f4 f5 f6 f7 f8 f9 f10 f11 f12 f13 hR
              replace HR := hid_of' (And.intro (HR.out.1.later hX) (And.intro (HR.out.2.1.later hX) (And.intro (HR.out.2.2.1.later hX) (And.intro (HR.out.2.2.2.1.later hX) (Nat.lt_of_lt_of_le HR.out.2.2.2.2 hX.size)))))
              have cbj : W3.cell? ⟨b, jx, none⟩ = some v1 := by rw [hX.cell hbl]; exact hv1
              have fbj3 : W3.frozen? ⟨b, jx, none⟩ = false := HR.out.1.free jx
              clear hX hv1 fbj cTi cTj hb2l hTl hbl ew1 ew2 c11
              go_wp2
              go_roundw
              case rel =>
                refine ⟨jx, (jx : Int) - 1, _, by go_num, rfl, by omega, HR.out.1.setc jx _, ?_, ?_, HR.out.2.1.setO _ _ (fun e => HB.out.2.1 e.symm), HR.out.2.2.1.set _ _ (.inl HB.out.1), HR.out.2.2.2.1.set (p := ⟨b, jx, none⟩) (.inr HB.out.2.2) _, ?_⟩
                · rw [Array.size_setIfInBounds]
                  exact HF.out.1
                · intro j hj1 hj2'
                  by_cases hjj : j = jx
                  · subst hjj
                    rw [Array.getElem?_setIfInBounds_self_of_lt (by rw [HF.out.1]; omega)]
                    rw [ds_eq HAB.out.1 (by rw [HD.out.2]; exact HAB.out.2), ← HD.out.1]
                  · rw [Array.getElem?_setIfInBounds_ne (fun e => hjj e.symm)]
                    exact HF.out.2 j (by omega) hj2'
                · have := HR.out.2.2.2.2
                  simpa [World.setCell] using this
              case measure => first | (simp [intOf]; done) | (simp [intOf]; omega)
          · have habb : (a == bb) = false := by simp [hab]
            rw [habb]
            obtain ⟨d10, hd10⟩ : ∃ d : Nat, d = ds (xs.drop (ix + 1)) (ys.drop jx) := ⟨_, rfl⟩
            obtain ⟨d01, hd01⟩ : ∃ d : Nat, d = ds (xs.drop ix) (ys.drop (jx + 1)) := ⟨_, rfl⟩
            obtain ⟨dd, hdd⟩ : ∃ d : Nat, d = ds (xs.drop ix) (ys.drop jx) := ⟨_, rfl⟩
            have c10 : W2.cell? ⟨b2, jx, none⟩ = some (.int .i32 (d10 : Int)) := by rw [hd10]; exact q2.is (q6 jx (by have := HN.out; have := HNE.out; omega))
            have c01 : W2.cell? ⟨b, j2, none⟩ = some (.int .i32 (d01 : Int)) := by rw [hj2e, hd01]; exact HR.out.1.is (HF.out.2 (jx + 1) (by omega) (by have := HN.out; have := HNE.out; omega))
            have hdu := ds_un HAB.out.1 HAB.out.2 hab
            have hd3 := ds_le' xs ys ix jx
            rw [← HN.out.1, ← HN.out.2.1, ← hdd] at hd3
            rw [← hd10, ← hd01, ← hdd] at hdu
            have ewm : IntKind.i32.wrap (1 + if d01 < d10 then (d01 : Int) else (d10 : Int)) = (dd : Int) := by
              have : (1 + if d01 < d10 then (d01 : Int) else (d10 : Int)) = (dd : Int) := by
                rw [hdu]
                split
                · rw [Nat.min_eq_right (by omega)]; omega
                · rw [Nat.min_eq_left (by omega)]; omega
              rw [this]
              exact wrapK3 (by omega) (by omega)
            obtain ⟨v1, hv1⟩ : ∃ v1, W2.cell? ⟨b, jx, none⟩ = some v1 := ⟨_, HR.out.1.is (Array.getElem?_eq_getElem (by have := HF.out.1; omega))⟩
            have fbj : W2.frozen? ⟨b, jx, none⟩ = false := HR.out.1.free jx
            have HD := hid_of' hdd
            have HEW := hid_of' (wrapK hj2e (by omega))
            have HEM := hid_of' ewm
            clear hd10 hd01 hdu hd3 hdd hab q1 q2 q3 q4 q5 q6 hi2e hj2e habb ewm
            go_upto_region 9 with fail
            have ew2 : IntKind.i64.wrap ((jx : Int) + 1) = (j2 : Int) := HEW.out
            have ewm := HEM.out
            refine wp_region_tail 23 (by kernel_rfl) (fun _ => none) (by kernel_rfl) (by kernel_rfl) (by decide) (fun i v x => match i with
              | 0 => v = .slice (some ⟨T, 0, none⟩) N N
              | 1 => v = .int .i64 (ix : Int)
              | 2 => v = .pointer (some ⟨T, ix, none⟩)
              | 3 => v = .slice (some ⟨b, 0, none⟩) M M
              | 4 => v = .int .i64 (jx : Int)
              | 5 => v = .slice (some ⟨T, 0, none⟩) N N
              | 6 => v = .int .i64 (ix : Int)
              | 7 => v = .int .i64 (i2 : Int)
              | 8 => v = .pointer (some ⟨T, i2, none⟩)
              | 9 => v = .slice (some ⟨b2, 0, none⟩) M M
              | 10 => v = .int .i64 (jx : Int)
              | 11 => v = .pointer (some ⟨b2, jx, none⟩)
              | 12 => v = .int .i32 (d10 : Int)
              | 13 => v = .slice (some ⟨T, 0, none⟩) N N
              | 14 => v = .int .i64 (ix : Int)
              | 15 => v = .pointer (some ⟨T, ix, none⟩)
              | 16 => v = .slice (some ⟨b, 0, none⟩) M M
              | 17 => v = .int .i64 (jx : Int)
              | 18 => v = .int .i64 (j2 : Int)
              | 19 => v = .pointer (some ⟨b, j2, none⟩)
              | 20 => v = .int .i32 (d01 : Int)
              | 21 => v = .int .i32 (if d01 < d10 then (d01 : Int) else (d10 : Int))
              | 22 => v = .int .i32 (dd : Int)
              | _ => True) (fun _ => false) (fun _ _ _ _ h => by cases h) ?_ ?_ ?_
            · intro i v x x' hR hb
              match i, hR with
              | 0, h => exact h
              | 1, h => exact h
              | 2, h => exact h
              | 3, h => exact h
              | 4, h => exact h
              | 5, h => exact h
              | 6, h => exact h
              | 7, h => exact h
              | 8, h => exact h
              | 9, h => exact h
              | 10, h => exact h
              | 11, h => exact h
              | 12, h => exact h
              | 13, h => exact h
              | 14, h => exact h
              | 15, h => exact h
              | 16, h => exact h
              | 17, h => exact h
              | 18, h => exact h
              | 19, h => exact h
              | 20, h => exact h
              | 21, h => exact h
              | 22, h => exact h
              | m + 23, h => exact h
            · intro i o hi ho q x vals hX hdep hoth
              have t5 : q.tmps[5]? = some (.slice (some ⟨T, 0, none⟩) N N) := by rw [hoth 5 (by kernel_rfl)]; rfl
              have t6 : q.tmps[6]? = some (.int .i64 (ix : Int)) := by rw [hoth 6 (by kernel_rfl)]; rfl
              have t7 : q.tmps[7]? = some (.int .i64 (jx : Int)) := by rw [hoth 7 (by kernel_rfl)]; rfl
              match i, hi, ho with
              | 0, _, ho =>
                simp only [List.getElem?_cons_zero, Option.some.injEq] at ho
                subst ho
                unfold Oper.wp
                simp [execOp, go_sem, t5]
                exact came _ rfl (Below.refl _ _) rfl (fun h => absurd h (by decide))
              | 1, _, ho =>
                simp only [List.getElem?_cons_succ, List.getElem?_cons_zero, Option.some.injEq] at ho
                subst ho
                unfold Oper.wp
                simp [execOp, go_sem, t6]
                exact came _ rfl (Below.refl _ _) rfl (fun h => absurd h (by decide))
              | 2, _, ho =>
                simp only [List.getElem?_cons_succ, List.getElem?_cons_zero, Option.some.injEq] at ho
                subst ho
                obtain ⟨u0, e0⟩ := hdep ⟨0, .data⟩ (by simp) rfl _ 31 rfl rfl
                rw [show vals 0 = .slice (some ⟨T, 0, none⟩) N N from e0] at u0
                obtain ⟨u1, e1⟩ := hdep ⟨1, .data⟩ (by simp) rfl _ 32 rfl rfl
                rw [show vals 1 = .int .i64 (ix : Int) from e1] at u1
                unfold Oper.wp
                simp [execOp, go_sem, u0, u1, hiN]
                exact came _ rfl (Below.refl _ _) rfl (fun h => absurd h (by decide))
              | 3, _, ho =>
                simp only [List.getElem?_cons_succ, List.getElem?_cons_zero, Option.some.injEq] at ho
                subst ho
                obtain ⟨u2, e2⟩ := hdep ⟨2, .data⟩ (by simp) rfl _ 33 rfl rfl
                rw [show vals 2 = .pointer (some ⟨T, ix, none⟩) from e2] at u2
                have cT : x.cell? ⟨T, ix, none⟩ = some (.slice (some ⟨b, 0, none⟩) M M) := by rw [hX.cell hTl]; exact cTi
                unfold Oper.wp
                simp [execOp, go_sem, u2, cT]
                exact came _ rfl (Below.refl _ _) rfl (fun h => absurd h (by decide))
              | 4, _, ho =>
                simp only [List.getElem?_cons_succ, List.getElem?_cons_zero, Option.some.injEq] at ho
                subst ho
                unfold Oper.wp
                simp [execOp, go_sem, t7]
                exact came _ rfl (Below.refl _ _) rfl (fun h => absurd h (by decide))
              | 5, _, ho =>
                simp only [List.getElem?_cons_succ, List.getElem?_cons_zero, Option.some.injEq] at ho
                subst ho
                unfold Oper.wp
                simp [execOp, go_sem, t5]
                exact came _ rfl (Below.refl _ _) rfl (fun h => absurd h (by decide))
              | 6, _, ho =>
                simp only [List.getElem?_cons_succ, List.getElem?_cons_zero, Option.some.injEq] at ho
                subst ho
                unfold Oper.wp
                simp [execOp, go_sem, t6]
                exact came _ rfl (Below.refl _ _) rfl (fun h => absurd h (by decide))
              | 7, _, ho =>
                simp only [List.getElem?_cons_succ, List.getElem?_cons_zero, Option.some.injEq] at ho
                subst ho
                obtain ⟨u6, e6⟩ := hdep ⟨6, .data⟩ (by simp) rfl _ 37 rfl rfl
                rw [show vals 6 = .int .i64 (ix : Int) from e6] at u6
                unfold Oper.wp
                simp [execOp, go_sem, u6, ew1]
                exact came _ rfl (Below.refl _ _) rfl (fun h => absurd h (by decide))
              | 8, _, ho =>
                simp only [List.getElem?_cons_succ, List.getElem?_cons_zero, Option.some.injEq] at ho
                subst ho
                obtain ⟨u5, e5⟩ := hdep ⟨5, .data⟩ (by simp) rfl _ 36 rfl rfl
                rw [show vals 5 = .slice (some ⟨T, 0, none⟩) N N from e5] at u5
                obtain ⟨u7, e7⟩ := hdep ⟨7, .data⟩ (by simp) rfl _ 38 rfl rfl
                rw [show vals 7 = .int .i64 (i2 : Int) from e7] at u7
                unfold Oper.wp
                simp [execOp, go_sem, u5, u7, hi2]
                exact came _ rfl (Below.refl _ _) rfl (fun h => absurd h (by decide))
              | 9, _, ho =>
                simp only [List.getElem?_cons_succ, List.getElem?_cons_zero, Option.some.injEq] at ho
                subst ho
                obtain ⟨u8, e8⟩ := hdep ⟨8, .data⟩ (by simp) rfl _ 39 rfl rfl
                rw [show vals 8 = .pointer (some ⟨T, i2, none⟩) from e8] at u8
                have cU : x.cell? ⟨T, i2, none⟩ = some (.slice (some ⟨b2, 0, none⟩) M M) := by rw [hX.cell hTl]; exact cTj
                unfold Oper.wp
                simp [execOp, go_sem, u8, cU]
                exact came _ rfl (Below.refl _ _) rfl (fun h => absurd h (by decide))
              | 10, _, ho =>
                simp only [List.getElem?_cons_succ, List.getElem?_cons_zero, Option.some.injEq] at ho
                subst ho
                unfold Oper.wp
                simp [execOp, go_sem, t7]
                exact came _ rfl (Below.refl _ _) rfl (fun h => absurd h (by decide))
              | 11, _, ho =>
                simp only [List.getElem?_cons_succ, List.getElem?_cons_zero, Option.some.injEq] at ho
                subst ho
                obtain ⟨u9, e9⟩ := hdep ⟨9, .data⟩ (by simp) rfl _ 40 rfl rfl
                rw [show vals 9 = .slice (some ⟨b2, 0, none⟩) M M from e9] at u9
                obtain ⟨u10, e10⟩ := hdep ⟨10, .data⟩ (by simp) rfl _ 41 rfl rfl
                rw [show vals 10 = .int .i64 (jx : Int) from e10] at u10
                unfold Oper.wp
                simp [execOp, go_sem, u9, u10, hjM]
                exact came _ rfl (Below.refl _ _) rfl (fun h => absurd h (by decide))
              | 12, _, ho =>
                simp only [List.getElem?_cons_succ, List.getElem?_cons_zero, Option.some.injEq] at ho
                subst ho
                obtain ⟨u11, e11⟩ := hdep ⟨11, .data⟩ (by simp) rfl _ 42 rfl rfl
                rw [show vals 11 = .pointer (some ⟨b2, jx, none⟩) from e11] at u11
                have cc : x.cell? ⟨b2, jx, none⟩ = some (.int .i32 (d10 : Int)) := by rw [hX.cell hb2l]; exact c10
                unfold Oper.wp
                simp [execOp, go_sem, u11, cc]
                exact came _ rfl (Below.refl _ _) rfl (fun h => absurd h (by decide))
              | 13, _, ho =>
                simp only [List.getElem?_cons_succ, List.getElem?_cons_zero, Option.some.injEq] at ho
                subst ho
                unfold Oper.wp
                simp [execOp, go_sem, t5]
                exact came _ rfl (Below.refl _ _) rfl (fun h => absurd h (by decide))
              | 14, _, ho =>
                simp only [List.getElem?_cons_succ, List.getElem?_cons_zero, Option.some.injEq] at ho
                subst ho
                unfold Oper.wp
                simp [execOp, go_sem, t6]
                exact came _ rfl (Below.refl _ _) rfl (fun h => absurd h (by decide))
              | 15, _, ho =>
                simp only [List.getElem?_cons_succ, List.getElem?_cons_zero, Option.some.injEq] at ho
                subst ho
                obtain ⟨u13, e13⟩ := hdep ⟨13, .data⟩ (by simp) rfl _ 44 rfl rfl
                rw [show vals 13 = .slice (some ⟨T, 0, none⟩) N N from e13] at u13
                obtain ⟨u14, e14⟩ := hdep ⟨14, .data⟩ (by simp) rfl _ 45 rfl rfl
                rw [show vals 14 = .int .i64 (ix : Int) from e14] at u14
                unfold Oper.wp
                simp [execOp, go_sem, u13, u14, hiN]
                exact came _ rfl (Below.refl _ _) rfl (fun h => absurd h (by decide))
              | 16, _, ho =>
                simp only [List.getElem?_cons_succ, List.getElem?_cons_zero, Option.some.injEq] at ho
                subst ho
                obtain ⟨u15, e15⟩ := hdep ⟨15, .data⟩ (by simp) rfl _ 46 rfl rfl
                rw [show vals 15 = .pointer (some ⟨T, ix, none⟩) from e15] at u15
                have cT : x.cell? ⟨T, ix, none⟩ = some (.slice (some ⟨b, 0, none⟩) M M) := by rw [hX.cell hTl]; exact cTi
                unfold Oper.wp
                simp [execOp, go_sem, u15, cT]
                exact came _ rfl (Below.refl _ _) rfl (fun h => absurd h (by decide))
              | 17, _, ho =>
                simp only [List.getElem?_cons_succ, List.getElem?_cons_zero, Option.some.injEq] at ho
                subst ho
                unfold Oper.wp
                simp [execOp, go_sem, t7]
                exact came _ rfl (Below.refl _ _) rfl (fun h => absurd h (by decide))
              | 18, _, ho =>
                simp only [List.getElem?_cons_succ, List.getElem?_cons_zero, Option.some.injEq] at ho
                subst ho
                obtain ⟨u17, e17⟩ := hdep ⟨17, .data⟩ (by simp) rfl _ 48 rfl rfl
                rw [show vals 17 = .int .i64 (jx : Int) from e17] at u17
                unfold Oper.wp
                simp [execOp, go_sem, u17, ew2]
                exact came _ rfl (Below.refl _ _) rfl (fun h => absurd h (by decide))
              | 19, _, ho =>
                simp only [List.getElem?_cons_succ, List.getElem?_cons_zero, Option.some.injEq] at ho
                subst ho
                obtain ⟨u16, e16⟩ := hdep ⟨16, .data⟩ (by simp) rfl _ 47 rfl rfl
                rw [show vals 16 = .slice (some ⟨b, 0, none⟩) M M from e16] at u16
                obtain ⟨u18, e18⟩ := hdep ⟨18, .data⟩ (by simp) rfl _ 49 rfl rfl
                rw [show vals 18 = .int .i64 (j2 : Int) from e18] at u18
                unfold Oper.wp
                simp [execOp, go_sem, u16, u18, hj2]
                exact came _ rfl (Below.refl _ _) rfl (fun h => absurd h (by decide))
              | 20, _, ho =>
                simp only [List.getElem?_cons_succ, List.getElem?_cons_zero, Option.some.injEq] at ho
                subst ho
                obtain ⟨u19, e19⟩ := hdep ⟨19, .data⟩ (by simp) rfl _ 50 rfl rfl
                rw [show vals 19 = .pointer (some ⟨b, j2, none⟩) from e19] at u19
                have cc : x.cell? ⟨b, j2, none⟩ = some (.int .i32 (d01 : Int)) := by rw [hX.cell hbl]; exact c01
                unfold Oper.wp
                simp [execOp, go_sem, u19, cc]
                exact came _ rfl (Below.refl _ _) rfl (fun h => absurd h (by decide))
              | 21, _, ho =>
                simp only [List.getElem?_cons_succ, List.getElem?_cons_zero, Option.some.injEq] at ho
                subst ho
                obtain ⟨u12, e12⟩ := hdep ⟨12, .data⟩ (by simp) rfl _ 43 rfl rfl
                rw [show vals 12 = .int .i32 (d10 : Int) from e12] at u12
                obtain ⟨u20, e20⟩ := hdep ⟨20, .data⟩ (by simp) rfl _ 51 rfl rfl
                rw [show vals 20 = .int .i32 (d01 : Int) from e20] at u20
                unfold Oper.wp
                simp [go_sem, u12, u20]
                exact came _ rfl (Below.refl _ _) rfl (fun h => absurd h (by decide))
              | 22, _, ho =>
                simp only [List.getElem?_cons_succ, List.getElem?_cons_zero, Option.some.injEq] at ho
                subst ho
                obtain ⟨u21, e21⟩ := hdep ⟨21, .data⟩ (by simp) rfl _ 52 rfl rfl
                rw [show vals 21 = .int .i32 (if d01 < d10 then (d01 : Int) else (d10 : Int)) from e21] at u21
                unfold Oper.wp
                simp [execOp, go_sem, u21, ewm]
                exact came _ rfl (Below.refl _ _) rfl (fun h => absurd h (by decide))
              | m + 23, hi, _ => exact absurd hi (by omega)
            · intro vals W3 hX hR _
              have f0 : vals 0 = .slice (some ⟨T, 0, none⟩) N N := hR 0 (by decide)
              have f1 : vals 1 = .int .i64 (ix : Int) := hR 1 (by decide)
              have f2 : vals 2 = .pointer (some ⟨T, ix, none⟩) := hR 2 (by decide)
              have f3 : vals 3 = .slice (some ⟨b, 0, none⟩) M M := hR 3 (by decide)
              have f4 : vals 4 = .int .i64 (jx : Int) := hR 4 (by decide)
              have f5 : vals 5 = .slice (some ⟨T, 0, none⟩) N N := hR 5 (by decide)
              have f6 : vals 6 = .int .i64 (ix : Int) := hR 6 (by decide)
              have f7 : vals 7 = .int .i64 (i2 : Int) := hR 7 (by decide)
              have f8 : vals 8 = .pointer (some ⟨T, i2, none⟩) := hR 8 (by decide)
              have f9 : vals 9 = .slice (some ⟨b2, 0, none⟩) M M := hR 9 (by decide)
              have f10 : vals 10 = .int .i64 (jx : Int) := hR 10 (by decide)
              have f11 : vals 11 = .pointer (some ⟨b2, jx, none⟩) := hR 11 (by decide)
              have f12 : vals 12 = .int .i32 (d10 : Int) := hR 12 (by decide)
              have f13 : vals 13 = .slice (some ⟨T, 0, none⟩) N N := hR 13 (by decide)
              have f14 : vals 14 = .int .i64 (ix : Int) := hR 14 (by decide)
              have f15 : vals 15 = .pointer (some ⟨T, ix, none⟩) := hR 15 (by decide)
              have f16 : vals 16 = .slice (some ⟨b, 0, none⟩) M M := hR 16 (by decide)
              have f17 : vals 17 = .int .i64 (jx : Int) := hR 17 (by decide)
              have f18 : vals 18 = .int .i64 (j2 : Int) := hR 18 (by decide)
              have f19 : vals 19 = .pointer (some ⟨b, j2, none⟩) := hR 19 (by decide)
              have f20 : vals 20 = .int .i32 (d01 : Int) := hR 20 (by decide)
              have f21 : vals 21 = .int .i32 (if d01 < d10 then (d01 : Int) else (d10 : Int)) := hR 21 (by decide)
              have f22 : vals 22 = .int .i32 (dd : Int) := hR 22 (by decide)
              simp only [List.drop, List.take, putAll, List.setIfInBounds_toArray, List.set_cons_succ, List.set_cons_zero, f0, f1, f2, f3, f4, f5, f6, f7, f8, f9, f10, f11, f12, f13, f14, f15, f16, f17, f18, f19, f20, f21, f22]
              clear f0 f1 f2 f3 f4 f5 f6 f7 f8 f9 f10 f11 f12 f13 f14 f15 f16 f17 f18 f19 f20 f21 f22 hR
              replace HR := hid_of' (And.intro (HR.out.1.later hX) (And.intro (HR.out.2.1.later hX) (And.intro (HR.out.2.2.1.later hX) (And.intro (HR.out.2.2.2.1.later hX) (Nat.lt_of_lt_of_le HR.out.2.2.2.2 hX.size)))))
              have cbj : W3.cell? ⟨b, jx, none⟩ = some v1 := by rw [hX.cell hbl]; exact hv1
              have fbj3 : W3.frozen? ⟨b, jx, none⟩ = false := HR.out.1.free jx
              clear hX hv1 fbj cTi cTj hb2l hTl hbl ew1 ew2 c10 c01 ewm
              go_wp2
              go_roundw
              case rel =>
                refine ⟨jx, (jx : Int) - 1, _, by go_num, rfl, by omega, HR.out.1.setc jx _, ?_, ?_, HR.out.2.1.setO _ _ (fun e => HB.out.2.1 e.symm), HR.out.2.2.1.set _ _ (.inl HB.out.1), HR.out.2.2.2.1.set (p := ⟨b, jx, none⟩) (.inr HB.out.2.2) _, ?_⟩
                · rw [Array.size_setIfInBounds]
                  exact HF.out.1
                · intro j hj1 hj2'
                  by_cases hjj : j = jx
                  · subst hjj
                    rw [Array.getElem?_setIfInBounds_self_of_lt (by rw [HF.out.1]; omega)]
                    rw [← HD.out]
                  · rw [Array.getElem?_setIfInBounds_ne (fun e => hjj e.symm)]
                    exact HF.out.2 j (by omega) hj2'
                · have := HR.out.2.2.2.2
                  simpa [World.setCell] using this
              case measure => first | (simp [intOf]; done) | (simp [intOf]; omega)

end Go.Proofs.YtaimmjoekahleaaDoor
