
/-
  barrowlaw07.row, fit, three: rows, operations and replicas made right.
-/
import Derived.Test.YtdihbgmjnfpppaaGreatDoorXf7
import Derived.Test.YtdihbgmjnfpppaaGreatDoorTrEq
namespace Go.Proofs.YtdihbgmjnfpppaaGreatDoor
open Go.RowKit
set_option maxRecDepth 100000

theorem within_lit (n : Int) (m : Int) (w : World) (hm : 0 < m) (hm2 : m ≤ 1073741824) (h1 : In64 n) :
    Calls Tryz.prog 14 #[.int .i64 n, .int .i64 m] w fun r w' => ∃ k : Nat, (k : Int) < m ∧ r = .returned (.int .i64 (k : Int)) ∧ w' = w := by
  obtain ⟨k, rfl⟩ : ∃ k : Nat, m = (k : Int) := ⟨m.toNat, by omega⟩
  refine (within_any n k w (by omega) (by omega) h1.1 h1.2).mono ?_
  rintro r w' ⟨j, hj, h2, h3⟩
  exact ⟨j, by omega, h2, h3⟩
theorem infoE5 : (Tryz.prog.info? 49).map (fun i => (i.zero, i.size, i.bytes)) = some (some (.agg #[.int .i64 0, .int .i64 0, .int .i64 0, .int .i32 0, .int .i64 0]), 5, 40) := by kernel_rfl
/-- Numbers of Go's int. -/
def El.In (e : El) : Prop := In64 e.hd
/-- What row tells. -/
structure RowR (k : Nat) (out : List El) : Prop where
  ok : RowOk 2 out
  len : out.length ≤ k
  ep : ∀ e ∈ out, e.ep = 3 ∧ e.rp = 0 ∧ e.no ≤ k
theorem RowR.nil : RowR 0 [] := ⟨rowOk_nil 2, Nat.le_refl _, fun e he => by simp at he⟩
theorem RowR.skip {k : Nat} {out : List El} (h : RowR k out) : RowR (k + 1) out := ⟨h.ok, by have := h.len; omega, fun e he => by have := h.ep e he; omega⟩
theorem RowR.add {k : Nat} {out : List El} {c d : Int} (h : RowR k out) (hk : k < 60) (hc : rightC c = true) (h0 : -2 ≤ d) (h1 : d ≤ 2) : RowR (k + 1) (out ++ [⟨3, 0, (k : Int) + 1, c, d⟩]) := by
  refine ⟨⟨?_, ?_⟩, by have := h.len; simp; omega, ?_⟩
  · intro i j x y hij hx hy
    have hjl := (List.getElem?_eq_some_iff.1 hy).1
    simp at hjl
    rw [List.getElem?_append_left (by omega)] at hx
    by_cases q : j < out.length
    · rw [List.getElem?_append_left q] at hy
      exact h.ok.apart i j x y hij hx hy
    · rw [List.getElem?_append_right (by omega), show j - out.length = 0 by omega] at hy
      simp only [List.getElem?_cons_zero, Option.some.injEq] at hy
      subst hy
      have := h.ep x (List.mem_of_getElem? hx)
      intro e
      simp only [El.id, Idn.mk.injEq] at e
      omega
  · intro e he
    rcases List.mem_append.1 he with he | he
    · exact h.ok.good e he
    · simp only [List.mem_singleton] at he
      subst he
      exact ⟨⟨⟨show _ ≤ (3 : Int) by decide, show (3 : Int) ≤ _ by decide⟩, ⟨show _ ≤ (0 : Int) by decide, show (0 : Int) ≤ _ by decide⟩, ⟨by show _ ≤ (k : Int) + 1; omega, by show (k : Int) + 1 ≤ _; omega⟩⟩, hc, h0, h1⟩
  · intro e he
    rcases List.mem_append.1 he with he | he
    · have := h.ep e he; omega
    · simp only [List.mem_singleton] at he
      subst he
      refine ⟨rfl, rfl, ?_⟩
      show (k : Int) + 1 ≤ _
      omega
theorem row_setE {w : World} {g : Nat} {e : El} (h : RowAt g (ev e) 49 w) (d : Int) : RowAt g (ev ⟨e.ep, e.rp, e.no, e.ch, d⟩) 49 (w.setCell ⟨g, 4, none⟩ (.int .i64 d)) := heap_setCell_at h 4 _

/-- What row answers. -/
def RowO (w : World) (r : Ending) (w' : World) : Prop := ∃ u out k, r = .returned u ∧ OwnE w.heap.size u out w' ∧ RowR k out ∧ k ≤ 60 ∧ Below w.heap.size w w'
set_option maxHeartbeats 4000000 in
theorem row7_ok {w : World} {v : Value} {l : List El} (hv : SlE w v l) (hin : ∀ e ∈ l, e.In) (hml : l.length ≤ 9223372036854775807) :
    Calls Tryz.prog 4 #[v] w (RowO w) := by
  obtain ⟨a0, c0, rfl⟩ := hv.form
  obtain ⟨i0, hi, hz0, hz1, hz2⟩ := info_parts infoE5
  have hmx : maxLen = 9223372036854775807 := rfl
  go_enter Tryz.func4, Tryz.ntmps4
  go_wp2
  go_loopw [3, 4] (fun u i wr => ∃ (k : Nat) (out : List El) (ua : Option Addr) (uc : Nat), u = .slice ua out.length uc ∧ i = .int .i64 (k : Int) ∧ k ≤ 60 ∧ k ≤ l.length ∧ RowR k out ∧ OwnE w.heap.size (.slice ua out.length uc) out wr ∧ Below w.heap.size w wr) (fun _ i _ => 60 - (intOf i).toNat)
  case atStart => exact ⟨0, [], none, 0, rfl, rfl, by omega, Nat.zero_le _, RowR.nil, ⟨rfl, .inl ⟨rfl, rfl⟩⟩, Below.refl _ _⟩
  case round =>
    obtain ⟨k, out, ua, uc, rfl, rfl, hk, hkl, hR, hO, hB⟩ := hrel
    by_cases q0 : k < l.length
    · have p0 : (k : Int) < (l.length : Int) := by omega
      by_cases q1 : k < 60
      · have p1 : (k : Int) < 60 := by omega
        obtain ⟨e, he⟩ : ∃ e, l[k]? = some e := ⟨_, List.getElem?_eq_getElem q0⟩
        have hei := hin e (List.mem_of_getElem? he)
        rcases hv.later hB with ⟨h0, _⟩ | ⟨g, o_, c, hvv, hc⟩
        · exfalso; subst h0; simp at q0
        simp only [Value.slice.injEq] at hvv
        obtain ⟨rfl, _, rfl⟩ := hvv
        have hce := hc k e he
        clear hc
        go_upto_region 6 with (first | (refine wpL_loadE rfl _ rfl rfl hce ?_) | (refine wpL_storeE rfl _ _ rfl rfl rfl (row_new wr _ _) ?_))
        have hr5 := (row_new wr #[.int .i64 0, .int .i64 0, .int .i64 0, .int .i32 0, .int .i64 0] 49).put (ev e)
        have hB5 : Below wr.heap.size wr ((wr.alloc (.cells #[.int .i64 0, .int .i64 0, .int .i64 0, .int .i32 0, .int .i64 0] 49)).setRow wr.heap.size (ev e)) := below_row (below_one wr _) (Nat.le_refl _) _
        generalize (wr.alloc (.cells #[.int .i64 0, .int .i64 0, .int .i64 0, .int .i32 0, .int .i64 0] 49)).setRow wr.heap.size (ev e) = W5 at hr5 hB5 ⊢
        have c3 : W5.cell? ⟨wr.heap.size, 3, none⟩ = some (.int .i32 e.ch) := hr5.cell 3
        have HV := hid_of' (fun x => refRight_any e.ch x)
        cases hrc : rightC e.ch with
        | false =>
          rw [hrc] at HV
          go_wp2_with (go_at_call 13; refine (HV.out _).mono ?_; rintro r w2 ⟨rfl, hw⟩; obtain rfl := hw.symm)
          go_roundw
          case rel => exact ⟨k + 1, out, ua, uc, rfl, by go_num, by omega, by omega, hR.skip, OwnE.later hO hB5, bgo hB hB5⟩
          case measure => simp [intOf]; omega
        | true =>
          rw [hrc] at HV
          go_upto_region 7 with (go_at_call 13; refine (HV.out _).mono ?_; rintro r w2 ⟨rfl, hw⟩; obtain rfl := hw.symm)
          have f0 : W5.frozen? ⟨wr.heap.size, 0, none⟩ = false := Lib.frozen_of_heap hr5 0
          have f1 : W5.frozen? ⟨wr.heap.size, 1, none⟩ = false := Lib.frozen_of_heap hr5 1
          have f2 : W5.frozen? ⟨wr.heap.size, 2, none⟩ = false := Lib.frozen_of_heap hr5 2
          have c0 : W5.cell? ⟨wr.heap.size, 0, none⟩ = some (.int .i64 e.ep) := hr5.cell 0
          have c1 : W5.cell? ⟨wr.heap.size, 1, none⟩ = some (.int .i64 e.rp) := hr5.cell 1
          have c2 : W5.cell? ⟨wr.heap.size, 2, none⟩ = some (.int .i64 e.no) := hr5.cell 2
          go_upto_region 8 with fail
          have hr6 : RowAt wr.heap.size (ev ⟨3, 0, (k : Int) + 1, e.ch, e.hd⟩) 49 (((W5.setCell ⟨wr.heap.size, 0, none⟩ (.int .i64 3)).setCell ⟨wr.heap.size, 1, none⟩ (.int .i64 0)).setCell ⟨wr.heap.size, 2, none⟩ (.int .i64 ((k : Int) + 1))) := heap_setCell_at (heap_setCell_at (heap_setCell_at hr5 0 _) 1 _) 2 _
          have hB6 : Below wr.heap.size wr (((W5.setCell ⟨wr.heap.size, 0, none⟩ (.int .i64 3)).setCell ⟨wr.heap.size, 1, none⟩ (.int .i64 0)).setCell ⟨wr.heap.size, 2, none⟩ (.int .i64 ((k : Int) + 1))) := below_setO (below_setO (below_setO hB5 (Nat.le_refl _) _ _) (Nat.le_refl _) _ _) (Nat.le_refl _) _ _
          generalize ((W5.setCell ⟨wr.heap.size, 0, none⟩ (.int .i64 3)).setCell ⟨wr.heap.size, 1, none⟩ (.int .i64 0)).setCell ⟨wr.heap.size, 2, none⟩ (.int .i64 ((k : Int) + 1)) = W6 at hr6 hB6 ⊢
          clear hr5 hB5 c0 c1 c2 c3 f0 f1 f2 HV
          have c4 : W6.cell? ⟨wr.heap.size, 4, none⟩ = some (.int .i64 e.hd) := hr6.cell 4
          have f4 : W6.frozen? ⟨wr.heap.size, 4, none⟩ = false := Lib.frozen_of_heap hr6 4
          have HQ := hid_of' (fun x => within_lit e.hd 5 x (by decide) (by decide) hei)
          go_upto_region 9 with (go_at_call 14; refine (HQ.out _).mono ?_; rintro r w2 ⟨j, hj, rfl, hw⟩; obtain rfl := hw.symm)
          have hr7 := row_setE hr6 ((j : Int) - 2)
          have hB7 : Below wr.heap.size wr (W6.setCell ⟨wr.heap.size, 4, none⟩ (.int .i64 ((j : Int) - 2))) := below_setO hB6 (Nat.le_refl _) _ _
          generalize W6.setCell ⟨wr.heap.size, 4, none⟩ (.int .i64 ((j : Int) - 2)) = W7 at hr7 hB7 ⊢
          clear hr6 hB6 c4 f4 HQ
          have hO7 := OwnE.later hO hB7
          have hol := hR.len
          simp only at hr7
          go_wp2_with (first | (refine wpL_loadE (e := ⟨3, 0, (k : Int) + 1, e.ch, (j : Int) - 2⟩) rfl _ rfl rfl hr7.in ?_; unfold ev) | (at_builtin; refine wpList_append_own _ rfl _ _ 22 rfl w.heap.size 49 i0 _ 5 40 Tryz.underlying22 hi hz0 hz1 hz2 rfl (by decide) _ _ _ rfl (hO7.alloc _) ⟨W7.heap.size, 0, none⟩ 1 1 (ev ⟨3, 0, (k : Int) + 1, e.ch, (j : Int) - 2⟩).toList rfl rfl (ev_cells W7 _) (by simp [ev, Value.oneCell']) (by omega) (by omega) (by have h1 := hB.size; have h2 := hB7.size; rw [World.size_alloc]; omega) ?_; intro v' w9 hown9 hgr9 _; obtain ⟨g9, cap9, rfl⟩ := ownsRow_succ hown9))
          have hln : (out ++ [(⟨3, 0, (k : Int) + 1, e.ch, (j : Int) - 2⟩ : El)]).length = out.length + 1 := by simp
          have hb7 := bgo hB hB7
          refine ⟨⟨k + 1, out ++ [⟨3, 0, (k : Int) + 1, e.ch, (j : Int) - 2⟩], some ⟨g9, 0, none⟩, cap9, by rw [hln], by go_num, by omega, by omega, hR.add q1 hrc (by omega) (by omega), ?_, ?_⟩, by simp [intOf]; omega⟩
          · unfold OwnE
            rw [hln, ecells_app]
            exact hown9
          · exact (hb7.alloc hb7.size _).grown hgr9 (by rw [World.size_alloc]; have := hb7.size; omega) (fun j e => (hO7.lt j e).1)
      · have p1 : ¬ (k : Int) < 60 := by omega
        go_wp2
        go_ret
        exact ⟨_, out, k, rfl, hO, hR, hk, hB⟩
    · have p0 : ¬ (k : Int) < (l.length : Int) := by omega
      go_wp2
      go_ret
      exact ⟨_, out, k, rfl, hO, hR, hk, hB⟩
end Go.Proofs.YtdihbgmjnfpppaaGreatDoor
