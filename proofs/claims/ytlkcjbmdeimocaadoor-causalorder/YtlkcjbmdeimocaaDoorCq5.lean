
/-
  Package causal: a new queue.
-/
import Derived.Test.YtlkcjbmdeimocaaDoorCq4
import Derived.Test.YtlkcjbmdeimocaaDoorCqp
namespace Go.Proofs.YtlkcjbmdeimocaaDoor
open Go.RowKit Go.Maps Go.MapKept
set_option maxRecDepth 100000

theorem build_q8 (a : Option Addr) (n c : Nat) (a0 a1 a2 a3 a4 a5 a6 a7 : Int) (kb : Nat) (w : World) : (Instr.build 86 #[(0, .slice a n c), (1, .agg (cv [a0, a1, a2, a3, a4, a5, a6, a7])), (2, .map (some kb))]).run Tryd.prog w = .ok (.agg (qcv (.slice a n c) [a0, a1, a2, a3, a4, a5, a6, a7] kb (List.replicate 8 0))) w := by kernel_rfl
theorem build_q (a : Option Addr) (n c : Nat) {h : List Int} (hl : h.length = 8) (kb : Nat) (w : World) : (Instr.build 86 #[(0, .slice a n c), (1, .agg (cv h)), (2, .map (some kb))]).run Tryd.prog w = .ok (.agg (qcv (.slice a n c) h kb (List.replicate 8 0))) w := by
  match h, hl with
  | [a0, a1, a2, a3, a4, a5, a6, a7], _ => exact build_q8 a n c a0 a1 a2 a3 a4 a5 a6 a7 kb w
theorem wpL_buildQ {ops : Array Oper} {rest : List Oper} {o : Oper} {A : Act} {w : World} {Q : Exit → Act → World → Prop} (hgd : o.guard = none) (x y z : Operand) (ho : o.op = .build 86 #[(0, x), (1, y), (2, z)]) {a : Option Addr} {n c : Nat} {h : List Int} {kb : Nat} (hl : h.length = 8) (hx : A.eval x = .slice a n c) (hy : A.eval y = .agg (cv h)) (hz : A.eval z = .map (some kb))
    (k : wpList Tryd.prog ops Q rest (A.put o.dst (.agg (qcv (.slice a n c) h kb (List.replicate 8 0)))) w) : wpList Tryd.prog ops Q (o :: rest) A w := by
  refine wpList_plain hgd fun _ hK => ?_
  unfold Oper.wp execOp
  simp only [ho, List.map_toArray, List.map_cons, List.map_nil, hx, hy, hz, Sem.run_bind, Sem.run_pure, build_q a n c hl kb w, Result.andThen_ok]
  exact hK _ _ k
def NewQ (w : World) (v : Value) (L : List Ac) (h : List Int) (e : Ending) (w' : World) : Prop := ∃ q kb f g, e = .returned (.pointer (some ⟨q, 0, none⟩)) ∧ QAt q v h kb f w' ∧ GpAt kb L.length w.heap.size g w' ∧ QI L h (fun _ => True) f g ∧ w.heap.size ≤ q ∧ w.heap.size ≤ kb ∧ Below w.heap.size w w'
set_option maxHeartbeats 4000000 in
theorem newQueue_ok {w : World} {v : Value} {L : List Ac} (hv : SlC w v L) (hfit : AFit L) (hL : L.length ≤ 1000) {h : List Int} (hh : Ck h) :
    Calls Tryd.prog 46 #[v, .agg (cv h)] w (NewQ w v L h) := by
  obtain ⟨a9, c9, rfl⟩ := hv.form
  have hmm := @run_makeMap Tryd.prog
  have k1 := CkAt.new w hh.1
  go_enter Tryd.func46, Tryd.ntmps46
  go_upto_region 2 with (first | (refine wpL_load rfl _ rfl rfl k1 ?_) | (refine wpL_buildQ rfl _ _ _ rfl hh.1 rfl rfl rfl ?_))
  have hb1 : Below w.heap.size w (((w.alloc (.cells (cv h) 44)).alloc (.map #[] 0)).alloc (.cells (qcv (.slice a9 L.length c9) h (w.heap.size + 1) [0, 0, 0, 0, 0, 0, 0, 0]) 86)) := ((below_one w _).alloc (below_one w _).size _).alloc (Nat.le_trans (below_one w (.cells (cv h) 44)).size (below_one _ _).size) _
  have hs1 : (w.alloc (.cells (cv h) 44)).heap.size = w.heap.size + 1 := by simp
  have hs2 : ((w.alloc (.cells (cv h) 44)).alloc (.map #[] 0)).heap.size = w.heap.size + 2 := by simp
  have g1 : GpAt (w.heap.size + 1) 0 w.heap.size (fun _ _ => []) (((w.alloc (.cells (cv h) 44)).alloc (.map #[] 0)).alloc (.cells (qcv (.slice a9 L.length c9) h (w.heap.size + 1) [0, 0, 0, 0, 0, 0, 0, 0]) 86)) := by
    have := GpAt.new (w.alloc (.cells (cv h) 44)) w.heap.size
    rw [hs1] at this
    exact this.later (below_one _ _)
  have q1 : QAt (w.heap.size + 1 + 1) (.slice a9 L.length c9) h (w.heap.size + 1) [0, 0, 0, 0, 0, 0, 0, 0] (((w.alloc (.cells (cv h) 44)).alloc (.map #[] 0)).alloc (.cells (qcv (.slice a9 L.length c9) h (w.heap.size + 1) [0, 0, 0, 0, 0, 0, 0, 0]) 86)) := by
    have := row_new ((w.alloc (.cells (cv h) 44)).alloc (.map #[] 0)) (qcv (.slice a9 L.length c9) h (w.heap.size + 1) [0, 0, 0, 0, 0, 0, 0, 0]) 86
    rw [hs2] at this
    exact this
  generalize (((w.alloc (.cells (cv h) 44)).alloc (.map #[] 0)).alloc (.cells (qcv (.slice a9 L.length c9) h (w.heap.size + 1) [0, 0, 0, 0, 0, 0, 0, 0]) 86)) = W at hb1 g1 q1 ⊢
  obtain ⟨kb, hkb⟩ : ∃ kb, w.heap.size + 1 = kb := ⟨_, rfl⟩
  rw [hkb] at g1 q1 ⊢
  obtain ⟨q, hq⟩ : ∃ q, kb + 1 = q := ⟨_, rfl⟩
  rw [hq] at q1 ⊢
  have HKQ := hid_of' (show w.heap.size ≤ kb ∧ w.heap.size ≤ q by omega)
  have H := hid_of' (And.intro hb1 (And.intro g1 (And.intro q1 hv)))
  clear hb1 g1 q1 hv hs1 hs2 hkb hq hmm k1
  go_wp2
  go_loopw [13] (fun i wr => ∃ (k : Nat) (f : List Nat), i = .int .i64 (k : Int) ∧ k ≤ 8 ∧ f.length = 8 ∧ (∀ r, r < k → fn f r = L.length) ∧ QAt q (.slice a9 L.length c9) h kb f wr ∧ Ch (fun j => j = q) W wr) (fun i _ => 8 - (intOf i).toNat)
  case atStart => exact ⟨0, _, rfl, by omega, rfl, fun r hr => by omega, H.out.2.2.1, Ch.refl _ _⟩
  case round =>
    rename World => wr
    obtain ⟨k, f, rfl, hk, hfl, hfr, hqa, hc⟩ := hrel
    by_cases hlt : k < 8
    · have hki : (k : Int) < 8 := by omega
      have c1 := hqa.cellIs (10 + k) (qcv_first hh.1 hfl hlt)
      have f1 := hqa.froz (10 + k)
      have r1 := hqa.setc (10 + k) (.int .i64 (L.length : Int))
      rw [qcv_setF hh.1] at r1
      have s1 := ch_cell (w := wr) (b := q) (k := 10 + k) (.int .i64 (L.length : Int))
      have HZ := hid_of' (And.intro r1 (hc.trans s1))
      clear r1 s1 hc hqa
      go_wp2
      go_roundw
      case rel =>
        refine ⟨k + 1, _, by go_num, by omega, by rw [List.length_set]; exact hfl, fun r hr => ?_, HZ.out.1, HZ.out.2⟩
        rw [fn_set (by omega)]
        split
        · rfl
        · exact hfr r (by omega)
      case measure => simp [intOf]; omega
    · have hki : ¬ (k : Int) < 8 := by omega
      have hne := H.out.2.1.neQ H.out.2.2.1
      have gq := H.out.2.1.ch hc (fun e => hne.1 e.symm) (fun j hj => (hne.2 j hj).1)
      have hbq : Below w.heap.size w wr := H.out.1.trans (hc.below (fun s hs e => by have := HKQ.out.2; omega) H.out.1.size)
      have qi := QI.start L h hfl (fun r hr => hfr r (by omega))
      have H2 := hid_of' (And.intro hqa (And.intro gq (And.intro hbq qi)))
      clear hc hqa gq hbq qi hne hfr
      go_wp2
      go_loopw [26] (fun i wr => ∃ (k : Nat) (f : List Nat) (g : Int → Int → List Nat), i = .int .i64 (k : Int) ∧ k ≤ L.length ∧ QAt q (.slice a9 L.length c9) h kb f wr ∧ GpAt kb k w.heap.size g wr ∧ QI L h (fun j => j < k) f g ∧ Below w.heap.size w wr) (fun i _ => L.length - (intOf i).toNat)
      case atStart => exact ⟨0, _, _, rfl, by omega, H2.out.1, H2.out.2.1, H2.out.2.2.2.congr (fun i => ⟨fun q => q.elim, fun q => by omega⟩), H2.out.2.2.1⟩
      case round =>
        rename World => wx
        obtain ⟨k, f, g, rfl, hk, hqa, hga, qi, hB⟩ := hrel
        by_cases hlt : k < L.length
        · have hki : (k : Int) < (L.length : Int) := by omega
          obtain ⟨x, hx⟩ : ∃ x, L[k]? = some x := ⟨_, List.getElem?_eq_getElem hlt⟩
          have HP := hid_of' (put_any hqa hga (H.out.2.2.2.later hB) hfit hL hh qi.fl hx (by omega) hB.size (fun a b => Nat.le_trans (qi.len a b) hL) (fun r hr => Nat.le_trans (qi.fle r hr) (by omega)))
          have HQ := hid_of' (And.intro qi (And.intro hx (And.intro hB hga)))
          clear hqa hga qi hB hx
          go_upto_region 11 with (go_at_call 63; refine HP.out.mono ?_; rintro e w5 ⟨⟨z, rfl⟩, f', g', hpq⟩; clear HP)
          have HY := hid_of' hpq
          clear hpq
          go_wp2
          go_roundw
          case rel =>
            obtain ⟨p1, p2, p3, p4, p5⟩ := HY.out
            refine ⟨k + 1, f', g', by go_num, by omega, p2, p3, (HQ.out.1.put HQ.out.2.1 (by omega) p1).congr (fun i => by omega), HQ.out.2.2.1.trans (p4.below (fun s hs e => ?_) HQ.out.2.2.1.size)⟩
            rcases e with e | e | e
            · have := HKQ.out.1; omega
            · have := HKQ.out.2; omega
            · have := (HQ.out.2.2.2.rows e).1; omega
          case measure => simp [intOf]; omega
        · have hki : ¬ (k : Int) < (L.length : Int) := by omega
          have hke : k = L.length := by omega
          have HZ := hid_of' (And.intro hqa (And.intro hga (And.intro qi hB)))
          clear hqa hga qi hB
          go_wp2
          go_ret
          refine ⟨q, kb, f, g, rfl, HZ.out.1, HZ.out.2.1.mono (by omega), ?_, HKQ.out.2, HKQ.out.1, HZ.out.2.2.2⟩
          have qi := HZ.out.2.2.1
          refine ⟨qi.fl, qi.fle, qi.first1, fun i x _ hx => qi.first2 i x ?_ hx, fun i x _ hx => qi.wait i x ?_ hx, fun a b i hi => ⟨trivial, (qi.gin a b i hi).2⟩, qi.gone, qi.gnd⟩
          all_goals (have := (List.getElem?_eq_some_iff.1 hx).1; omega)
end Go.Proofs.YtlkcjbmdeimocaaDoor
