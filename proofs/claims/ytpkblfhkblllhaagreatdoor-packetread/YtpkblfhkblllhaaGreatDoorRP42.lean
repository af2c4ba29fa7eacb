
/-
  barrowref09.Reader: Clock. barrowref09.Reader: one act, as it is read. barrowref09.Reader: the act that was read, put behind the others.
-/
import Derived.Test.YtpkblfhkblllhaaGreatDoorRP41
import Derived.Test.YtpkblfhkblllhaaGreatDoorRP33
import Derived.Great.BuildSlice
namespace Go.Proofs.YtpkblfhkblllhaaGreatDoor
open Go.RowKit
set_option maxRecDepth 100000

/-- m more of n numbers of a clock, from the i-th on. -/
def PS.clk (bs : List UInt8) (n : Nat) : Nat → Nat → List Int → PS → List Int × PS
  | 0, _, c, s => (c, s)
  | m + 1, i, c, s => PS.clk bs n m (i + 1) (c.set i (s.number bs 9223372036854775807).1) ((s.number bs 9223372036854775807).2.form s.pl (decide (i + 1 = n) && decide ((s.number bs 9223372036854775807).1 = 0)))
def PS.clock (bs : List UInt8) (s : PS) : List Int × PS := PS.clk bs (s.number bs 8).1.toNat (s.number bs 8).1.toNat 0 [0, 0, 0, 0, 0, 0, 0, 0] (s.number bs 8).2
theorem numR_le {bs : List UInt8} {most : Int} {n k : Nat} (h : numR bs most = .ok (n, k)) : (n : Int) ≤ most := (numR_ok h).2.2.2.2.1
theorem number_fit (bs : List UInt8) (s : PS) (most : Int) (h0 : 0 ≤ most) : 0 ≤ (s.number bs most).1 ∧ (s.number bs most).1 ≤ most := by
  unfold PS.number
  split
  · exact ⟨Int.le_refl 0, h0⟩
  · split
    · rename_i n k hr
      exact ⟨by dsimp only; omega, numR_le hr⟩
    · exact ⟨Int.le_refl 0, h0⟩
theorem row_neT {a b : Nat} {cs ds : Array Value} {t u : TypeId} {w : World} (h : RowAt a cs t w) (g : RowAt b ds u w) (ht : t ≠ u) : ¬ a = b := fun e => by
  subst e
  unfold RowAt at h g
  rw [h] at g
  simp at g
  exact ht g.2
theorem PxAt.keptC {pb xb cb : Nat} {v : Value} {bs : List UInt8} {s : PS} {cs : Array Value} {w w' : World} (h : PxAt pb xb v bs s w) (hr : RowAt cb cs 26 w) (hv : ∀ g o n c, v = .slice (some ⟨g, o, none⟩) n c → 0 < n → g ≠ cb) (k : Kept [cb] w w') : PxAt pb xb v bs s w' := by
  obtain ⟨n0, n1, n2, hx⟩ := h.xs
  refine ⟨h.row.kept k (by simpa using row_neT h.row hr (by decide)), ⟨n0, n1, n2, ⟨hx.at_.row.kept k (by simpa using row_neT hx.at_.row hr (by decide)), hx.at_.raw.keptX k (fun g o n c e h0 => by simpa using hv g o n c e h0), hx.at_.le, hx.at_.lim⟩, ?_, hx.ap⟩, h.ap⟩
  have hn := hx.no
  generalize s.st = st at hn
  match st, hn with
  | none, hn => exact hn
  | some (ca, p, c), ⟨g, g', e0, e1, e2, c1, c2⟩ => exact ⟨g, g', e0, e1, e2, c1.kept k (by simpa using row_neT c1 hr (by decide)), c2.kept k (by simpa using row_neT c2 hr (by decide))⟩
set_option maxHeartbeats 4000000 in
theorem clock_px {pb xb : Nat} {v : Value} {bs : List UInt8} {s : PS} {w : World} (h : PxAt pb xb v bs s w) :
    Calls Tryz.prog 19 #[.pointer (some ⟨pb, 0, none⟩)] w fun e w' => e = .returned (.agg (cv (s.clock bs).1)) ∧ PxAt pb xb v bs (s.clock bs).2 w' ∧ Kept [pb, xb] w w' ∧ (s.clock bs).1.length = 8 := by
  have hpb := h.row.lt
  have hxb : xb < w.heap.size := by
    obtain ⟨_, _, _, hx⟩ := h.xs
    exact hx.at_.row.lt
  have hvw : ∀ g o n c, v = .slice (some ⟨g, o, none⟩) n c → 0 < n → g < w.heap.size := fun g o n c e h0 => by
    obtain ⟨_, _, _, hx⟩ := h.xs
    rcases hx.at_.raw with ⟨rfl, a, c', e'⟩ | ⟨g', o', c', e', hg', _⟩
    · rw [e'] at e; cases e; simp at h0
    · rw [e'] at e; cases e; exact hg'
  have hfit := number_fit bs s 8 (by decide)
  have hb0 := bgo (below_one w (.cells (cv [0, 0, 0, 0, 0, 0, 0, 0]) 26)) (below_one _ (.cells (cv [0, 0, 0, 0, 0, 0, 0, 0]) 26))
  have hr : RowAt w.heap.size (cv [0, 0, 0, 0, 0, 0, 0, 0]) 26 ((w.alloc (.cells (cv [0, 0, 0, 0, 0, 0, 0, 0]) 26)).alloc (.cells (cv [0, 0, 0, 0, 0, 0, 0, 0]) 26)) := (RowAt.new w _ _).later (below_one _ _)
  have hc : RowAt (w.heap.size + 1) (cv [0, 0, 0, 0, 0, 0, 0, 0]) 26 ((w.alloc (.cells (cv [0, 0, 0, 0, 0, 0, 0, 0]) 26)).alloc (.cells (cv [0, 0, 0, 0, 0, 0, 0, 0]) 26)) := by
    have := RowAt.new (w.alloc (.cells (cv [0, 0, 0, 0, 0, 0, 0, 0]) 26)) (cv [0, 0, 0, 0, 0, 0, 0, 0]) 26
    simpa using this
  have HN := hid_of' (number_px (h.later hb0) 8)
  have HC : Hid (s.clock bs = PS.clk bs (s.number bs 8).1.toNat (s.number bs 8).1.toNat 0 [0, 0, 0, 0, 0, 0, 0, 0] (s.number bs 8).2) := rfl
  obtain ⟨N, hN⟩ : ∃ N : Nat, (s.number bs 8).1 = (N : Int) := ⟨(s.number bs 8).1.toNat, by omega⟩
  rw [hN, Int.toNat_natCast] at HC
  rw [hN] at HN hfit
  have hN8 : N ≤ 8 := by omega
  generalize (s.number bs 8).2 = s0 at HN HC
  have HR := hid_of' (And.intro hr (And.intro hc (And.intro hb0 (And.intro hpb hxb))))
  clear hr hc h hfit hN hb0 hpb hxb
  have e0 : cv [0, 0, 0, 0, 0, 0, 0, 0] = #[.int .i64 0, .int .i64 0, .int .i64 0, .int .i64 0, .int .i64 0, .int .i64 0, .int .i64 0, .int .i64 0] := rfl
  rw [e0] at HN HR
  clear e0
  go_enter Tryz.func19, Tryz.ntmps19
  go_upto_region 3 with (go_at_call 16; refine HN.out.mono ?_; rintro e w1 ⟨rfl, hp, hk⟩)
  have hnb : w.heap.size ∉ [pb, xb] := by have := HR.out.2.2.2; simp; omega
  have hnc : w.heap.size + 1 ∉ [pb, xb] := by have := HR.out.2.2.2; simp; omega
  have hr1 := HR.out.1.kept hk hnb
  have hc1 := HR.out.2.1.kept hk hnc
  have hk1 : Kept [pb, xb] w w1 := (Kept.of HR.out.2.2.1).trans hk
  have HNB := hid_of' (And.intro hnb hnc)
  have HV := hid_of' hvw
  clear hvw HN
  go_upto_region 4 with fail
  go_loopw [5] (fun iv wr => ∃ (i : Nat) (c : List Int) (s' : PS), iv = .int .i64 (i : Int) ∧ i ≤ N ∧ c.length = 8 ∧ RowAt w.heap.size (cv [0, 0, 0, 0, 0, 0, 0, 0]) 26 wr ∧ RowAt (w.heap.size + 1) (cv c) 26 wr ∧ PxAt pb xb v bs s' wr ∧ Kept [pb, xb] w wr ∧ Hid (PS.clk bs N (N - i) i c s' = PS.clk bs N N 0 [0, 0, 0, 0, 0, 0, 0, 0] s0)) (fun iv _ => N - (intOf iv).toNat)
  case atStart => exact ⟨0, [0, 0, 0, 0, 0, 0, 0, 0], s0, rfl, Nat.zero_le _, rfl, hr1, hc1, hp, hk1, rfl⟩
  case round =>
    clear hr1 hc1 hp hk1 hk
    obtain ⟨i, c, s', rfl, hi, hcl, hrr, hcr, hpr, hkr, he⟩ := hrel
    by_cases hlt : i < N
    · have hi1 : (i : Int) < (N : Int) := by omega
      have p0 := hpr.p0
      have x1 : wr.cell? ⟨xb, 1, none⟩ = some (.int .i64 (s'.pl : Int)) := by
        obtain ⟨_, _, _, hx⟩ := hpr.xs
        exact hx.at_.row.cell 1
      have HNu := hid_of' (number_px hpr 9223372036854775807)
      have HJ := hid_of' (And.intro hrr (And.intro hcr (And.intro hkr hcl)))
      have hst : Hid (PS.clk bs N (N - (i + 1)) (i + 1) (c.set i (s'.number bs 9223372036854775807).1) ((s'.number bs 9223372036854775807).2.form s'.pl (decide (i + 1 = N) && decide ((s'.number bs 9223372036854775807).1 = 0))) = PS.clk bs N N 0 [0, 0, 0, 0, 0, 0, 0, 0] s0) := by
        have e := he.out
        rw [show N - i = (N - (i + 1)) + 1 by omega] at e
        exact e
      clear hrr hcr hpr hkr he
      generalize s'.number bs 9223372036854775807 = zs at HNu hst
      obtain ⟨z, s1⟩ := zs
      dsimp only at HNu hst
      go_upto_region 7 with fail
      go_upto_region 8 with (go_at_call 16; refine HNu.out.mono ?_; rintro e w2 ⟨rfl, hp2, hk2⟩; have hc2 := HJ.out.2.1.kept hk2 HNB.out.2; have d2 : w2.cell? ⟨w.heap.size + 1, i, none⟩ = some (.int .i64 (en c i)) := (hc2.cell i).trans (cv_get (by omega)); have f2 : w2.frozen? ⟨w.heap.size + 1, i, none⟩ = false := frozenW_of hc2 i; have k8 : (i : Int) < 8 := by omega)
      have hcS : RowAt (w.heap.size + 1) (cv (c.set i z)) 26 (w2.setCell ⟨w.heap.size + 1, i, none⟩ (.int .i64 z)) := by
        have e := heap_setCell_at hc2 i (.int .i64 z)
        rw [cv_set] at e
        exact e
      have kS : Kept [w.heap.size + 1] w2 (w2.setCell ⟨w.heap.size + 1, i, none⟩ (.int .i64 z)) := (Kept.refl _ w2).set (p := ⟨w.heap.size + 1, i, none⟩) (.inl (by simp)) _
      have hpS := hp2.keptC hc2 (fun g o n c e h0 => by have := HV.out g o n c e h0; omega) kS
      have hrS := (HJ.out.1.kept hk2 HNB.out.1).kept kS (by simp)
      have hkS : Kept [pb, xb] w (w2.setCell ⟨w.heap.size + 1, i, none⟩ (.int .i64 z)) := (HJ.out.2.2.1.trans hk2).set (p := ⟨w.heap.size + 1, i, none⟩) (.inr (by simp)) _
      have d3 : (w2.setCell ⟨w.heap.size + 1, i, none⟩ (.int .i64 z)).cell? ⟨w.heap.size + 1, i, none⟩ = some (.int .i64 z) := (hcS.cell i).trans (by rw [cv_get (by rw [List.length_set, hcl]; omega)]; simp only [en, List.getD_eq_getElem?_getD]; rw [List.getElem?_set_self (by omega)]; rfl)
      generalize w2.setCell ⟨w.heap.size + 1, i, none⟩ (.int .i64 z) = w3 at hcS hpS hrS hkS d3 ⊢
      have HF := hid_of' (fun no => form_px hpS s'.pl no)
      have HS := hid_of' (And.intro hcS (And.intro hrS hkS))
      clear hcS hpS hrS hkS kS hc2 d2 f2 hp2 hk2 x1
      by_cases hlast : i + 1 = N
      · have hq : ((i : Int) == (N : Int) - 1) = true := by rw [beq_iff_eq]; omega
        by_cases hz0 : z = 0
        · have hzz : (z == 0) = true := by rw [beq_iff_eq]; exact hz0
          have HC' := hid_of' (HF.out true)
          go_upto_region 5 with (go_at_call 36; refine HC'.out.mono ?_; rintro e w4 ⟨rfl, hp4, hk4⟩)
          have hk4' : Kept [pb, xb] w3 w4 := hk4.mono (by simp)
          have HM := hid_of' (And.intro (HS.out.2.1.kept hk4' HNB.out.1) (And.intro (HS.out.1.kept hk4' HNB.out.2) (And.intro hp4 (HS.out.2.2.trans hk4'))))
          clear hp4 hk4 hk4'
          go_wp2
          go_roundw
          case rel => exact ⟨i + 1, c.set i z, s1.form s'.pl true, by go_num, by omega, by rw [List.length_set]; exact HJ.out.2.2.2, HM.out.1, HM.out.2.1, HM.out.2.2.1, HM.out.2.2.2, by have e := hst.out; rw [show (decide (i + 1 = N) && decide (z = 0)) = true by simp [hlast, hz0]] at e; exact e⟩
          case measure => simp [intOf]; omega
        · have hzz : (z == 0) = false := by rw [beq_eq_false_iff_ne]; exact hz0
          have HC' := hid_of' (HF.out false)
          go_upto_region 5 with (go_at_call 36; refine HC'.out.mono ?_; rintro e w4 ⟨rfl, hp4, hk4⟩)
          have hk4' : Kept [pb, xb] w3 w4 := hk4.mono (by simp)
          have HM := hid_of' (And.intro (HS.out.2.1.kept hk4' HNB.out.1) (And.intro (HS.out.1.kept hk4' HNB.out.2) (And.intro hp4 (HS.out.2.2.trans hk4'))))
          clear hp4 hk4 hk4'
          go_wp2
          go_roundw
          case rel => exact ⟨i + 1, c.set i z, s1.form s'.pl false, by go_num, by omega, by rw [List.length_set]; exact HJ.out.2.2.2, HM.out.1, HM.out.2.1, HM.out.2.2.1, HM.out.2.2.2, by have e := hst.out; rw [show (decide (i + 1 = N) && decide (z = 0)) = false by simp [hz0]] at e; exact e⟩
          case measure => simp [intOf]; omega
      · have hq : ((i : Int) == (N : Int) - 1) = false := by rw [beq_eq_false_iff_ne]; omega
        have HC' := hid_of' (HF.out false)
        go_upto_region 5 with (go_at_call 36; refine HC'.out.mono ?_; rintro e w4 ⟨rfl, hp4, hk4⟩)
        have hk4' : Kept [pb, xb] w3 w4 := hk4.mono (by simp)
        have HM := hid_of' (And.intro (HS.out.2.1.kept hk4' HNB.out.1) (And.intro (HS.out.1.kept hk4' HNB.out.2) (And.intro hp4 (HS.out.2.2.trans hk4'))))
        clear hp4 hk4 hk4'
        go_wp2
        go_roundw
        case rel => exact ⟨i + 1, c.set i z, s1.form s'.pl false, by go_num, by omega, by rw [List.length_set]; exact HJ.out.2.2.2, HM.out.1, HM.out.2.1, HM.out.2.2.1, HM.out.2.2.2, by have e := hst.out; rw [show (decide (i + 1 = N) && decide (z = 0)) = false by simp [hlast]] at e; exact e⟩
        case measure => simp [intOf]; omega
    · have hi1 : ¬ (i : Int) < (N : Int) := by omega
      have hres : s.clock bs = (c, s') := by
        have e := he.out
        rw [show N - i = 0 by omega] at e
        rw [HC.out, ← e]
        rfl
      have hrow : RowAt w.heap.size (cv c) 26 (wr.setRow w.heap.size (cv c)) := setRow_heap wr _ _ _ _ _ hrr
      have kR : Kept [w.heap.size] wr (wr.setRow w.heap.size (cv c)) := ⟨rfl, rfl, rfl, by simp, fun k _ hn => setRow_other wr _ k _ (by simpa using hn)⟩
      have hpR := hpr.keptC hrr (fun g o n c e h0 => by have := HV.out g o n c e h0; omega) kR
      have hkR : Kept [pb, xb] w (wr.setRow w.heap.size (cv c)) := hkr.go kR (fun s hs => .inr (by simp at hs; omega))
      have HE := hid_of' (And.intro hpR (And.intro hkR hres))
      clear hpr hkr hres hpR hkR kR he
      go_wp2_with (first | (refine wpL_ld rfl 26 _ rfl rfl hcr.in Tryz.underlying26 rfl (ck_size hcl) ?_) | (refine wpList_store_row rfl 26 _ _ rfl w.heap.size (cv c) rfl rfl _ _ hrr (ck_size hcl) (by rw [cv_size, cv_size, hcl]; rfl) (cv_one c) ?_))
      refine bodyPost_ret (v := .agg (cv c)) (results_cell_row rfl _ _ w.heap.size _ _ _ _ rfl hrow Tryz.underlying26 rfl (ck_size hcl)) rfl ?_
      rw [HE.out.2.2]
      exact ⟨rfl, HE.out.1, HE.out.2.1, hcl⟩
end Go.Proofs.YtpkblfhkblllhaaGreatDoor
namespace Go.Proofs.YtpkblfhkblllhaaGreatDoor
open Go.RowKit
set_option maxRecDepth 100000

theorem PxAt.keptA {pb xb cb : Nat} {v : Value} {bs : List UInt8} {s : PS} {cs : Array Value} {w w' : World} (h : PxAt pb xb v bs s w) (hr : RowAt cb cs 76 w) (hv : ∀ g o n c, v = .slice (some ⟨g, o, none⟩) n c → 0 < n → g ≠ cb) (k : Kept [cb] w w') : PxAt pb xb v bs s w' := by
  obtain ⟨n0, n1, n2, hx⟩ := h.xs
  refine ⟨h.row.kept k (by simpa using row_neT h.row hr (by decide)), ⟨n0, n1, n2, ⟨hx.at_.row.kept k (by simpa using row_neT hx.at_.row hr (by decide)), hx.at_.raw.keptX k (fun g o n c e h0 => by simpa using hv g o n c e h0), hx.at_.le, hx.at_.lim⟩, ?_, hx.ap⟩, h.ap⟩
  have hn := hx.no
  generalize s.st = st at hn
  match st, hn with
  | none, hn => exact hn
  | some (ca, p, c), ⟨g, g', e0, e1, e2, c1, c2⟩ => exact ⟨g, g', e0, e1, e2, c1.kept k (by simpa using row_neT c1 hr (by decide)), c2.kept k (by simpa using row_neT c2 hr (by decide))⟩
/-- One act, read. -/
def PS.act (bs : List UInt8) (s : PS) : Pac × PS :=
  let k := s.byte bs 1 3
  let r := k.2.number bs 7
  let a := r.2.number bs 9223372036854775807
  let c : Int × PS := if k.1 = 1 then a.2.number bs 1114111 else (0, a.2)
  let n := c.2.number bs 9223372036854775807
  let f := n.2.form c.2.pl (decide (n.1 = 0))
  let q := f.clock bs
  (((k.1, r.1, a.1, c.1), n.1, q.1), q.2)
def PS.acts (bs : List UInt8) : Nat → PS → List Pac × PS
  | 0, s => ([], s)
  | m + 1, s => if s.bad then ([], s) else ((s.act bs).1 :: (PS.acts bs m (s.act bs).2).1, (PS.acts bs m (s.act bs).2).2)
def acsl (l : List Pac) : List Value := (l.map acl).flatten
/-- The Reader, the act that is being read, and the acts ahead of it. -/
structure AcB (W : World) (pb xb xa : Nat) (v : Value) (bs : List UInt8) (row : Value) (l : List Pac) (s : PS) (cs : Array Value) (w : World) : Prop where
  px : PxAt pb xb v bs s w
  x : RowAt xa cs 76 w
  r : Rw 76 13 row l.length (acsl l) w
  k : Kept [pb, xb] W w
  ne : ∀ g, row.ownBlock = some g → ¬ g = xa
  xw : W.heap.size ≤ xa
  ow : ∀ g, row.ownBlock = some g → W.heap.size ≤ g
  hp : pb < W.heap.size ∧ xb < W.heap.size
  hv : ∀ g o n c, v = .slice (some ⟨g, o, none⟩) n c → 0 < n → g < W.heap.size
section
variable {W w w' : World} {pb xb xa : Nat} {v row : Value} {bs : List UInt8} {l : List Pac} {s s' : PS} {cs : Array Value}
theorem kept_chA (k : Kept [pb, xb] w w') : Ch (fun g => g = pb ∨ g = xb) w w' := ⟨k.os, k.tape, k.output, k.size, fun g hg hn => k.block g hg (by simpa using hn)⟩
theorem AcB.call (h : AcB W pb xb xa v bs row l s cs w) (hp : PxAt pb xb v bs s' w') (hk : Kept [pb, xb] w w') : AcB W pb xb xa v bs row l s' cs w' :=
  ⟨hp, h.x.kept hk (by have := h.hp; have := h.xw; simp; omega), h.r.ch (kept_chA hk) (fun g hg e => by have := h.ow g hg; have := h.hp; omega), h.k.trans hk, h.ne, h.xw, h.ow, h.hp, h.hv⟩
theorem AcB.kept (h : AcB W pb xb xa v bs row l s cs w) {ds : Array Value} (hx : RowAt xa ds 76 w') (k : Kept [xa] w w') : AcB W pb xb xa v bs row l s ds w' :=
  ⟨h.px.keptA h.x (fun g o n c e h0 => by have := h.hv g o n c e h0; have := h.xw; omega) k, hx, h.r.ch (S := fun g => g = xa) ⟨k.os, k.tape, k.output, k.size, fun g hg hn => k.block g hg (by simpa using hn)⟩ (fun g hg => h.ne g hg), h.k.go k (fun g hg => .inr (by have := h.xw; simp at hg; omega)), h.ne, h.xw, h.ow, h.hp, h.hv⟩
theorem AcB.set (h : AcB W pb xb xa v bs row l s cs w) (j : Nat) (x : Value) : AcB W pb xb xa v bs row l s (cs.setIfInBounds j x) (w.setCell ⟨xa, j, none⟩ x) :=
  h.kept (heap_setCell_at h.x j x) ((Kept.refl _ w).set (p := ⟨xa, j, none⟩) (.inl (by simp)) x)
theorem AcB.at (h : AcB W pb xb xa v bs row l s cs w) (j : Nat) : w.cell? ⟨xa, j, none⟩ = cs[j]? ∧ w.frozen? ⟨xa, j, none⟩ = false := ⟨h.x.cell j, frozenW_of h.x j⟩
theorem AcB.pl (h : AcB W pb xb xa v bs row l s cs w) : w.cell? ⟨pb, 0, none⟩ = some (.pointer (some ⟨xb, 0, none⟩)) ∧ w.cell? ⟨xb, 1, none⟩ = some (.int .i64 (s.pl : Int)) := by
  obtain ⟨_, _, _, hx⟩ := h.px.xs
  exact ⟨h.px.p0, hx.at_.row.cell 1⟩
theorem acsl_app (l : List Pac) (a : Pac) : acsl (l ++ [a]) = acsl l ++ acl a := by simp [acsl]
theorem acts_go (bs : List UInt8) (m : Nat) (l : List Pac) (s : PS) (hb : s.bad = false) : l ++ (PS.acts bs (m + 1) s).1 = (l ++ [(s.act bs).1]) ++ (PS.acts bs m (s.act bs).2).1 := by
  simp [PS.acts, hb]
end
end Go.Proofs.YtpkblfhkblllhaaGreatDoor
namespace Go.Proofs.YtpkblfhkblllhaaGreatDoor
open Go.RowKit
set_option maxRecDepth 100000

def acZ : Pac := ((0, 0, 0, 0), 0, [0, 0, 0, 0, 0, 0, 0, 0])
theorem act_there {b o n : Nat} {cs : Array Value} {t : TypeId} {w : World} (h : RowAt b cs t w) (hs : o + n ≤ cs.size) : w.there b o n := fun j hj => ⟨by rw [h.cell, Array.getElem?_eq_getElem (by omega)]; rfl, frozenW_of h _⟩
theorem act_put (a : Pac) (h : a.2.2.length = 8) : putA #[.int .i64 a.1.1, .int .i64 a.1.2.2.1, .int .i32 a.1.2.2.2, .int .i64 a.1.2.1, .int .i64 a.2.1, .int .i64 0, .int .i64 0, .int .i64 0, .int .i64 0, .int .i64 0, .int .i64 0, .int .i64 0, .int .i64 0] 5 (cv a.2.2).toList = acv a := by
  have := putA_list (a.2.2.map (Value.int .i64)) [.int .i64 0, .int .i64 0, .int .i64 0, .int .i64 0, .int .i64 0, .int .i64 0, .int .i64 0, .int .i64 0] [.int .i64 a.1.1, .int .i64 a.1.2.2.1, .int .i32 a.1.2.2.2, .int .i64 a.1.2.1, .int .i64 a.2.1] [] (by simp [h])
  simpa [cv, acv, acl] using this
theorem fill_act (p : Pac) (hp : p.2.2.length = 8) : Instr.fill (fun i => some (i * ((Tryz.prog.info? 76).get (by kernel_rfl)).size, ((Tryz.prog.info? 76).get (by kernel_rfl)).size)) ((Array.range (1 * ((Tryz.prog.info? 76).get (by kernel_rfl)).size)).map ((Value.agg (acv acZ)).cells[· % (Value.agg (acv acZ)).cells.size]!)) [(0, .agg (acv p))] = some (acv p) := by
  obtain ⟨⟨k, r, t, c⟩, n, ck⟩ := p
  have h8 : ck.length = 8 := hp
  clear hp
  match ck, h8 with
  | [a1, a2, a3, a4, a5, a6, a7, a8], _ =>
    show _ = _
    kernel_rfl
/-- A slice of one act. -/
theorem wpL_oneA {ops : Array Oper} {rest : List Oper} {o : Oper} {A : Act} {w : World} {Q : Exit → Act → World → Prop} (hgd : o.guard = none) (x : Operand) (ho : o.op = .buildSlice 27 1 #[(0, x)]) {p : Pac} (hx : A.eval x = .agg (acv p)) (hp : p.2.2.length = 8)
    (k : wpList Tryz.prog ops Q rest (A.put o.dst (.slice (some ⟨w.heap.size, 0, none⟩) 1 1)) (w.alloc (.cells (acv p) 76))) : wpList Tryz.prog ops Q (o :: rest) A w := by
  have hs : (Tryz.prog.info? 76).isSome = true := by kernel_rfl
  have sz : ((Tryz.prog.info? 76).get hs).size = 13 := by kernel_rfl
  have e : ((#[(0, x)] : Array (Nat × Operand)).map fun (i, x) => (i, A.eval x)).toList = [(0, .agg (acv p))] := by
    simp only [List.map_toArray, List.map_cons, List.map_nil, hx]
  exact wpList_buildSlice hgd _ 76 1 _ ho (acv p) ((Tryz.prog.info? 76).get hs) (.agg (acv acZ)) (by kernel_rfl) (Option.some_get hs).symm (by kernel_rfl) (by rw [sz]; decide) (by rw [sz]; decide) (by rw [e]; exact fill_act p hp) k
theorem so_act (w : World) (p : Pac) (hp : p.2.2.length = 8) : So 13 (.slice (some ⟨w.heap.size, 0, none⟩) 1 1) 1 (acl p) (w.alloc (.cells (acv p) 76)) :=
  ⟨by rw [acl_len hp], .inr ⟨_, _, rfl, fun j u hj => by
    rw [Addr.add_lit, Nat.zero_add, (RowAt.new w (acv p) 76).cell]
    simpa [acv] using hj⟩⟩
theorem PxAt.app {pb xb n : Nat} {v row : Value} {bs : List UInt8} {s : PS} {xs : List Value} {w w' : World} (h : PxAt pb xb v bs s w) (hr : Rw 76 13 row n xs w) (hg : w.grownBy w' row.ownBlock) (hv : ∀ k, row.ownBlock = some k → ∀ g o n c, v = .slice (some ⟨g, o, none⟩) n c → 0 < n → g ≠ k) : PxAt pb xb v bs s w' := by
  rcases hr.2 with ⟨rfl, _⟩ | ⟨g, cap, cur, rfl, hgw, _⟩
  · exact h.later ⟨hg.os, hg.tape, hg.output, hg.size, fun k hk => hg.block k hk (by simp [Value.ownBlock])⟩
  · exact h.keptA hgw (hv g rfl) ⟨hg.os, hg.tape, hg.output, hg.size, fun k hk hn => hg.block k hk (fun e => hn (by simp [Value.ownBlock] at e; simp [e]))⟩
theorem info_actQ : (Tryz.prog.info? 76).map (fun i => (i.zero, i.size, i.bytes)) = some (some (.agg (acv acZ)), 13, 104) := by kernel_rfl
end Go.Proofs.YtpkblfhkblllhaaGreatDoor
