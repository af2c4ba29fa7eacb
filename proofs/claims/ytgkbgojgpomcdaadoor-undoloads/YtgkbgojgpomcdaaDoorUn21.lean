
/-
  barrowlaw14.does: Done, Undo, Redo, Clear, same.
-/
import Derived.Test.YtgkbgojgpomcdaaDoorUn20
namespace Go.Proofs.YtgkbgojgpomcdaaDoor
open Go.RowKit Go.Extern.Stop Go.Stop Go.Extern
set_option maxRecDepth 100000

/-- n taken into 0 to m - 1. -/
def wiN (n : Int) (m : Nat) : Nat := if n.tmod (m : Int) < 0 then (n.tmod (m : Int) + m).toNat else (n.tmod (m : Int)).toNat
theorem wiN_lt {n : Int} {m : Nat} (hm : 0 < m) : wiN n m < m := by
  have t1 : n.tmod (m : Int) < (m : Int) := Int.tmod_lt_of_pos n (by omega)
  unfold wiN
  split <;> omega
theorem within_is (n : Int) (m : Nat) (w : World) (hm : 0 < m) (hm2 : m ≤ 1073741824) (_h : -9223372036854775808 ≤ n ∧ n ≤ 9223372036854775807) :
    Calls Tryd.prog 31 #[.int .i64 n, .int .i64 (m : Int)] w fun r w' => r = .returned (.int .i64 (wiN n m : Int)) ∧ w' = w := by
  obtain ⟨_h1, _h2⟩ := _h
  have m0 : ((m : Int) == 0) = false := by rw [beq_eq_false_iff_ne]; omega
  have t1 : n.tmod (m : Int) < (m : Int) := Int.tmod_lt_of_pos n (by omega)
  have t2 : -(m : Int) < n.tmod (m : Int) := by
    have := Int.tmod_lt_of_pos (-n) (show (0 : Int) < (m : Int) by omega)
    rw [Int.neg_tmod] at this
    omega
  unfold wiN
  obtain ⟨t, et⟩ : ∃ t, n.tmod (m : Int) = t := ⟨_, rfl⟩
  rw [et] at t1 t2 ⊢
  by_cases ht : t < 0
  · rw [if_pos ht, Int.toNat_of_nonneg (by omega)]
    go_enter Tryd.func31, Tryd.ntmps31
    go_wp2
    go_ret
    exact ⟨rfl, rfl⟩
  · rw [if_neg ht, Int.toNat_of_nonneg (by omega)]
    go_enter Tryd.func31, Tryd.ntmps31
    go_wp2
    go_ret
    exact ⟨rfl, rfl⟩
/-- What a call leaves. -/
def DoQ (N P Bs Br : Nat) (w : World) (e : Ending) (w' : World) : Prop := e = .returned (.bool true) ∧ (∃ d u vd vu vd' vu' F F', PrAt N P Bs Br d u vd vu vd' vu' F F' w') ∧ Below N w w'
theorem PrAt.size {N P Bs Br : Nat} {d u : List (List Xg)} {vd vu vd' vu' : Value} {F F' : Nat → Prop} {w : World} (h : PrAt N P Bs Br d u vd vu vd' vu' F F' w) : N ≤ w.heap.size := by
  have := h.nP
  have := h.lies.lt
  omega
/-- The document's has changed too. -/
theorem PrAt.goR {N P Bs Br : Nat} {d u d1 u1 : List (List Xg)} {vd' vu' vd1 vu1 vd2 vu2 : Value} {F' F1 F2 : Nat → Prop} {w w' : World} (hl : RowAt P #[.pointer (some ⟨Bs, 0, none⟩), .pointer (some ⟨Br, 0, none⟩)] 31 w) (hs : SkAt 68 Bs vd1 vu1 F1 d1 u1 w) (_hr : SkAt 29 Br vd' vu' F' d u w) (hdis : ∀ k, F1 k → ¬ F' k) (hp1 : ¬ F1 P) (hp' : ¬ F' P) (hnP : N ≤ P) (hn1 : ∀ k, F1 k → N ≤ k) (hn' : ∀ k, F' k → N ≤ k)
    (hr2 : SkAt 29 Br vd2 vu2 F2 d1 u1 w') (c : Ch F' w w') (hf : ∀ k, F2 k → F' k ∨ w.heap.size ≤ k) : PrAt N P Bs Br d1 u1 vd1 vu1 vd2 vu2 F1 F2 w' := by
  have hPl := hl.lt
  refine ⟨hl.ch c hp', hs.ch c (fun k hk q => hdis k hk q), hr2, fun k hk hk' => ?_, hp1, fun hk => ?_, hnP, hn1, fun k hk => ?_⟩
  · rcases hf k hk' with q | q
    · exact hdis k hk q
    · have := hs.lt k hk; omega
  · rcases hf P hk with q | q
    · exact hp' q
    · omega
  · rcases hf k hk with q | q
    · exact hn' k q
    · omega
set_option maxHeartbeats 4000000 in
theorem does_same {N P Bs Br : Nat} {d u : List (List Xg)} {vd vu vd' vu' : Value} {F F' : Nat → Prop} {w : World} {vL : Value} {lL : List Xg} (h : PrAt N P Bs Br d u vd vu vd' vu' F F' w) (dd : Int) (hdd : -9223372036854775808 ≤ dd ∧ dd ≤ 9223372036854775807) (rd : Bool) {ad : Nat → Addr} (_hLa : ∀ x, Below N w x → Laid ad x) (hL : ∀ x, Below N w x → SlD x vL lL) (hcap : ∀ a n c, vL = .slice a n c → n ≤ c) (hm : wiN dd 6 = 5) :
    Calls Tryd.prog 10 #[.pointer (some ⟨P, 0, none⟩), .agg #[.int .i64 dd, .bool rd, vL]] w fun e w' => DoQ N P Bs Br w e w' := by
  have HWi := hid_of' (fun x => within_is dd 6 x (by decide) (by decide) hdd)
  rw [hm, show ((6 : Nat) : Int) = 6 from rfl, show ((5 : Nat) : Int) = 5 from rfl] at HWi
  obtain ⟨aL, cL, hvL⟩ := (hL w (Below.refl _ _)).form
  have HL := hid_of' (And.intro hL hcap)
  generalize lL.length = nL at hvL
  subst hvL
  have r0 := row_new w (#[.int .i64 dd, .bool rd, .slice aL nL cL]) 35
  have b0 := below_one w (.cells (#[.int .i64 dd, .bool rd, .slice aL nL cL]) 35)
  have HK := hid_of' h
  clear h hL hcap hm hdd
  go_enter Tryd.func10, Tryd.ntmps10
  go_upto_region 1 with fail
  change Code.wp _ _ _ _ (w.alloc (.cells (#[.int .i64 dd, .bool rd, .slice aL nL cL]) 35))
  generalize w.alloc (.cells (#[.int .i64 dd, .bool rd, .slice aL nL cL]) 35) = X0 at r0 b0 ⊢
  generalize hob : w.heap.size = ob at r0 ⊢
  have c0 := r0.cellIs 0 rfl
  have c1 := r0.cellIs 1 rfl
  have c2 := r0.cellIs 2 rfl
  have HS := hid_of' (same_ok (HK.out.later b0))
  go_wp2_with (first | (go_at_call 31; (with_reducible refine (HWi.out _).mono ?_); rintro e w1 ⟨rfl, h0⟩; obtain rfl := h0.symm) | (go_at_call 12; (with_reducible refine HS.out.mono ?_); rintro e w2 ⟨rfl, hb2⟩; clear HS))
  go_ret
  exact ⟨rfl, ⟨_, _, _, _, _, _, _, _, HK.out.later (bgo b0 hb2)⟩, (bgo b0 hb2).mono HK.out.size⟩
set_option maxHeartbeats 4000000 in
theorem does_clear {N P Bs Br : Nat} {d u : List (List Xg)} {vd vu vd' vu' : Value} {F F' : Nat → Prop} {w : World} {vL : Value} {lL : List Xg} (h : PrAt N P Bs Br d u vd vu vd' vu' F F' w) (dd : Int) (hdd : -9223372036854775808 ≤ dd ∧ dd ≤ 9223372036854775807) (rd : Bool) {ad : Nat → Addr} (_hLa : ∀ x, Below N w x → Laid ad x) (hL : ∀ x, Below N w x → SlD x vL lL) (hcap : ∀ a n c, vL = .slice a n c → n ≤ c) (hm : wiN dd 6 = 4) :
    Calls Tryd.prog 10 #[.pointer (some ⟨P, 0, none⟩), .agg #[.int .i64 dd, .bool rd, vL]] w fun e w' => DoQ N P Bs Br w e w' := by
  have HWi := hid_of' (fun x => within_is dd 6 x (by decide) (by decide) hdd)
  rw [hm, show ((6 : Nat) : Int) = 6 from rfl, show ((4 : Nat) : Int) = 4 from rfl] at HWi
  obtain ⟨aL, cL, hvL⟩ := (hL w (Below.refl _ _)).form
  have HL := hid_of' (And.intro hL hcap)
  generalize lL.length = nL at hvL
  subst hvL
  have r0 := row_new w (#[.int .i64 dd, .bool rd, .slice aL nL cL]) 35
  have b0 := below_one w (.cells (#[.int .i64 dd, .bool rd, .slice aL nL cL]) 35)
  have HK := hid_of' h
  clear h hL hcap hm hdd
  go_enter Tryd.func10, Tryd.ntmps10
  go_upto_region 1 with fail
  change Code.wp _ _ _ _ (w.alloc (.cells (#[.int .i64 dd, .bool rd, .slice aL nL cL]) 35))
  generalize w.alloc (.cells (#[.int .i64 dd, .bool rd, .slice aL nL cL]) 35) = X0 at r0 b0 ⊢
  generalize hob : w.heap.size = ob at r0 ⊢
  have c0 := r0.cellIs 0 rfl
  have c1 := r0.cellIs 1 rfl
  have c2 := r0.cellIs 2 rfl
  have h := HK.out.later b0
  have p0 : X0.cell? ⟨P, 0, none⟩ = some (.pointer (some ⟨Bs, 0, none⟩)) := h.lies.cellIs 0 rfl
  have HC := hid_of' (clear_is h.s)
  have H := hid_of' h
  clear h
  go_upto_region 22 with (first | (go_at_call 31; (with_reducible refine (HWi.out _).mono ?_); rintro e w1 ⟨rfl, h0⟩; obtain rfl := h0.symm) | (go_at_call 37; (with_reducible refine HC.out.mono ?_); rintro e w2 ⟨⟨z, rfl⟩, hk2, hc2⟩; clear HC))
  obtain ⟨g1, g2, g3, g4, g5⟩ := H.out.goS hk2 hc2 (fun k hk => .inl hk)
  have p1 : w2.cell? ⟨P, 1, none⟩ = some (.pointer (some ⟨Br, 0, none⟩)) := g1.cellIs 1 rfl
  have q0 := g2.lies.cellIs 0 rfl
  have f0 := g2.lies.froz 0
  have r1 := g2.lies.setc 0 (.slice none 0 0)
  have p1' : (w2.setCell ⟨Br, 0, none⟩ (.slice none 0 0)).cell? ⟨P, 1, none⟩ = some (.pointer (some ⟨Br, 0, none⟩)) := (g1.ch ((Ch.refl F' w2).set (p := ⟨Br, 0, none⟩) (.inl g2.fB) _) H.out.pF').cellIs 1 rfl
  have q1 := r1.cellIs 1 rfl
  have f1 := r1.froz 1
  have r2 := r1.setc 1 (.slice none 0 0)
  have cR : Ch F' w2 ((w2.setCell ⟨Br, 0, none⟩ (.slice none 0 0)).setCell ⟨Br, 1, none⟩ (.slice none 0 0)) := ((Ch.refl F' w2).set (p := ⟨Br, 0, none⟩) (.inl g2.fB) _).set (p := ⟨Br, 1, none⟩) (.inl g2.fB) _
  have hr2 : SkAt 29 Br (.slice none 0 0) (.slice none 0 0) F' [] [] ((w2.setCell ⟨Br, 0, none⟩ (.slice none 0 0)).setCell ⟨Br, 1, none⟩ (.slice none 0 0)) := ⟨r2, ERow.nil _ _, ERow.nil _ _, fun k hk => (by cases hk), by simp, by simp, g2.fB, fun k hk => (by cases hk), fun k hk => (by cases hk), fun k hk => Nat.lt_of_lt_of_le (g2.lt k hk) cR.size⟩
  have hP := PrAt.goR g1 hk2 g2 g3 g4 H.out.pF' H.out.nP g5 H.out.nF' hr2 cR (fun k hk => .inl hk)
  have hbN : Below N w ((w2.setCell ⟨Br, 0, none⟩ (.slice none 0 0)).setCell ⟨Br, 1, none⟩ (.slice none 0 0)) := by
    have a1 : Below N w X0 := b0.mono HK.out.size
    have a2 := hc2.below (n := N) (fun s hs q => by have := H.out.nF s q; omega) H.out.size
    have a3 := cR.below (n := N) (fun s hs q => by have := H.out.nF' s q; omega) (Nat.le_trans H.out.size hc2.size)
    exact (a1.trans a2).trans a3
  have HZ := hid_of' (And.intro hP hbN)
  clear hk2 hc2 g1 g2 g3 g4 g5 r1 r2 cR hr2 hP hbN
  go_wp2
  go_ret
  exact ⟨rfl, ⟨_, _, _, _, _, _, _, _, HZ.out.1⟩, HZ.out.2⟩
end Go.Proofs.YtgkbgojgpomcdaaDoor
