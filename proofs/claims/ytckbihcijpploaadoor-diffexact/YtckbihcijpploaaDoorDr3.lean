
/-
  barrowref15.read.
-/
import Derived.Test.YtckbihcijpploaaDoorDl1
import Derived.Test.YtckbihcijpploaaDoorDfNo
namespace Go.Proofs.YtckbihcijpploaaDoor
open Go.RowKit Go.Extern.Stop Go.Stop Go.Extern
set_option maxRecDepth 100000

theorem results_ttNo {fn : Func} {s t u : Tmp} {tmps : Array Value} {w : World} {g' : Nat} {cs : Array Value} (h : fn.results = #[.tmp s, .tmp t, .cell u 30]) (hu : tmps.getD u undef = .pointer (some ⟨g', 0, none⟩)) (hg' : RowAt g' cs 30 w) (hs : cs.size = 3) :
    (results fn tmps).run Tryd.prog w = .ok (.tuple #[tmps.getD s undef, tmps.getD t undef, .agg cs]) w := by
  have hu' : tmps[u]?.getD undef = .pointer (some ⟨g', 0, none⟩) := by simpa using hu
  have hi : (Tryd.prog.info? 30).map (·.size) = some cs.size := by rw [hs]; exact no_size
  simp [results, h, hu', asAddr, run_loadVar_row w g' _ _ _ _ _ hg' Tryd.underlying30 rfl hi]
set_option maxHeartbeats 4000000 in
theorem read_a (w : World) (c a b : ByteArray) (ha : a.size ≤ 120) (_hb : b.size ≤ 120) (hv : Lib.validD a.data.toList = false) :
    Calls Tryd.prog 29 #[.string c, .string a, .string b] w fun e w' => ∃ v, e = .returned (.tuple #[.slice none 0 0, .slice none 0 0, v]) ∧ NoR w.heap.size (some (c, 0, 2)) v w' ∧ Below w.heap.size w w' := by
  have HRa := hid_of' (fun x => runes_no x a (small9 ha) hv)
  have hY := fun x => say_is c 0 2 x
  rw [show (((2 : Nat) : Int) + 1) = 3 from rfl] at hY
  have HY := hid_of' hY
  clear hY
  have r0 := RowAt.new w (nov 0 none 0 0 none 0 0) 30
  have b0 := below_one w (.cells (nov 0 none 0 0 none 0 0) 30)
  go_enter Tryd.func29, Tryd.ntmps29
  go_upto_region 1 with fail
  change Code.wp _ _ _ _ (w.alloc (.cells (nov 0 none 0 0 none 0 0) 30))
  generalize w.alloc (.cells (nov 0 none 0 0 none 0 0) 30) = X0 at r0 b0 ⊢
  go_upto_region 3 with (go_at_call 25; refine (HRa.out _).mono ?_; rintro e w1 ⟨rfl, b1⟩)
  have HX := hid_of' (And.intro (r0.later b1) (bgo b0 b1))
  have hr0 := r0.lt
  go_wp2_with (first | (go_at_call 45; refine (HY.out _).mono ?_; rintro e w4 ⟨v4, rfl, hn4, hb4⟩; clear HY; have hn9 := hid_of' (And.intro hn4 hb4); obtain ⟨g4, g4', rfl, _⟩ := hn4; clear hb4) | (refine wpL_storeNo rfl _ _ rfl rfl rfl (HX.out.1.later hn9.out.2) ?_))
  have k4 := Ch.row (S := fun k => k = w.heap.size) (Ch.refl _ w4) (.inl rfl) (nov (((2 : Nat) : Int) + 1) (some ⟨g4', 0, none⟩) 1 1 (some ⟨g4, 0, none⟩) 1 1)
  have hw1 : w.heap.size + 1 ≤ w1.heap.size := by have := HX.out.1.lt; omega
  have hn6 : NoR w.heap.size (some (c, 0, 2)) (.agg (nov (((2 : Nat) : Int) + 1) (some ⟨g4', 0, none⟩) 1 1 (some ⟨g4, 0, none⟩) 1 1)) (w4.setRow w.heap.size (nov (((2 : Nat) : Int) + 1) (some ⟨g4', 0, none⟩) 1 1 (some ⟨g4, 0, none⟩) 1 1)) := by
    obtain ⟨x, x', e1, e2, e3, e4, e5⟩ := hn9.out.1
    exact ⟨x, x', e1, by omega, by omega, e4.ch k4 (fun e => by have e' : x' = w.heap.size := e; omega), e5.ch k4 (fun e => by have e' : x = w.heap.size := e; omega)⟩
  exact bodyPost_ret (v := .tuple #[.slice none 0 0, .slice none 0 0, .agg (nov (((2 : Nat) : Int) + 1) (some ⟨g4', 0, none⟩) 1 1 (some ⟨g4, 0, none⟩) 1 1)]) (results_ttNo (fn := Tryd.f29) (s := 6) (t := 7) (u := 8) rfl rfl ((HX.out.1.later hn9.out.2).put (nov (((2 : Nat) : Int) + 1) (some ⟨g4', 0, none⟩) 1 1 (some ⟨g4, 0, none⟩) 1 1)) rfl) rfl ⟨_, rfl, hn6, below_row (bgo HX.out.2 hn9.out.2) (Nat.le_refl _) _⟩
set_option maxHeartbeats 4000000 in
theorem read_b (w : World) (c a b : ByteArray) (ha : a.size ≤ 120) (hb : b.size ≤ 120) (hv : Lib.validD a.data.toList = true) (hu : Lib.validD b.data.toList = false) :
    Calls Tryd.prog 29 #[.string c, .string a, .string b] w fun e w' => ∃ v, e = .returned (.tuple #[.slice none 0 0, .slice none 0 0, v]) ∧ NoR w.heap.size (some (c, 1, 2)) v w' ∧ Below w.heap.size w w' := by
  have HRa := hid_of' (fun x => runes_ok x a (small9 ha) hv)
  have HRb := hid_of' (fun x => runes_no x b (small9 hb) hu)
  have hY := fun x => say_is c 1 2 x
  rw [show (((2 : Nat) : Int) + 1) = 3 from rfl] at hY
  have HY := hid_of' hY
  clear hY
  have r0 := RowAt.new w (nov 0 none 0 0 none 0 0) 30
  have b0 := below_one w (.cells (nov 0 none 0 0 none 0 0) 30)
  go_enter Tryd.func29, Tryd.ntmps29
  go_upto_region 1 with fail
  change Code.wp _ _ _ _ (w.alloc (.cells (nov 0 none 0 0 none 0 0) 30))
  generalize w.alloc (.cells (nov 0 none 0 0 none 0 0) 30) = X0 at r0 b0 ⊢
  go_upto_region 4 with (go_at_call 25; refine (HRa.out _).mono ?_; rintro e x1 ⟨v1, rfl, _, _, p1⟩)
  go_upto_region 6 with (go_at_call 25; refine (HRb.out _).mono ?_; rintro e w1 ⟨rfl, p2⟩; have b1 := bgo p1 p2)
  have HX := hid_of' (And.intro (r0.later b1) (bgo b0 b1))
  have hr0 := r0.lt
  go_wp2_with (first | (go_at_call 45; refine (HY.out _).mono ?_; rintro e w4 ⟨v4, rfl, hn4, hb4⟩; clear HY; have hn9 := hid_of' (And.intro hn4 hb4); obtain ⟨g4, g4', rfl, _⟩ := hn4; clear hb4) | (refine wpL_storeNo rfl _ _ rfl rfl rfl (HX.out.1.later hn9.out.2) ?_))
  have k4 := Ch.row (S := fun k => k = w.heap.size) (Ch.refl _ w4) (.inl rfl) (nov (((2 : Nat) : Int) + 1) (some ⟨g4', 0, none⟩) 1 1 (some ⟨g4, 0, none⟩) 1 1)
  have hw1 : w.heap.size + 1 ≤ w1.heap.size := by have := HX.out.1.lt; omega
  have hn6 : NoR w.heap.size (some (c, 1, 2)) (.agg (nov (((2 : Nat) : Int) + 1) (some ⟨g4', 0, none⟩) 1 1 (some ⟨g4, 0, none⟩) 1 1)) (w4.setRow w.heap.size (nov (((2 : Nat) : Int) + 1) (some ⟨g4', 0, none⟩) 1 1 (some ⟨g4, 0, none⟩) 1 1)) := by
    obtain ⟨x, x', e1, e2, e3, e4, e5⟩ := hn9.out.1
    exact ⟨x, x', e1, by omega, by omega, e4.ch k4 (fun e => by have e' : x' = w.heap.size := e; omega), e5.ch k4 (fun e => by have e' : x = w.heap.size := e; omega)⟩
  exact bodyPost_ret (v := .tuple #[.slice none 0 0, .slice none 0 0, .agg (nov (((2 : Nat) : Int) + 1) (some ⟨g4', 0, none⟩) 1 1 (some ⟨g4, 0, none⟩) 1 1)]) (results_ttNo (fn := Tryd.f29) (s := 6) (t := 7) (u := 8) rfl rfl ((HX.out.1.later hn9.out.2).put (nov (((2 : Nat) : Int) + 1) (some ⟨g4', 0, none⟩) 1 1 (some ⟨g4, 0, none⟩) 1 1)) rfl) rfl ⟨_, rfl, hn6, below_row (bgo HX.out.2 hn9.out.2) (Nat.le_refl _) _⟩
set_option maxHeartbeats 4000000 in
theorem read_ok (w : World) (c a b : ByteArray) (ha : a.size ≤ 120) (hb : b.size ≤ 120) (hv : Lib.validD a.data.toList = true) (hu : Lib.validD b.data.toList = true) :
    Calls Tryd.prog 29 #[.string c, .string a, .string b] w fun e w' => ∃ v1 v2, e = .returned (.tuple #[v1, v2, .agg (nov 0 none 0 0 none 0 0)]) ∧ RwR v1 (rn a.data.toList) w' ∧ RwR v2 (rn b.data.toList) w' ∧ Below w.heap.size w w' := by
  have HRa := hid_of' (fun x => runes_ok x a (small9 ha) hv)
  have HRb := hid_of' (fun x => runes_ok x b (small9 hb) hu)
  have hal := Nat.le_trans (rn_len a.data.toList) (show a.data.toList.length ≤ 120 by rw [Array.length_toList]; exact ha)
  have hbl := Nat.le_trans (rn_len b.data.toList) (show b.data.toList.length ≤ 120 by rw [Array.length_toList]; exact hb)
  generalize rn a.data.toList = xs at HRa hal ⊢
  generalize rn b.data.toList = ys at HRb hbl ⊢
  clear hv hu
  have r0 := RowAt.new w (nov 0 none 0 0 none 0 0) 30
  have b0 := below_one w (.cells (nov 0 none 0 0 none 0 0) 30)
  go_enter Tryd.func29, Tryd.ntmps29
  go_upto_region 1 with fail
  change Code.wp _ _ _ _ (w.alloc (.cells (nov 0 none 0 0 none 0 0) 30))
  generalize w.alloc (.cells (nov 0 none 0 0 none 0 0) 30) = X0 at r0 b0 ⊢
  go_upto_region 4 with (go_at_call 25; refine (HRa.out _).mono ?_; rintro e x1 ⟨v1, rfl, h1, o1, p1⟩)
  go_upto_region 7 with (go_at_call 25; refine (HRb.out _).mono ?_; rintro e w1 ⟨v2, rfl, h2, o2, p2⟩)
  have hr0 := r0.lt
  have b1 := bgo p1 p2
  have hs1 := p1.size
  obtain ⟨a1, c1, e1, _⟩ := h1.form
  obtain ⟨a2, c2, e2, _⟩ := h2.form
  obtain ⟨na, hna⟩ : ∃ n, n = xs.length := ⟨_, rfl⟩
  obtain ⟨nb, hnb⟩ : ∃ n, n = ys.length := ⟨_, rfl⟩
  rw [← hna] at e1 hal
  rw [← hnb] at e2 hbl
  subst e1 e2
  have hb0 := b0.size
  have HX := hid_of' (And.intro (r0.later b1) (And.intro (bgo b0 b1) (And.intro (h1.later p2) (And.intro h2 (And.intro (fun k hk => by have := o1 k hk; omega : ∀ k, Value.ownBlock (.slice a1 na c1) = some k → ¬ k = w.heap.size) (fun k hk => by have := o2 k hk; omega : ∀ k, Value.ownBlock (.slice a2 nb c2) = some k → ¬ k = w.heap.size))))))
  clear r0 b0 b1 h1 h2 o1 o2 p1 p2 hr0 hs1 hb0 hna hnb HRa HRb
  by_cases h0 : na = 0
  · have g0 : ¬ (0 : Int) < (na : Int) := by omega
    clear h0
    go_wp2_with (refine wpL_storeNo rfl _ _ rfl rfl rfl HX.out.1 ?_)
    have k4 := Ch.row (S := fun k => k = w.heap.size) (Ch.refl _ w1) (.inl rfl) (nov 0 none 0 0 none 0 0)
    exact bodyPost_ret (v := .tuple #[.slice a1 na c1, .slice a2 nb c2, .agg (nov 0 none 0 0 none 0 0)]) (results_ttNo (fn := Tryd.f29) (s := 6) (t := 7) (u := 8) rfl rfl (HX.out.1.put (nov 0 none 0 0 none 0 0)) rfl) rfl ⟨_, _, rfl, Rw.ch HX.out.2.2.1 k4 HX.out.2.2.2.2.1, Rw.ch HX.out.2.2.2.1 k4 HX.out.2.2.2.2.2, below_row HX.out.2.1 (Nat.le_refl _) _⟩
  · have g0 : (0 : Int) < (na : Int) := by omega
    have g1 : ¬ (na : Int) = 0 := by omega
    have g2 : ¬ (4194304 : Int) / (na : Int) < (nb : Int) := by
      have h5 : 4194304 / 120 ≤ 4194304 / na := Nat.div_le_div_left hal (by omega)
      have h6 : ((4194304 / na : Nat) : Int) = (4194304 : Int) / (na : Int) := by simp
      omega
    clear h0
    go_wp2_with (refine wpL_storeNo rfl _ _ rfl rfl rfl HX.out.1 ?_)
    have k4 := Ch.row (S := fun k => k = w.heap.size) (Ch.refl _ w1) (.inl rfl) (nov 0 none 0 0 none 0 0)
    exact bodyPost_ret (v := .tuple #[.slice a1 na c1, .slice a2 nb c2, .agg (nov 0 none 0 0 none 0 0)]) (results_ttNo (fn := Tryd.f29) (s := 6) (t := 7) (u := 8) rfl rfl (HX.out.1.put (nov 0 none 0 0 none 0 0)) rfl) rfl ⟨_, _, rfl, Rw.ch HX.out.2.2.1 k4 HX.out.2.2.2.2.1, Rw.ch HX.out.2.2.2.1 k4 HX.out.2.2.2.2.2, below_row HX.out.2.1 (Nat.le_refl _) _⟩
end Go.Proofs.YtckbihcijpploaaDoor
