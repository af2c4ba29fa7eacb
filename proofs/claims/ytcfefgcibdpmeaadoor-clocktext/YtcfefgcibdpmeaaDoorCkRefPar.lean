/-
  barrowref03.Parse: what it reads, or where it refuses.
-/
import Derived.Test.YtcfefgcibdpmeaaDoorCkParP
import Derived.Test.YtcfefgcibdpmeaaDoorCkSay
namespace Go.Proofs.YtcfefgcibdpmeaaDoor
open Go.RowKit
set_option maxRecDepth 100000

theorem results_ck3No {fn : Func} {p t u : Tmp} {tmps : Array Value} {w : World} {g g' : Nat} {x : List Int} {cs : Array Value} (h : fn.results = #[.cell p 23, .tmp t, .cell u 34]) (hp : tmps.getD p undef = .pointer (some ⟨g, 0, none⟩)) (hu : tmps.getD u undef = .pointer (some ⟨g', 0, none⟩)) (hg : CkAt g x w) (hg' : RowAt g' cs 34 w) (hs : cs.size = 3) :
    (results fn tmps).run Tryd.prog w = .ok (.tuple #[.agg (cv x), tmps.getD t undef, .agg cs]) w := by
  have hp' : tmps[p]?.getD undef = .pointer (some ⟨g, 0, none⟩) := by simpa using hp
  have hu' : tmps[u]?.getD undef = .pointer (some ⟨g', 0, none⟩) := by simpa using hu
  have hi : (Tryd.prog.info? 34).map (·.size) = some cs.size := by rw [hs]; exact no_size
  simp [results, h, hp', hu', asAddr, run_loadVar_row w g _ _ _ _ _ hg.1 Tryd.underlying23 rfl hg.size, run_loadVar_row w g' _ _ _ _ _ hg' Tryd.underlying34 rfl hi]
theorem RowAt.otherP {b : Nat} {cs : Array Value} {t : TypeId} {w : World} (h : RowAt b cs t w) (a : Addr) (v : Value) (hn : ¬ b = a.block) : RowAt b cs t (w.setCell a v) := by unfold RowAt at *; rw [Below.heap_setCell _ _ _ _ hn]; exact h

/-- A refusal of Parse at p. -/
def PN (p : Int) (nv : Value) (x : World) : Prop := ∃ g g', nv = .agg (nov 6 (some ⟨g', 0, none⟩) 1 1 (some ⟨g, 0, none⟩) 1 1) ∧ CsIn g' 0 #[.string bClk, .string bParse, .int .i64 (place p)] x ∧ CsIn g 0 #[.int .i64 6] x
/-- What the document's Parse answers. -/
def RA (r : Option (List Int × Nat) × Nat) (v : Value) (x : World) : Prop :=
  match r with
  | (some (a, n), _) => v = .tuple #[.agg (cv a), .int .i64 (n : Int), .agg (nov 0 none 0 0 none 0 0)]
  | (none, p) => ∃ nv, v = .tuple #[.agg (cv ck0), .int .i64 0, nv] ∧ PN (p : Int) nv x

theorem startP (w : World) : CkAt w.heap.size ck0 (((w.alloc (.cells (cv ck0) 23)).alloc (.cells #[.int .i64 0, .slice none 0 0, .slice none 0 0] 34)).alloc (.cells (cv ck0) 23)) ∧ RowAt (w.heap.size + 1) #[.int .i64 0, .slice none 0 0, .slice none 0 0] 34 (((w.alloc (.cells (cv ck0) 23)).alloc (.cells #[.int .i64 0, .slice none 0 0, .slice none 0 0] 34)).alloc (.cells (cv ck0) 23)) ∧ CkAt (w.heap.size + 2) ck0 (((w.alloc (.cells (cv ck0) 23)).alloc (.cells #[.int .i64 0, .slice none 0 0, .slice none 0 0] 34)).alloc (.cells (cv ck0) 23)) ∧ Below w.heap.size w (((w.alloc (.cells (cv ck0) 23)).alloc (.cells #[.int .i64 0, .slice none 0 0, .slice none 0 0] 34)).alloc (.cells (cv ck0) 23)) := by
  have h1 := CkAt.new w (x := ck0) rfl
  have h2 : RowAt (w.alloc (.cells (cv ck0) 23)).heap.size #[.int .i64 0, .slice none 0 0, .slice none 0 0] 34 ((w.alloc (.cells (cv ck0) 23)).alloc (.cells #[.int .i64 0, .slice none 0 0, .slice none 0 0] 34)) := heap_alloc_last _ _
  have h3 := CkAt.new ((w.alloc (.cells (cv ck0) 23)).alloc (.cells #[.int .i64 0, .slice none 0 0, .slice none 0 0] 34)) (x := ck0) rfl
  simp only [World.size_alloc] at h2 h3
  exact ⟨(h1.alloc _).alloc _, h2.later (below_one _ _), h3, bgo (bgo (below_one w _) (below_one _ _)) (below_one _ _)⟩

theorem goOn_true2 {n k b : Int} (h : goOn n k b = true) : n ≠ 0 ∨ k ≤ 0 := by
  unfold goOn at h
  simp only [Bool.and_eq_true, decide_eq_true_eq] at h
  exact h.2.1
theorem goOn_false {n k b : Int} (h : goOn n k b = false) (h1 : 48 ≤ b) (h2 : b ≤ 57) : (n = 0 ∧ 0 < k) ∨ (9223372036854775807 - (b - 48)) / 10 < n := by
  unfold goOn at h
  rw [decide_eq_true (p := (48 ≤ b ∧ b ≤ 57)) ⟨h1, h2⟩, Bool.true_and] at h
  by_cases h3 : n ≠ 0 ∨ k ≤ 0
  · rw [decide_eq_true h3, Bool.true_and] at h
    have := of_decide_eq_false h
    omega
  · omega

set_option maxHeartbeats 8000000 in
theorem refParse_any (s : ByteArray) (w : World) (hs : s.size ≤ 140737488355328) :
    Calls Tryd.prog 10 #[.string s] w fun e w' => ∃ v, e = .returned v ∧ RA (refP s.data.toList 0 0 0 ck0) v w' ∧ Below w.heap.size w w' := by
  have HN : Hid (¬ w.heap.size + 1 = w.heap.size) := by show ¬ _ = _; omega
  go_enter Tryd.func10, Tryd.ntmps10
  go_wp2
  go_loopw [6, 7, 8, 9, 10] (fun kk nn ii _ _ wr => ∃ (i k n : Nat) (a : List Int), ii = .int .i64 (i : Int) ∧ kk = .int .i64 (k : Int) ∧ nn = .int .i64 (n : Int) ∧ i ≤ s.size ∧ k < 8 ∧ n ≤ i ∧ a.length = 8 ∧ (∀ j, j < 8 → 0 ≤ en a j) ∧ CkAt w.heap.size ck0 wr ∧ RowAt (w.heap.size + 1) #[.int .i64 0, .slice none 0 0, .slice none 0 0] 34 wr ∧ CkAt (w.heap.size + 2) a wr ∧ refP (s.data.toList.drop i) i k n a = refP s.data.toList 0 0 0 ck0 ∧ Below w.heap.size w wr) (fun _ _ i _ _ _ => s.size - (intOf i).toNat)
  case atStart =>
    obtain ⟨h1, h2, h3, hB⟩ := startP w
    exact ⟨0, 0, 0, ck0, rfl, rfl, rfl, by omega, by omega, by omega, rfl, fun j hj => by rw [en_ck0 hj]; omega, h1, h2, h3, rfl, hB⟩
  case round =>
    obtain ⟨i, k, n, a, rfl, rfl, rfl, hi, hk, hni, ha, hp0, A2, A4, A5, hp, hB⟩ := hrel
    have hki : (k : Int) < 8 := by omega
    have hz0 := ck0_cv.symm
    by_cases hlt : i < s.size
    · have hii : (i : Int) < (s.size : Int) := by omega
      have hd : s.data.toList.drop i = s[i] :: s.data.toList.drop (i + 1) := by
        rw [List.drop_eq_getElem_cons (by simpa using hlt)]
        rfl
      have hb8 : (s[i].toNat : Int) < 256 := by have := s[i].toNat_lt; omega
      have hb0 : (0 : Int) ≤ (s[i].toNat : Int) := by omega
      rw [hd, refP] at hp
      clear hd
      have c5 := A5.cell hk
      have f5 := A5.frozen k
      cases hg : goOn (en a k) n s[i].toNat with
      | true =>
        rw [hg, if_pos rfl] at hp
        have HP := hid_of hp
        clear hp
        obtain ⟨g1, g2, g3⟩ := goOn_true hg
        have g4 := goOn_true2 hg
        have e0 := hp0 k hk
        have gm : 10 * en a k + ((s[i].toNat : Int) - 48) ≤ 9223372036854775807 := by omega
        have gm' : 10 * en a k ≤ 9223372036854775807 := by omega
        have S5 := A5.set k (10 * en a k + ((s[i].toNat : Int) - 48))
        have S2 := A2.other ⟨w.heap.size + 2, k, none⟩ (.int .i64 (10 * en a k + ((s[i].toNat : Int) - 48))) (by simp)
        have S4 := A4.otherP ⟨w.heap.size + 2, k, none⟩ (.int .i64 (10 * en a k + ((s[i].toNat : Int) - 48))) (by simp)
        have SB : Below w.heap.size w (wr.setCell ⟨w.heap.size + 2, k, none⟩ (.int .i64 (10 * en a k + ((s[i].toNat : Int) - 48)))) := hB.setCell (by simp) _
        have hpos : ∀ j, j < 8 → 0 ≤ en (a.set k (10 * en a k + ((s[i].toNat : Int) - 48))) j := fun j hj => by
          rw [getD_set _ _ _ _ (by omega)]
          split
          · omega
          · exact hp0 j hj
        have g3' : ¬ (9223372036854775807 - ((s[i].toNat : Int) - 48)) / 10 < en a k := by omega
        clear hg
        by_cases hn0 : n = 0
        · subst hn0
          clear g4
          go_wp2
          go_roundw
          case rel => exact ⟨i + 1, k, 0 + 1, _, by go_num, by go_num, by go_num, by omega, by omega, by omega, S5.2, hpos, S2, S4, S5, HP.out, SB⟩
          case measure => simp [intOf]; omega
        · have hn1 : (0 : Int) < (n : Int) := by omega
          have hz : (en a k == 0) = false := by simp; omega
          clear g4
          go_wp2
          go_roundw
          case rel => exact ⟨i + 1, k, n + 1, _, by go_num, by go_num, by go_num, by omega, by omega, by omega, S5.2, hpos, S2, S4, S5, HP.out, SB⟩
          case measure => simp [intOf]; omega
      | false =>
        rw [hg, if_neg (by simp)] at hp
        by_cases hdig : 48 ≤ (s[i].toNat : Int) ∧ (s[i].toNat : Int) ≤ 57
        · obtain ⟨d1, d2⟩ := hdig
          rw [if_neg (by rintro ⟨h, _⟩; rw [h] at d1; exact absurd d1 (by decide))] at hp
          have HP := hid_of hp
          clear hp
          have g4 := goOn_false hg d1 d2
          clear hg
          by_cases hn0 : n = 0
          · subst hn0
            have g3 : (9223372036854775807 - ((s[i].toNat : Int) - 48)) / 10 < en a k := by omega
            clear g4
            go_wp2_with (first | (go_at_call 29; refine (say_any bClk bParse _ 6 _ rfl).mono ?_; rintro e w2 ⟨g, g', rfl, hg', hg, hcs, hcd, hb2⟩) | (refine wpL_store rfl _ _ rfl rfl (v := ck0) rfl (A2.later hb2) rfl ?_) | (refine wpL_storeNo rfl _ _ rfl rfl rfl ((A4.later hb2).other w.heap.size (cv ck0) HN.out) ?_))
            have hg1 : wr.heap.size ≤ g' := by simpa using hg'
            have hg2 : wr.heap.size ≤ g := by simpa using hg
            have wl := A5.lt
            have k2 := (A2.later hb2).row (y := ck0) rfl
            have k3 := (A4.later hb2).other w.heap.size (cv ck0) (by omega)
            have m2 := k2.rowOther (w.heap.size + 1) (nov 6 (some ⟨g', 0, none⟩) 1 1 (some ⟨g, 0, none⟩) 1 1) (by omega)
            have m3 := k3.put (nov 6 (some ⟨g', 0, none⟩) 1 1 (some ⟨g, 0, none⟩) 1 1)
            have z1 := (hcs.other w.heap.size (cv ck0) (by omega)).other (w.heap.size + 1) (nov 6 (some ⟨g', 0, none⟩) 1 1 (some ⟨g, 0, none⟩) 1 1) (by omega)
            have z2 := (hcd.other w.heap.size (cv ck0) (by omega)).other (w.heap.size + 1) (nov 6 (some ⟨g', 0, none⟩) 1 1 (some ⟨g, 0, none⟩) 1 1) (by omega)
            refine bodyPost_ret (v := .tuple #[.agg (cv ck0), .int .i64 0, .agg (nov 6 (some ⟨g', 0, none⟩) 1 1 (some ⟨g, 0, none⟩) 1 1)]) (results_ck3No (fn := Tryd.f10) (p := 2) (t := 3) (u := 4) rfl rfl rfl m2 m3 rfl) rfl ⟨_, rfl, ?_, below_row (below_row (bgo hB hb2) (by omega) _) (by omega) _⟩
            rw [← HP.out]
            exact ⟨_, rfl, g, g', rfl, z1, z2⟩
          · have hn1 : (0 : Int) < (n : Int) := by omega
            by_cases hz : en a k = 0
            · rw [hz] at c5
              clear g4
              go_wp2_with (first | (go_at_call 29; refine (say_any bClk bParse _ 6 _ rfl).mono ?_; rintro e w2 ⟨g, g', rfl, hg', hg, hcs, hcd, hb2⟩) | (refine wpL_store rfl _ _ rfl rfl (v := ck0) rfl (A2.later hb2) rfl ?_) | (refine wpL_storeNo rfl _ _ rfl rfl rfl ((A4.later hb2).other w.heap.size (cv ck0) HN.out) ?_))
              have hg1 : wr.heap.size ≤ g' := by simpa using hg'
              have hg2 : wr.heap.size ≤ g := by simpa using hg
              have wl := A5.lt
              have k2 := (A2.later hb2).row (y := ck0) rfl
              have k3 := (A4.later hb2).other w.heap.size (cv ck0) (by omega)
              have m2 := k2.rowOther (w.heap.size + 1) (nov 6 (some ⟨g', 0, none⟩) 1 1 (some ⟨g, 0, none⟩) 1 1) (by omega)
              have m3 := k3.put (nov 6 (some ⟨g', 0, none⟩) 1 1 (some ⟨g, 0, none⟩) 1 1)
              have z1 := (hcs.other w.heap.size (cv ck0) (by omega)).other (w.heap.size + 1) (nov 6 (some ⟨g', 0, none⟩) 1 1 (some ⟨g, 0, none⟩) 1 1) (by omega)
              have z2 := (hcd.other w.heap.size (cv ck0) (by omega)).other (w.heap.size + 1) (nov 6 (some ⟨g', 0, none⟩) 1 1 (some ⟨g, 0, none⟩) 1 1) (by omega)
              refine bodyPost_ret (v := .tuple #[.agg (cv ck0), .int .i64 0, .agg (nov 6 (some ⟨g', 0, none⟩) 1 1 (some ⟨g, 0, none⟩) 1 1)]) (results_ck3No (fn := Tryd.f10) (p := 2) (t := 3) (u := 4) rfl rfl rfl m2 m3 rfl) rfl ⟨_, rfl, ?_, below_row (below_row (bgo hB hb2) (by omega) _) (by omega) _⟩
              rw [← HP.out]
              exact ⟨_, rfl, g, g', rfl, z1, z2⟩
            · have hz' : (en a k == 0) = false := by simpa using hz
              have g3 : (9223372036854775807 - ((s[i].toNat : Int) - 48)) / 10 < en a k := by omega
              clear g4 hz
              go_wp2_with (first | (go_at_call 29; refine (say_any bClk bParse _ 6 _ rfl).mono ?_; rintro e w2 ⟨g, g', rfl, hg', hg, hcs, hcd, hb2⟩) | (refine wpL_store rfl _ _ rfl rfl (v := ck0) rfl (A2.later hb2) rfl ?_) | (refine wpL_storeNo rfl _ _ rfl rfl rfl ((A4.later hb2).other w.heap.size (cv ck0) HN.out) ?_))
              have hg1 : wr.heap.size ≤ g' := by simpa using hg'
              have hg2 : wr.heap.size ≤ g := by simpa using hg
              have wl := A5.lt
              have k2 := (A2.later hb2).row (y := ck0) rfl
              have k3 := (A4.later hb2).other w.heap.size (cv ck0) (by omega)
              have m2 := k2.rowOther (w.heap.size + 1) (nov 6 (some ⟨g', 0, none⟩) 1 1 (some ⟨g, 0, none⟩) 1 1) (by omega)
              have m3 := k3.put (nov 6 (some ⟨g', 0, none⟩) 1 1 (some ⟨g, 0, none⟩) 1 1)
              have z1 := (hcs.other w.heap.size (cv ck0) (by omega)).other (w.heap.size + 1) (nov 6 (some ⟨g', 0, none⟩) 1 1 (some ⟨g, 0, none⟩) 1 1) (by omega)
              have z2 := (hcd.other w.heap.size (cv ck0) (by omega)).other (w.heap.size + 1) (nov 6 (some ⟨g', 0, none⟩) 1 1 (some ⟨g, 0, none⟩) 1 1) (by omega)
              refine bodyPost_ret (v := .tuple #[.agg (cv ck0), .int .i64 0, .agg (nov 6 (some ⟨g', 0, none⟩) 1 1 (some ⟨g, 0, none⟩) 1 1)]) (results_ck3No (fn := Tryd.f10) (p := 2) (t := 3) (u := 4) rfl rfl rfl m2 m3 rfl) rfl ⟨_, rfl, ?_, below_row (below_row (bgo hB hb2) (by omega) _) (by omega) _⟩
              rw [← HP.out]
              exact ⟨_, rfl, g, g', rfl, z1, z2⟩
        · clear hg
          by_cases h57 : 57 < (s[i].toNat : Int)
          · have h48 : 48 ≤ (s[i].toNat : Int) := by omega
            have c46 : ((s[i].toNat : Int) == 46) = false := by simp; omega
            rw [if_neg (by rintro ⟨h, _⟩; rw [h] at h57; exact absurd h57 (by decide))] at hp
            have HP := hid_of hp
            clear hp hdig
            go_wp2_with (first | (go_at_call 29; refine (say_any bClk bParse _ 6 _ rfl).mono ?_; rintro e w2 ⟨g, g', rfl, hg', hg, hcs, hcd, hb2⟩) | (refine wpL_store rfl _ _ rfl rfl (v := ck0) rfl (A2.later hb2) rfl ?_) | (refine wpL_storeNo rfl _ _ rfl rfl rfl ((A4.later hb2).other w.heap.size (cv ck0) HN.out) ?_))
            have hg1 : wr.heap.size ≤ g' := by simpa using hg'
            have hg2 : wr.heap.size ≤ g := by simpa using hg
            have wl := A5.lt
            have k2 := (A2.later hb2).row (y := ck0) rfl
            have k3 := (A4.later hb2).other w.heap.size (cv ck0) (by omega)
            have m2 := k2.rowOther (w.heap.size + 1) (nov 6 (some ⟨g', 0, none⟩) 1 1 (some ⟨g, 0, none⟩) 1 1) (by omega)
            have m3 := k3.put (nov 6 (some ⟨g', 0, none⟩) 1 1 (some ⟨g, 0, none⟩) 1 1)
            have z1 := (hcs.other w.heap.size (cv ck0) (by omega)).other (w.heap.size + 1) (nov 6 (some ⟨g', 0, none⟩) 1 1 (some ⟨g, 0, none⟩) 1 1) (by omega)
            have z2 := (hcd.other w.heap.size (cv ck0) (by omega)).other (w.heap.size + 1) (nov 6 (some ⟨g', 0, none⟩) 1 1 (some ⟨g, 0, none⟩) 1 1) (by omega)
            refine bodyPost_ret (v := .tuple #[.agg (cv ck0), .int .i64 0, .agg (nov 6 (some ⟨g', 0, none⟩) 1 1 (some ⟨g, 0, none⟩) 1 1)]) (results_ck3No (fn := Tryd.f10) (p := 2) (t := 3) (u := 4) rfl rfl rfl m2 m3 rfl) rfl ⟨_, rfl, ?_, below_row (below_row (bgo hB hb2) (by omega) _) (by omega) _⟩
            rw [← HP.out]
            exact ⟨_, rfl, g, g', rfl, z1, z2⟩
          · have h48 : (s[i].toNat : Int) < 48 := by omega
            clear hdig
            by_cases h46 : s[i] = 46
            · have c46 : ((s[i].toNat : Int) == 46) = true := by rw [h46]; rfl
              by_cases hn0 : n = 0
              · rw [if_neg (by omega)] at hp
                have HP := hid_of hp
                subst hn0
                clear hp h46
                go_wp2_with (first | (go_at_call 29; refine (say_any bClk bParse _ 6 _ rfl).mono ?_; rintro e w2 ⟨g, g', rfl, hg', hg, hcs, hcd, hb2⟩) | (refine wpL_store rfl _ _ rfl rfl (v := ck0) rfl (A2.later hb2) rfl ?_) | (refine wpL_storeNo rfl _ _ rfl rfl rfl ((A4.later hb2).other w.heap.size (cv ck0) HN.out) ?_))
                have hg1 : wr.heap.size ≤ g' := by simpa using hg'
                have hg2 : wr.heap.size ≤ g := by simpa using hg
                have wl := A5.lt
                have k2 := (A2.later hb2).row (y := ck0) rfl
                have k3 := (A4.later hb2).other w.heap.size (cv ck0) (by omega)
                have m2 := k2.rowOther (w.heap.size + 1) (nov 6 (some ⟨g', 0, none⟩) 1 1 (some ⟨g, 0, none⟩) 1 1) (by omega)
                have m3 := k3.put (nov 6 (some ⟨g', 0, none⟩) 1 1 (some ⟨g, 0, none⟩) 1 1)
                have z1 := (hcs.other w.heap.size (cv ck0) (by omega)).other (w.heap.size + 1) (nov 6 (some ⟨g', 0, none⟩) 1 1 (some ⟨g, 0, none⟩) 1 1) (by omega)
                have z2 := (hcd.other w.heap.size (cv ck0) (by omega)).other (w.heap.size + 1) (nov 6 (some ⟨g', 0, none⟩) 1 1 (some ⟨g, 0, none⟩) 1 1) (by omega)
                refine bodyPost_ret (v := .tuple #[.agg (cv ck0), .int .i64 0, .agg (nov 6 (some ⟨g', 0, none⟩) 1 1 (some ⟨g, 0, none⟩) 1 1)]) (results_ck3No (fn := Tryd.f10) (p := 2) (t := 3) (u := 4) rfl rfl rfl m2 m3 rfl) rfl ⟨_, rfl, ?_, below_row (below_row (bgo hB hb2) (by omega) _) (by omega) _⟩
                rw [← HP.out]
                exact ⟨_, rfl, g, g', rfl, z1, z2⟩
              · have hn1 : (0 : Int) < (n : Int) := by omega
                by_cases hk7 : k < 7
                · have hk7i : (k : Int) < 7 := by omega
                  rw [if_pos ⟨h46, by omega, hk7⟩] at hp
                  have HP := hid_of hp
                  clear hp h46
                  go_wp2
                  go_roundw
                  case rel => exact ⟨i + 1, k + 1, 0, a, by go_num, by go_num, by go_num, by omega, by omega, by omega, ha, hp0, A2, A4, A5, HP.out, hB⟩
                  case measure => simp [intOf]; omega
                · have hk7i : ¬ (k : Int) < 7 := by omega
                  rw [if_neg (by omega)] at hp
                  have HP := hid_of hp
                  clear hp h46
                  go_wp2_with (first | (go_at_call 29; refine (say_any bClk bParse _ 6 _ rfl).mono ?_; rintro e w2 ⟨g, g', rfl, hg', hg, hcs, hcd, hb2⟩) | (refine wpL_store rfl _ _ rfl rfl (v := ck0) rfl (A2.later hb2) rfl ?_) | (refine wpL_storeNo rfl _ _ rfl rfl rfl ((A4.later hb2).other w.heap.size (cv ck0) HN.out) ?_))
                  have hg1 : wr.heap.size ≤ g' := by simpa using hg'
                  have hg2 : wr.heap.size ≤ g := by simpa using hg
                  have wl := A5.lt
                  have k2 := (A2.later hb2).row (y := ck0) rfl
                  have k3 := (A4.later hb2).other w.heap.size (cv ck0) (by omega)
                  have m2 := k2.rowOther (w.heap.size + 1) (nov 6 (some ⟨g', 0, none⟩) 1 1 (some ⟨g, 0, none⟩) 1 1) (by omega)
                  have m3 := k3.put (nov 6 (some ⟨g', 0, none⟩) 1 1 (some ⟨g, 0, none⟩) 1 1)
                  have z1 := (hcs.other w.heap.size (cv ck0) (by omega)).other (w.heap.size + 1) (nov 6 (some ⟨g', 0, none⟩) 1 1 (some ⟨g, 0, none⟩) 1 1) (by omega)
                  have z2 := (hcd.other w.heap.size (cv ck0) (by omega)).other (w.heap.size + 1) (nov 6 (some ⟨g', 0, none⟩) 1 1 (some ⟨g, 0, none⟩) 1 1) (by omega)
                  refine bodyPost_ret (v := .tuple #[.agg (cv ck0), .int .i64 0, .agg (nov 6 (some ⟨g', 0, none⟩) 1 1 (some ⟨g, 0, none⟩) 1 1)]) (results_ck3No (fn := Tryd.f10) (p := 2) (t := 3) (u := 4) rfl rfl rfl m2 m3 rfl) rfl ⟨_, rfl, ?_, below_row (below_row (bgo hB hb2) (by omega) _) (by omega) _⟩
                  rw [← HP.out]
                  exact ⟨_, rfl, g, g', rfl, z1, z2⟩
            · have c46 : ((s[i].toNat : Int) == 46) = false := by
                rw [beq_eq_false_iff_ne]; intro h; apply h46; apply UInt8.toNat_inj.1; exact Int.ofNat.inj h
              rw [if_neg (by rintro ⟨h, _⟩; exact h46 h)] at hp
              have HP := hid_of hp
              clear hp h46
              go_wp2_with (first | (go_at_call 29; refine (say_any bClk bParse _ 6 _ rfl).mono ?_; rintro e w2 ⟨g, g', rfl, hg', hg, hcs, hcd, hb2⟩) | (refine wpL_store rfl _ _ rfl rfl (v := ck0) rfl (A2.later hb2) rfl ?_) | (refine wpL_storeNo rfl _ _ rfl rfl rfl ((A4.later hb2).other w.heap.size (cv ck0) HN.out) ?_))
              have hg1 : wr.heap.size ≤ g' := by simpa using hg'
              have hg2 : wr.heap.size ≤ g := by simpa using hg
              have wl := A5.lt
              have k2 := (A2.later hb2).row (y := ck0) rfl
              have k3 := (A4.later hb2).other w.heap.size (cv ck0) (by omega)
              have m2 := k2.rowOther (w.heap.size + 1) (nov 6 (some ⟨g', 0, none⟩) 1 1 (some ⟨g, 0, none⟩) 1 1) (by omega)
              have m3 := k3.put (nov 6 (some ⟨g', 0, none⟩) 1 1 (some ⟨g, 0, none⟩) 1 1)
              have z1 := (hcs.other w.heap.size (cv ck0) (by omega)).other (w.heap.size + 1) (nov 6 (some ⟨g', 0, none⟩) 1 1 (some ⟨g, 0, none⟩) 1 1) (by omega)
              have z2 := (hcd.other w.heap.size (cv ck0) (by omega)).other (w.heap.size + 1) (nov 6 (some ⟨g', 0, none⟩) 1 1 (some ⟨g, 0, none⟩) 1 1) (by omega)
              refine bodyPost_ret (v := .tuple #[.agg (cv ck0), .int .i64 0, .agg (nov 6 (some ⟨g', 0, none⟩) 1 1 (some ⟨g, 0, none⟩) 1 1)]) (results_ck3No (fn := Tryd.f10) (p := 2) (t := 3) (u := 4) rfl rfl rfl m2 m3 rfl) rfl ⟨_, rfl, ?_, below_row (below_row (bgo hB hb2) (by omega) _) (by omega) _⟩
              rw [← HP.out]
              exact ⟨_, rfl, g, g', rfl, z1, z2⟩
    · have hii : ¬ (i : Int) < (s.size : Int) := by omega
      obtain rfl : i = s.size := by omega
      have hnil : s.data.toList.drop s.size = [] := List.drop_eq_nil_of_le (Nat.le_of_eq Array.length_toList)
      rw [hnil, refP] at hp
      clear hnil
      by_cases hn0 : n = 0
      · rw [if_pos hn0] at hp
        have HP := hid_of hp
        subst hn0
        clear hp
        go_wp2_with (first | (go_at_call 29; refine (say_any bClk bParse _ 6 _ rfl).mono ?_; rintro e w2 ⟨g, g', rfl, hg', hg, hcs, hcd, hb2⟩) | (refine wpL_store rfl _ _ rfl rfl (v := ck0) rfl (A2.later hb2) rfl ?_) | (refine wpL_storeNo rfl _ _ rfl rfl rfl ((A4.later hb2).other w.heap.size (cv ck0) HN.out) ?_))
        have hg1 : wr.heap.size ≤ g' := by simpa using hg'
        have hg2 : wr.heap.size ≤ g := by simpa using hg
        have wl := A5.lt
        have k2 := (A2.later hb2).row (y := ck0) rfl
        have k3 := (A4.later hb2).other w.heap.size (cv ck0) (by omega)
        have m2 := k2.rowOther (w.heap.size + 1) (nov 6 (some ⟨g', 0, none⟩) 1 1 (some ⟨g, 0, none⟩) 1 1) (by omega)
        have m3 := k3.put (nov 6 (some ⟨g', 0, none⟩) 1 1 (some ⟨g, 0, none⟩) 1 1)
        have z1 := (hcs.other w.heap.size (cv ck0) (by omega)).other (w.heap.size + 1) (nov 6 (some ⟨g', 0, none⟩) 1 1 (some ⟨g, 0, none⟩) 1 1) (by omega)
        have z2 := (hcd.other w.heap.size (cv ck0) (by omega)).other (w.heap.size + 1) (nov 6 (some ⟨g', 0, none⟩) 1 1 (some ⟨g, 0, none⟩) 1 1) (by omega)
        refine bodyPost_ret (v := .tuple #[.agg (cv ck0), .int .i64 0, .agg (nov 6 (some ⟨g', 0, none⟩) 1 1 (some ⟨g, 0, none⟩) 1 1)]) (results_ck3No (fn := Tryd.f10) (p := 2) (t := 3) (u := 4) rfl rfl rfl m2 m3 rfl) rfl ⟨_, rfl, ?_, below_row (below_row (bgo hB hb2) (by omega) _) (by omega) _⟩
        rw [← HP.out]
        exact ⟨_, rfl, g, g', rfl, z1, z2⟩
      · rw [if_neg hn0] at hp
        have hn1 : ((n : Int) == 0) = false := by simp; omega
        have HP := hid_of hp
        clear hp
        go_wp2_with (first | (refine wpL_load rfl _ rfl rfl A5 ?_) | (refine wpL_store rfl _ _ rfl rfl rfl A2 A5.2 ?_) | (refine wpL_storeNo rfl _ _ rfl rfl rfl (A4.other w.heap.size (cv a) HN.out) ?_))
        have m2 := (A2.row A5.2).rowOther (w.heap.size + 1) (nov 0 none 0 0 none 0 0) (by omega)
        have m3 := (A4.other w.heap.size (cv a) (by omega)).put (nov 0 none 0 0 none 0 0)
        refine bodyPost_ret (v := .tuple #[.agg (cv a), .int .i64 ((k + 1 : Nat) : Int), .agg (nov 0 none 0 0 none 0 0)]) (results_ck3No (fn := Tryd.f10) (p := 2) (t := 3) (u := 4) rfl rfl rfl m2 m3 rfl) rfl ⟨_, rfl, ?_, below_row (below_row hB (by omega) _) (by omega) _⟩
        rw [← HP.out]
        rfl
end Go.Proofs.YtcfefgcibdpmeaaDoor
