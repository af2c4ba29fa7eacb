/-
  clock.Parse: what it reads, or where it refuses.
-/
import Derived.Test.YtcfefgcibdpmeaaDoorCkPar
namespace Go.Proofs.YtcfefgcibdpmeaaDoor
open Go.RowKit
set_option maxRecDepth 100000

theorem entR_le : ∀ (l : List UInt8) (n : Int) (k : Nat), k ≤ (entR l n k).2 ∧ (entR l n k).2 ≤ k + l.length
  | [], n, k => ⟨Nat.le_refl _, by simp [entR]⟩
  | b :: l, n, k => by
    rw [entR]
    split
    · have := entR_le l (10 * n + (b.toNat - 48)) (k + 1)
      simp only [List.length_cons]; omega
    · simp
theorem entry_is {s : ByteArray} {l : List UInt8} (hs : s.data.toList = l) {n : Int} {k : Nat} (he : entR l 0 0 = (n, k)) (w : World) (hz : s.size ≤ 140737488355328) :
    Calls Tryd.prog 24 #[.string s] w fun e w' => e = .returned (.tuple #[.int .i64 n, .int .i64 (k : Int)]) ∧ w' = w := by
  have := entry_any s w hz
  rw [hs, he] at this
  exact this

/-- What is read of l from a place on, with the entries so far, and k entries to come at most: the clock and how many entries; else the place. -/
def parR (l : List UInt8) : Nat → Nat → List Int → Option (List Int × Nat) × Nat
  | 0, at', _ => (none, at')
  | k + 1, at', a =>
    if 0 < (entR (l.drop at') 0 0).2 ∧ at' + (entR (l.drop at') 0 0).2 = l.length then (some (a.set (7 - k) (entR (l.drop at') 0 0).1, 8 - k), at' + (entR (l.drop at') 0 0).2)
    else if (entR (l.drop at') 0 0).2 = 0 ∨ l[at' + (entR (l.drop at') 0 0).2]? ≠ some 46 ∨ k = 0 then (none, at' + (entR (l.drop at') 0 0).2)
    else parR l k (at' + (entR (l.drop at') 0 0).2 + 1) (a.set (7 - k) (entR (l.drop at') 0 0).1)

def bParse : ByteArray := ⟨#[80, 97, 114, 115, 101]⟩
def bClk : ByteArray := ⟨#[99, 108, 111, 99, 107]⟩

theorem hid_of {p : Prop} (h : p) : Hid p := h
/-- What Parse answers. -/
def PA (Pf : Int → Value → World → Prop) (r : Option (List Int × Nat) × Nat) (v : Value) (x : World) : Prop :=
  match r with
  | (some (a, n), _) => v = .tuple #[.agg (cv a), .int .i64 (n : Int), .nilIface]
  | (none, p) => ∃ fv, v = .tuple #[.agg (cv ck0), .int .i64 0, fv] ∧ Pf (p : Int) fv x

theorem ext_drop (s : ByteArray) (k : Nat) : (s.extract k s.size).data.toList = s.data.toList.drop k := by
  rw [ByteArray.data_extract, Array.toList_extract, List.extract_eq_take_drop]
  exact List.take_of_length_le (by rw [List.length_drop, Array.length_toList]; exact Nat.le_refl _)

theorem results_ck3 {fn : Func} {p u u' : Tmp} {tmps : Array Value} {w : World} {g : Nat} {x : List Int} (h : fn.results = #[.cell p 23, .tmp u, .tmp u']) (hp : tmps.getD p undef = .pointer (some ⟨g, 0, none⟩)) (hg : CkAt g x w) :
    (results fn tmps).run Tryd.prog w = .ok (.tuple #[.agg (cv x), tmps.getD u undef, tmps.getD u' undef]) w := by
  have hp' : tmps[p]?.getD undef = .pointer (some ⟨g, 0, none⟩) := by simpa using hp
  simp [results, h, hp', asAddr, run_loadVar_row w g _ _ _ _ _ hg.1 Tryd.underlying23 rfl hg.size]

set_option maxHeartbeats 4000000 in
theorem parse_any (Pf : Int → Value → World → Prop) (ev : Value) (s : ByteArray) (w : World) (hs : s.size ≤ 140737488355328)
    (hE : ∀ x, Below w.heap.size w x → x.cell? ⟨0, 0, none⟩ = some ev)
    (FN : ∀ (p : Int) (x : World), Below w.heap.size w x → w.heap.size + 2 ≤ x.heap.size → Calls Tryd.prog 25 #[.string bClk, .string bParse, .int .i64 p, ev] x fun e x' => ∃ fv, e = .returned fv ∧ Pf p fv x' ∧ Below x.heap.size x x')
    (PK : ∀ p fv x g cs, Below w.heap.size w x → Pf p fv x → g < w.heap.size + 2 → w.heap.size ≤ g → Pf p fv (x.setRow g cs)) :
    Calls Tryd.prog 8 #[.string s] w fun e w' => ∃ v, e = .returned v ∧ PA Pf (parR s.data.toList 8 0 ck0) v w' ∧ Below w.heap.size w w' := by
  go_enter Tryd.func8, Tryd.ntmps8
  go_wp2
  go_loopw [6, 7, 8, 9, 10] (fun p _ _ _ i wr => ∃ (r q : Nat) (a : List Int), i = .int .i64 (r : Int) ∧ p = .int .i64 (q : Int) ∧ r < 8 ∧ q ≤ s.size ∧ a.length = 8 ∧ CkAt w.heap.size ck0 wr ∧ CkAt (w.heap.size + 1) a wr ∧ parR s.data.toList (8 - r) q a = parR s.data.toList 8 0 ck0 ∧ Below w.heap.size w wr) (fun _ _ _ _ i _ => 8 - (intOf i).toNat)
  case atStart =>
    obtain ⟨h1, h2, hB⟩ := start2 w (a := ck0) (b := ck0) rfl rfl
    exact ⟨0, 0, ck0, rfl, rfl, by omega, by omega, rfl, h1, h2, rfl, hB⟩
  case round =>
    obtain ⟨r, q, a, rfl, rfl, hr, hq, ha, A2, A5, hp, hB⟩ := hrel
    have hri : (r : Int) < 8 := by omega
    obtain ⟨n, hn⟩ : ∃ n, (entR (s.data.toList.drop q) 0 0).1 = n := ⟨_, rfl⟩
    obtain ⟨len, hlen⟩ : ∃ len, (entR (s.data.toList.drop q) 0 0).2 = len := ⟨_, rfl⟩
    have hle : q + len ≤ s.size := by
      have := (entR_le (s.data.toList.drop q) 0 0).2
      rw [hlen, List.length_drop] at this
      have e : s.data.toList.length = s.size := Array.length_toList
      omega
    have hpe : entR (s.data.toList.drop q) 0 0 = (n, len) := by rw [← hn, ← hlen]
    obtain ⟨k, hk⟩ : ∃ k, 8 - r = k + 1 := ⟨7 - r, by omega⟩
    have hk7 : 7 - k = r := by omega
    rw [hk, parR, hn, hlen, hk7] at hp
    have c5 := A5.cell hr
    have f5 := A5.frozen r
    have hz : (s.extract q s.size).size ≤ 140737488355328 := by rw [ByteArray.size_extract]; omega
    have esz : s.data.toList.length = s.size := Array.length_toList
    have EN : Hid (∀ x, Calls Tryd.prog 24 #[.string (s.extract q s.size)] x fun e x' => e = .returned (.tuple #[.int .i64 n, .int .i64 (len : Int)]) ∧ x' = x) := fun x => entry_is (ext_drop s q) hpe x hz
    have hqi : (q : Int) + (len : Int) ≤ 140737488355328 := by omega
    clear hpe hn hlen hz
    have S5 := A5.set r n
    have S2 := A2.other ⟨w.heap.size + 1, r, none⟩ (.int .i64 n) (by simp)
    have SB : Below w.heap.size w (wr.setCell ⟨w.heap.size + 1, r, none⟩ (.int .i64 n)) := hB.setCell (by simp) _
    have gE := hE _ SB
    have SZ : w.heap.size + 2 ≤ (wr.setCell ⟨w.heap.size + 1, r, none⟩ (.int .i64 n)).heap.size := S5.lt
    rw [esz] at hp
    by_cases hA : 0 < len ∧ q + len = s.size
    · rw [if_pos hA] at hp
      have g1 : (0 : Int) < (len : Int) := by omega
      have g2 : (q : Int) + (len : Int) = (s.size : Int) := by omega
      have HP := hid_of hp
      clear hp
      go_wp2_with (first | (go_at_call 24; refine (EN.out _).mono ?_; rintro e w1 ⟨rfl, hw⟩; obtain rfl := hw.symm) | (refine wpL_load rfl _ rfl rfl S5 ?_) | (refine wpL_store rfl _ _ rfl rfl rfl S2 S5.2 ?_))
      refine bodyPost_ret (v := .tuple #[.agg (cv (a.set r n)), .int .i64 ((8 - k : Nat) : Int), .nilIface]) ?_ rfl ⟨_, rfl, ?_, below_row SB (Nat.le_refl _) _⟩
      · refine (results_ck3 (fn := Tryd.f8) (p := 2) (u := 3) (u' := 4) rfl rfl (S2.row S5.2)).trans ?_
        have e8 : ((8 - k : Nat) : Int) = (r : Int) + 1 := by omega
        rw [e8]
        rfl
      · rw [← HP.out]; rfl
    · rw [if_neg hA] at hp
      by_cases h0 : len = 0
      · rw [if_pos (.inl h0)] at hp
        subst h0
        have HP := hid_of hp
        clear hp hA
        go_wp2_with (first | (go_at_call 24; refine (EN.out _).mono ?_; rintro e w1 ⟨rfl, hw⟩; obtain rfl := hw.symm) | (go_at_call 25; refine (FN _ _ SB SZ).mono ?_; rintro e w2 ⟨fv, rfl, hf, hb2⟩) | (refine wpL_store rfl _ _ rfl rfl (v := ck0) rfl (S2.later hb2) rfl ?_))
        refine bodyPost_ret (v := .tuple #[.agg (cv ck0), .int .i64 0, fv]) (results_ck3 (fn := Tryd.f8) (p := 2) (u := 3) (u' := 4) rfl rfl ((S2.later hb2).row (y := ck0) rfl)) rfl ⟨_, rfl, ?_, below_row (bgo SB hb2) (Nat.le_refl _) _⟩
        rw [← HP.out]
        exact ⟨fv, rfl, PK _ _ _ _ _ (bgo SB hb2) hf (by omega) (Nat.le_refl _)⟩
      · have g1 : (0 : Int) < (len : Int) := by omega
        have hlt : q + len < s.size := by omega
        have g2 : (q : Int) + (len : Int) < (s.size : Int) := by omega
        have g2' : ¬ (q : Int) + (len : Int) = (s.size : Int) := by omega
        have hget : s.data.toList[q + len]? = some s[q + len] := by
          rw [List.getElem?_eq_getElem (by rw [esz]; exact hlt)]; rfl
        rw [hget] at hp
        have gz : ((len : Int) == 0) = false := by simp; omega
        by_cases h46 : s[q + len] = 46
        · have g3 : ((s[q + len].toNat : Int) != 46) = false := by rw [h46]; rfl
          by_cases hk0 : k = 0
          · rw [if_pos (.inr (.inr hk0))] at hp
            have hr7 : (r : Int) + 1 = 8 := by omega
            have HP := hid_of hp
            clear hp hA hget
            go_wp2_with (first | (go_at_call 24; refine (EN.out _).mono ?_; rintro e w1 ⟨rfl, hw⟩; obtain rfl := hw.symm) | (go_at_call 25; refine (FN _ _ SB SZ).mono ?_; rintro e w2 ⟨fv, rfl, hf, hb2⟩) | (refine wpL_store rfl _ _ rfl rfl (v := ck0) rfl (S2.later hb2) rfl ?_))
            refine bodyPost_ret (v := .tuple #[.agg (cv ck0), .int .i64 0, fv]) (results_ck3 (fn := Tryd.f8) (p := 2) (u := 3) (u' := 4) rfl rfl ((S2.later hb2).row (y := ck0) rfl)) rfl ⟨_, rfl, ?_, below_row (bgo SB hb2) (Nat.le_refl _) _⟩
            rw [← HP.out]
            exact ⟨fv, rfl, PK _ _ _ _ _ (bgo SB hb2) hf (by omega) (Nat.le_refl _)⟩
          · rw [if_neg (by simp [h0, h46, hk0])] at hp
            have HP := hid_of hp
            have hr7 : ¬ (r : Int) + 1 = 8 := by omega
            clear hp hA hget
            go_wp2_with (first | (go_at_call 24; refine (EN.out _).mono ?_; rintro e w1 ⟨rfl, hw⟩; obtain rfl := hw.symm))
            go_roundw
            case rel => exact ⟨r + 1, q + len + 1, _, by go_num, by go_num, by omega, by omega, S5.2, S2, S5, (by rw [show 8 - (r + 1) = k by omega]; exact HP.out), SB⟩
            case measure => simp [intOf]; omega
        · have g3 : ((s[q + len].toNat : Int) != 46) = true := by
            rw [bne_iff_ne]; intro h; apply h46; apply UInt8.toNat_inj.1; exact Int.ofNat.inj h
          rw [if_pos (.inr (.inl (by simpa using h46)))] at hp
          have HP := hid_of hp
          clear hp hA hget
          go_wp2_with (first | (go_at_call 24; refine (EN.out _).mono ?_; rintro e w1 ⟨rfl, hw⟩; obtain rfl := hw.symm) | (go_at_call 25; refine (FN _ _ SB SZ).mono ?_; rintro e w2 ⟨fv, rfl, hf, hb2⟩) | (refine wpL_store rfl _ _ rfl rfl (v := ck0) rfl (S2.later hb2) rfl ?_))
          refine bodyPost_ret (v := .tuple #[.agg (cv ck0), .int .i64 0, fv]) (results_ck3 (fn := Tryd.f8) (p := 2) (u := 3) (u' := 4) rfl rfl ((S2.later hb2).row (y := ck0) rfl)) rfl ⟨_, rfl, ?_, below_row (bgo SB hb2) (Nat.le_refl _) _⟩
          rw [← HP.out]
          exact ⟨fv, rfl, PK _ _ _ _ _ (bgo SB hb2) hf (by omega) (Nat.le_refl _)⟩
end Go.Proofs.YtcfefgcibdpmeaaDoor
