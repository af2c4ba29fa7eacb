/-
  A text cut at its line ends: plain lists.
  lines.Split; barrowlaw06.LinesSplit.
-/
import Derived.Test.YtdmiibihibikdaaGreatDoorShelf
import Derived.Lib.SplitLaws
import Derived.Lib.IndexLaws
import Derived.Test.YtdmiibihibikdaaGreatDoorLn4
namespace Go.Proofs.YtdmiibihibikdaaGreatDoor
open Go.RowKit
set_option maxRecDepth 100000

/-- The pieces between the bytes 10. -/
def pcs : List UInt8 → List (List UInt8)
  | [] => [[]]
  | b :: l => if b = 10 then [] :: pcs l else match pcs l with
    | h :: t => (b :: h) :: t
    | [] => [[b]]
theorem pcs_ne : ∀ l, pcs l ≠ []
  | [] => by simp [pcs]
  | b :: l => by
    unfold pcs
    split
    · simp
    · split <;> simp
/-- Some bytes ahead of the first piece. -/
def glue (c : List UInt8) : List (List UInt8) → List (List UInt8)
  | h :: t => (c ++ h) :: t
  | [] => [c]
theorem pcs_end (l : List UInt8) : pcs (10 :: l) = [] :: pcs l := rfl
theorem pcs_other {b : UInt8} (l : List UInt8) (h : ¬ b = 10) : pcs (b :: l) = glue [b] (pcs l) := by
  conv => lhs; unfold pcs
  rw [if_neg h]
  cases pcs l <;> rfl
theorem glue_nil (x : List (List UInt8)) (h : x ≠ []) : glue [] x = x := by
  cases x with
  | nil => exact absurd rfl h
  | cons a t => simp [glue]
theorem glue_glue (a b : List UInt8) (x : List (List UInt8)) (h : x ≠ []) : glue a (glue b x) = glue (a ++ b) x := by
  cases x with
  | nil => exact absurd rfl h
  | cons c t => simp [glue]
theorem pcs_le : ∀ S : List UInt8, (pcs S).length ≤ S.length + 1
  | [] => by simp [pcs]
  | b :: l => by
    have h := pcs_le l
    by_cases hb : b = 10
    · subst hb; rw [pcs_end]; simp; omega
    · rw [pcs_other l hb]
      have hn := pcs_ne l
      cases hp : pcs l with
      | nil => exact absurd hp hn
      | cons x t => rw [hp] at h; simp [glue] at h ⊢; omega
theorem ten : (10 : UInt8) == 10 := by decide
theorem split_pcs : ∀ s : List UInt8, Lib.splitK [10] 0 (Lib.count s [10]) s = pcs s
  | [] => by
    have h : Lib.index [] [10] = -1 := by rw [Lib.index_one]; rfl
    rw [Lib.count_miss h]; rfl
  | b :: l => by
    have ih := split_pcs l
    by_cases hb : b = 10
    · subst hb
      have h : Lib.index (10 :: l) [10] = ((0 : Nat) : Int) := by rw [Lib.index_one]; unfold Lib.indexByte; simp
      rw [Lib.count_hit (by simp) h, Nat.add_comm]
      unfold Lib.splitK
      rw [if_neg (by rw [h]; decide), h]
      simp only [Int.toNat_natCast, Nat.zero_add, List.take_zero, List.length_cons, List.length_nil, List.drop_succ_cons, List.drop_zero]
      rw [ih, pcs_end]
    · have hbb : (b == 10) = false := by simpa using hb
      cases hi : Lib.indexByte l 10 with
      | negSucc m =>
        have hm : Lib.indexByte l 10 = -1 := by have := Lib.indexByte_ge l 10; omega
        have h1 : Lib.index l [10] = -1 := by rw [Lib.index_one]; exact hm
        have h2 : Lib.index (b :: l) [10] = -1 := by rw [Lib.index_one]; unfold Lib.indexByte; simp [hbb, hm]
        rw [Lib.count_miss h1] at ih
        rw [Lib.count_miss h2, pcs_other l hb, ← ih]
        rfl
      | ofNat i =>
        have h1 : Lib.index l [10] = ((i : Nat) : Int) := by rw [Lib.index_one]; exact hi
        have h2 : Lib.index (b :: l) [10] = ((i + 1 : Nat) : Int) := by
          rw [Lib.index_one]; unfold Lib.indexByte
          simp [hbb, hi]
        rw [Lib.count_hit (by simp) h1, Nat.add_comm] at ih
        rw [Lib.count_hit (by simp) h2, Nat.add_comm, pcs_other l hb, ← ih]
        unfold Lib.splitK
        rw [if_neg (by rw [h2]; simp; omega), if_neg (by rw [h1]; simp), h1, h2]
        simp only [Int.toNat_natCast, Nat.add_zero, List.length_cons, List.length_nil, Nat.zero_add, List.take_succ_cons, List.drop_succ_cons, glue]
        rfl
end Go.Proofs.YtdmiibihibikdaaGreatDoor
namespace Go.Proofs.YtdmiibihibikdaaGreatDoor
open Go.RowKit Go.Extern.Stop Go.Stop Go.Extern
set_option maxRecDepth 100000

theorem pcs_cells (s : ByteArray) : (Lib.splitB ⟨#[10]⟩ 0 (Lib.countB s ⟨#[10]⟩) s) = (pcs s.data.toList).map (fun x => ⟨x.toArray⟩) := by
  have h := Lib.splitB_data ⟨#[10]⟩ 0 (Lib.countB s ⟨#[10]⟩) s
  rw [show Lib.splitK (ByteArray.mk #[10]).data.toList 0 (Lib.countB s ⟨#[10]⟩) s.data.toList = pcs s.data.toList from split_pcs s.data.toList] at h
  rw [← h, List.map_map]
  conv => lhs; rw [← List.map_id (Lib.splitB ⟨#[10]⟩ 0 (Lib.countB s ⟨#[10]⟩) s)]
  apply List.map_congr_left
  intro x _
  simp
theorem pcs_len (s : ByteArray) : Lib.countB s ⟨#[10]⟩ + 1 = (pcs s.data.toList).length := by
  have h := Lib.splitB_all ⟨#[10]⟩ (by decide) 0 _ s rfl
  rw [pcs_cells, List.length_map] at h
  exact h.symm
set_option maxHeartbeats 400000 in
theorem lsplit_any (s : ByteArray) (m : Int) (w : World) (hs : s.size ≤ 1000000) (hm : w.cell? ⟨5, 0, none⟩ = some (.int .i64 m)) :
    Calls Tryz.prog 19 #[.string s] w fun e w' => e = .returned (.slice (some ⟨w.heap.size, 0, none⟩) (pcs s.data.toList).length (pcs s.data.toList).length) ∧ RowAt w.heap.size ((pcs s.data.toList).map (fun x => Value.string ⟨x.toArray⟩)).toArray 9 w' ∧ Below w.heap.size w w' := by
  have HS := hid_of' (Tryz.strings_Split s ⟨#[10]⟩ m w (by omega) hm (by decide))
  go_enter Tryz.func19, Tryz.ntmps19
  go_wp2_with (go_at_call 40; refine HS.out.mono ?_; rintro r w1 ⟨rfl, rfl⟩)
  go_ret
  refine ⟨by rw [← pcs_len]; rfl, ?_, below_one _ _⟩
  rw [pcs_cells, List.map_map]
  exact row_new w _ _
/-- Where the reading stands. -/
def SpInv (S : List UInt8) (k f i : Nat) : Prop := (i ≤ S.length ∧ f ≤ i ∧ ∃ prev, prev.length = k ∧ pcs S = prev ++ glue ((S.drop f).take (i - f)) (pcs (S.drop i))) ∨ (i = S.length + 1 ∧ k = (pcs S).length)
theorem SpInv.start (S : List UInt8) : SpInv S 0 0 0 := .inl ⟨Nat.zero_le _, Nat.le_refl _, [], rfl, by simp [glue_nil _ (pcs_ne S)]⟩
theorem take_more {S : List UInt8} {f i : Nat} {b : UInt8} (hf : f ≤ i) (hb : S[i]? = some b) : (S.drop f).take (i + 1 - f) = (S.drop f).take (i - f) ++ [b] := by
  have h : (S.drop f)[i - f]? = some b := by rw [List.getElem?_drop]; rw [show f + (i - f) = i by omega]; exact hb
  rw [show i + 1 - f = (i - f) + 1 by omega, List.take_add_one, h]; rfl
theorem drop_at {S : List UInt8} {i : Nat} {b : UInt8} (hb : S[i]? = some b) : S.drop i = b :: S.drop (i + 1) := by
  have hi := (List.getElem?_eq_some_iff.1 hb).1
  rw [List.drop_eq_getElem_cons hi]
  congr 1
  exact (List.getElem?_eq_some_iff.1 hb).2
theorem SpInv.other {S : List UInt8} {k f i : Nat} {b : UInt8} (h : SpInv S k f i) (hb : S[i]? = some b) (h10 : ¬ b = 10) : SpInv S k f (i + 1) := by
  have hi := (List.getElem?_eq_some_iff.1 hb).1
  rcases h with ⟨h1, h2, prev, h3, h4⟩ | ⟨h1, _⟩
  · refine .inl ⟨by omega, by omega, prev, h3, ?_⟩
    rw [h4, drop_at hb, pcs_other _ h10, glue_glue _ _ _ (pcs_ne _), take_more h2 hb]
  · omega
theorem SpInv.hit {S : List UInt8} {k f i : Nat} (h : SpInv S k f i) (hi : i ≤ S.length) (h10 : ∀ b, S[i]? = some b → b = 10) : f ≤ i ∧ (pcs S)[k]? = some ((S.drop f).take (i - f)) ∧ SpInv S (k + 1) (i + 1) (i + 1) := by
  rcases h with ⟨h1, h2, prev, h3, h4⟩ | ⟨h1, _⟩
  · refine ⟨h2, ?_⟩
    by_cases hl : i < S.length
    · obtain ⟨b, hb⟩ : ∃ b, S[i]? = some b := ⟨_, List.getElem?_eq_getElem hl⟩
      have e := h10 b hb
      subst e
      rw [drop_at hb, pcs_end] at h4
      have h5 : pcs S = prev ++ ((S.drop f).take (i - f)) :: pcs (S.drop (i + 1)) := by simpa [glue] using h4
      refine ⟨by rw [h5, ← h3]; simp, .inl ⟨by omega, Nat.le_refl _, prev ++ [(S.drop f).take (i - f)], by simp [h3], ?_⟩⟩
      rw [h5, Nat.sub_self, List.take_zero, glue_nil _ (pcs_ne _)]
      simp
    · have e : i = S.length := by omega
      have h5 : pcs S = prev ++ [(S.drop f).take (i - f)] := by
        rw [h4, e, List.drop_length]; simp [glue, pcs]
      refine ⟨by rw [h5, ← h3]; simp, .inr ⟨by omega, ?_⟩⟩
      rw [h5]; simp [h3]
  · omega
theorem SpInv.last {S : List UInt8} {k f i : Nat} (h : SpInv S k f i) (hi : ¬ i ≤ S.length) : i = S.length + 1 ∧ k = (pcs S).length := by
  rcases h with ⟨h1, _⟩ | h
  · omega
  · exact h
theorem ba_eq {s t : ByteArray} (h : s.data.toList = t.data.toList) : s = t := by
  cases s with
  | mk a => cases t with
    | mk b => simp only [Array.toList_inj] at h; rw [h]
theorem cut_is (s : ByteArray) (f i : Nat) : s.extract f i = ⟨((s.data.toList.drop f).take (i - f)).toArray⟩ := ba_eq (by rw [Lib.extract_data])
theorem len_is (s : ByteArray) : s.data.toList.length = s.size := by rw [Array.length_toList]; rfl
theorem byte_at {s : ByteArray} {i : Nat} {b : UInt8} (h : s.data.toList[i]? = some b) (hi : i < s.size) : s[i] = b := by
  have h1 : s.data[i]? = some b := by simpa using h
  have h2 := (Array.getElem?_eq_some_iff.1 h1).2
  exact h2
theorem ten_of (b : UInt8) : ((b.toNat : Int) != 10) = !decide (b = 10) := by
  by_cases h : b = 10
  · subst h; rfl
  · have h2 : ¬ b.toNat = 10 := fun e => h (UInt8.toNat_inj.1 (by rw [e]; rfl))
    rw [decide_eq_false h]
    simp only [Bool.not_false, bne_iff_ne]
    omega

set_option maxHeartbeats 2000000 in
theorem split_all {ad : Nat → Addr} (s : ByteArray) (m : Int) (w : World) (L : Laid ad w) (hm : w.cell? ⟨5, 0, none⟩ = some (.int .i64 m)) :
    Calls Tryz.prog 7 #[.string s] w fun e w' => e = .returned (.bool true) ∧ Below w.heap.size w w' := by
  by_cases hs : s.size ≤ 2000
  · have h1 : ¬ (2000 : Int) < (s.size : Int) := by omega
    have HS := hid_of' (lsplit_any s m w (by omega) hm)
    obtain ⟨S, hS⟩ : ∃ S, s.data.toList = S := ⟨_, rfl⟩
    have hl : S.length = s.size := by rw [← hS]; exact len_is s
    rw [hS] at HS
    have HW : Hid (∀ x, Below w.heap.size w x → _) := fun x hx => wakes6_ok x (L.below hx)
    clear L hm
    go_enter Tryz.func7, Tryz.ntmps7
    go_wp2_with (go_at_call 19; refine HS.out.mono ?_; rintro r w1 ⟨rfl, hR, hb1⟩)
    clear HS
    go_loopw [4, 5, 6] (fun kv fv iv wr => ∃ k f i : Nat, kv = .int .i64 (k : Int) ∧ fv = .int .i64 (f : Int) ∧ iv = .int .i64 (i : Int) ∧ i ≤ S.length + 1 ∧ SpInv S k f i ∧ RowAt w.heap.size ((pcs S).map (fun x => Value.string ⟨x.toArray⟩)).toArray 9 wr ∧ Below w.heap.size w wr) (fun _ _ iv _ => S.length + 1 - (intOf iv).toNat)
    case atStart => exact ⟨0, 0, 0, rfl, rfl, rfl, Nat.zero_le _, SpInv.start S, hR, hb1⟩
    case round =>
      obtain ⟨k, f, i, rfl, rfl, rfl, hi1, hinv, hRr, hB⟩ := hrel
      clear hR hb1
      have hpl := pcs_le S
      by_cases hi : i ≤ S.length
      · have q1 : (i : Int) ≤ (s.size : Int) := by omega
        by_cases hil : i < S.length
        · have q2 : (i : Int) < (s.size : Int) := by omega
          have q3 : i < s.size := by omega
          obtain ⟨b, hb⟩ : ∃ b, S[i]? = some b := ⟨_, List.getElem?_eq_getElem hil⟩
          have hbt : s[i] = b := byte_at (by rw [hS]; exact hb) q3
          by_cases hb10 : b = 10
          · have q4 : ((s[i].toNat : Int) != 10) = false := by rw [hbt, ten_of, hb10]; rfl
            have h10 : ∀ c, S[i]? = some c → c = 10 := fun c hc => by rw [hb] at hc; cases hc; exact hb10
            obtain ⟨hfi, hpc, hnx⟩ := hinv.hit hi h10
            have hkl := (List.getElem?_eq_some_iff.1 hpc).1
            have k1 : ¬ ((pcs S).length : Int) ≤ (k : Int) := by omega
            have k2 : (k : Int) < ((pcs S).length : Int) := by omega
            have k0 : (decide (((pcs S).length : Int) ≤ (k : Int))) = false := by rw [decide_eq_false_iff_not]; omega
            have hcl : ∀ x : Wld wr, (wOf x).cell? ⟨w.heap.size, k, none⟩ = some (.string (s.extract f i)) := fun x => by
              refine hRr.cls k _ ?_ x
              simp [hpc, cut_is, hS]
            have f1 : 0 ≤ (f : Int) := by omega
            have f2 : (f : Int) ≤ (i : Int) := by omega
            have hX := hid_of' hnx
            clear hinv hnx hpc hkl h10
            go_upto_region 10 with fail
            refine wp_region_cls (by kernel_rfl) (by kernel_rfl) ?_
            repeat (first | go_big_quiet_skip | (go_big_quiet_want; first | (go_big_quiet_op; first | go_big_quiet_on | go_big_quiet_call ((fail)))))
            refine wpQuiet_nil ?_
            rintro w1 ⟨s1, e1⟩
            have hb1 := wOf_below s1
            rw [← e1] at hb1
            clear e1 s1
            replace hRr := hRr.later hb1
            replace hB := bgo hB hb1
            clear hb1
            go_wp2
            go_roundw
            case rel => exact ⟨k + 1, i + 1, i + 1, by go_num, by go_num, by go_num, by omega, hX.out, hRr, hB⟩
            case measure => simp [intOf]; omega
          · have q4 : ((s[i].toNat : Int) != 10) = true := by rw [hbt, ten_of, decide_eq_false hb10]; rfl
            have hX := hid_of' (hinv.other hb hb10)
            clear hinv hbt
            go_wp2
            go_roundw
            case rel => exact ⟨k, f, i + 1, rfl, rfl, by go_num, by omega, hX.out, hRr, hB⟩
            case measure => simp [intOf]; omega
        · have q2 : ¬ (i : Int) < (s.size : Int) := by omega
          have h10 : ∀ c, S[i]? = some c → c = 10 := fun c hc => absurd (List.getElem?_eq_some_iff.1 hc).1 hil
          obtain ⟨hfi, hpc, hnx⟩ := hinv.hit hi h10
          have hkl := (List.getElem?_eq_some_iff.1 hpc).1
          have k1 : ¬ ((pcs S).length : Int) ≤ (k : Int) := by omega
          have k2 : (k : Int) < ((pcs S).length : Int) := by omega
          have k0 : (decide (((pcs S).length : Int) ≤ (k : Int))) = false := by rw [decide_eq_false_iff_not]; omega
          have hcl : ∀ x : Wld wr, (wOf x).cell? ⟨w.heap.size, k, none⟩ = some (.string (s.extract f i)) := fun x => by
            refine hRr.cls k _ ?_ x
            simp [hpc, cut_is, hS]
          have f1 : 0 ≤ (f : Int) := by omega
          have f2 : (f : Int) ≤ (i : Int) := by omega
          have hX := hid_of' hnx
          clear hinv hnx hpc hkl h10
          go_upto_region 10 with fail
          refine wp_region_cls (by kernel_rfl) (by kernel_rfl) ?_
          repeat (first | go_big_quiet_skip | (go_big_quiet_want; first | (go_big_quiet_op; first | go_big_quiet_on | go_big_quiet_call ((fail)))))
          refine wpQuiet_nil ?_
          rintro w1 ⟨s1, e1⟩
          have hb1 := wOf_below s1
          rw [← e1] at hb1
          clear e1 s1
          replace hRr := hRr.later hb1
          replace hB := bgo hB hb1
          clear hb1
          go_wp2
          go_roundw
          case rel => exact ⟨k + 1, i + 1, i + 1, by go_num, by go_num, by go_num, by omega, hX.out, hRr, hB⟩
          case measure => simp [intOf]; omega
      · have q1 : ¬ (i : Int) ≤ (s.size : Int) := by omega
        obtain ⟨z1, z2⟩ := hinv.last hi
        have z3 : ((k : Int) == ((pcs S).length : Int)) = true := by rw [beq_iff_eq]; omega
        have HV := hid_of' (HW.out _ hB)
        clear hinv hi1 hi z1 z2
        go_wp2_with (go_at_call 12; refine HV.out.mono ?_; rintro r w9 ⟨rfl, hb9⟩)
        go_ret
        exact ⟨rfl, bgo hB hb9⟩
  · have h1 : (2000 : Int) < (s.size : Int) := by omega
    obtain ⟨s1, hs1⟩ : ∃ s1, s.extract 0 2000 = s1 := ⟨_, rfl⟩
    have hz1 : s1.size ≤ 2000 := by rw [← hs1, ByteArray.size_extract]; omega
    have HS := hid_of' (lsplit_any s1 m w (by omega) hm)
    obtain ⟨S, hS⟩ : ∃ S, s1.data.toList = S := ⟨_, rfl⟩
    have hl : S.length = s1.size := by rw [← hS]; exact len_is s1
    rw [hS] at HS
    have HW : Hid (∀ x, Below w.heap.size w x → _) := fun x hx => wakes6_ok x (L.below hx)
    clear L hm hs
    go_enter Tryz.func7, Tryz.ntmps7
    go_upto_region 3 with fail
    clear hs1 h1
    go_wp2_with (go_at_call 19; refine HS.out.mono ?_; rintro r w1 ⟨rfl, hR, hb1⟩)
    clear HS
    go_loopw [4, 5, 6] (fun kv fv iv wr => ∃ k f i : Nat, kv = .int .i64 (k : Int) ∧ fv = .int .i64 (f : Int) ∧ iv = .int .i64 (i : Int) ∧ i ≤ S.length + 1 ∧ SpInv S k f i ∧ RowAt w.heap.size ((pcs S).map (fun x => Value.string ⟨x.toArray⟩)).toArray 9 wr ∧ Below w.heap.size w wr) (fun _ _ iv _ => S.length + 1 - (intOf iv).toNat)
    case atStart => exact ⟨0, 0, 0, rfl, rfl, rfl, Nat.zero_le _, SpInv.start S, hR, hb1⟩
    case round =>
      obtain ⟨k, f, i, rfl, rfl, rfl, hi1, hinv, hRr, hB⟩ := hrel
      clear hR hb1
      have hpl := pcs_le S
      by_cases hi : i ≤ S.length
      · have q1 : (i : Int) ≤ (s1.size : Int) := by omega
        by_cases hil : i < S.length
        · have q2 : (i : Int) < (s1.size : Int) := by omega
          have q3 : i < s1.size := by omega
          obtain ⟨b, hb⟩ : ∃ b, S[i]? = some b := ⟨_, List.getElem?_eq_getElem hil⟩
          have hbt : s1[i] = b := byte_at (by rw [hS]; exact hb) q3
          by_cases hb10 : b = 10
          · have q4 : ((s1[i].toNat : Int) != 10) = false := by rw [hbt, ten_of, hb10]; rfl
            have h10 : ∀ c, S[i]? = some c → c = 10 := fun c hc => by rw [hb] at hc; cases hc; exact hb10
            obtain ⟨hfi, hpc, hnx⟩ := hinv.hit hi h10
            have hkl := (List.getElem?_eq_some_iff.1 hpc).1
            have k1 : ¬ ((pcs S).length : Int) ≤ (k : Int) := by omega
            have k2 : (k : Int) < ((pcs S).length : Int) := by omega
            have k0 : (decide (((pcs S).length : Int) ≤ (k : Int))) = false := by rw [decide_eq_false_iff_not]; omega
            have hcl : ∀ x : Wld wr, (wOf x).cell? ⟨w.heap.size, k, none⟩ = some (.string (s1.extract f i)) := fun x => by
              refine hRr.cls k _ ?_ x
              simp [hpc, cut_is, hS]
            have f1 : 0 ≤ (f : Int) := by omega
            have f2 : (f : Int) ≤ (i : Int) := by omega
            have hX := hid_of' hnx
            clear hinv hnx hpc hkl h10
            go_upto_region 10 with fail
            refine wp_region_cls (by kernel_rfl) (by kernel_rfl) ?_
            repeat (first | go_big_quiet_skip | (go_big_quiet_want; first | (go_big_quiet_op; first | go_big_quiet_on | go_big_quiet_call ((fail)))))
            refine wpQuiet_nil ?_
            rintro w1 ⟨s1, e1⟩
            have hb1 := wOf_below s1
            rw [← e1] at hb1
            clear e1 s1
            replace hRr := hRr.later hb1
            replace hB := bgo hB hb1
            clear hb1
            go_wp2
            go_roundw
            case rel => exact ⟨k + 1, i + 1, i + 1, by go_num, by go_num, by go_num, by omega, hX.out, hRr, hB⟩
            case measure => simp [intOf]; omega
          · have q4 : ((s1[i].toNat : Int) != 10) = true := by rw [hbt, ten_of, decide_eq_false hb10]; rfl
            have hX := hid_of' (hinv.other hb hb10)
            clear hinv hbt
            go_wp2
            go_roundw
            case rel => exact ⟨k, f, i + 1, rfl, rfl, by go_num, by omega, hX.out, hRr, hB⟩
            case measure => simp [intOf]; omega
        · have q2 : ¬ (i : Int) < (s1.size : Int) := by omega
          have h10 : ∀ c, S[i]? = some c → c = 10 := fun c hc => absurd (List.getElem?_eq_some_iff.1 hc).1 hil
          obtain ⟨hfi, hpc, hnx⟩ := hinv.hit hi h10
          have hkl := (List.getElem?_eq_some_iff.1 hpc).1
          have k1 : ¬ ((pcs S).length : Int) ≤ (k : Int) := by omega
          have k2 : (k : Int) < ((pcs S).length : Int) := by omega
          have k0 : (decide (((pcs S).length : Int) ≤ (k : Int))) = false := by rw [decide_eq_false_iff_not]; omega
          have hcl : ∀ x : Wld wr, (wOf x).cell? ⟨w.heap.size, k, none⟩ = some (.string (s1.extract f i)) := fun x => by
            refine hRr.cls k _ ?_ x
            simp [hpc, cut_is, hS]
          have f1 : 0 ≤ (f : Int) := by omega
          have f2 : (f : Int) ≤ (i : Int) := by omega
          have hX := hid_of' hnx
          clear hinv hnx hpc hkl h10
          go_upto_region 10 with fail
          refine wp_region_cls (by kernel_rfl) (by kernel_rfl) ?_
          repeat (first | go_big_quiet_skip | (go_big_quiet_want; first | (go_big_quiet_op; first | go_big_quiet_on | go_big_quiet_call ((fail)))))
          refine wpQuiet_nil ?_
          rintro w1 ⟨s1, e1⟩
          have hb1 := wOf_below s1
          rw [← e1] at hb1
          clear e1 s1
          replace hRr := hRr.later hb1
          replace hB := bgo hB hb1
          clear hb1
          go_wp2
          go_roundw
          case rel => exact ⟨k + 1, i + 1, i + 1, by go_num, by go_num, by go_num, by omega, hX.out, hRr, hB⟩
          case measure => simp [intOf]; omega
      · have q1 : ¬ (i : Int) ≤ (s1.size : Int) := by omega
        obtain ⟨z1, z2⟩ := hinv.last hi
        have z3 : ((k : Int) == ((pcs S).length : Int)) = true := by rw [beq_iff_eq]; omega
        have HV := hid_of' (HW.out _ hB)
        clear hinv hi1 hi z1 z2
        go_wp2_with (go_at_call 12; refine HV.out.mono ?_; rintro r w9 ⟨rfl, hb9⟩)
        go_ret
        exact ⟨rfl, bgo hB hb9⟩
end Go.Proofs.YtdmiibihibikdaaGreatDoor
