
/-
  Package script: which steps are plain.
-/
import Derived.Test.YtphdkniplhkkfaaDoorSq4
import Derived.Test.YtphdkniplhkkfaaDoorSq6
import Derived.Lib.OthersKept
namespace Go.Proofs.YtphdkniplhkkfaaDoor
open Go.RowKit Go.Extern.Stop Go.Stop Go.Extern
set_option maxRecDepth 100000

/-- What byteOf tells. -/
def byV (c : Int) : Int := if byN c < 256 then (byN c : Int) else 0
theorem by_a {c : Int} (h : 97 ≤ c ∧ c < 123) : byV c = c - 97 ∧ okC c = true := by
  have e : byN c = (c - 97).toNat := if_pos h
  unfold byV okC
  rw [e, if_pos (by omega)]
  exact ⟨by omega, decide_eq_true (by omega)⟩
theorem by_no {c : Int} (h : ¬ (97 ≤ c ∧ c < 123)) (h1 : ¬ c = 10) (h2 : ¬ c = 233) (h3 : ¬ c = 19990) : byV c = 0 ∧ okC c = false := by
  have e : byN c = 256 := by
    unfold byN
    rw [if_neg h, if_neg h1, if_neg h2, if_neg h3]
  unfold byV okC
  rw [e]
  exact ⟨rfl, rfl⟩
theorem byteOf_is (c : Int) (w : World) : Calls Tryd.prog 32 #[.int .i32 c] w fun e w' => e = .returned (.tuple #[.int .u8 (byV c), .bool (okC c)]) ∧ w' = w := by
  by_cases h : 97 ≤ c ∧ c < 123
  · obtain ⟨e1, e2⟩ := by_a h
    rw [e1, e2]
    have h1 := h.1
    have h2 := h.2
    clear h e1 e2
    go_enter Tryd.func32, Tryd.ntmps32
    go_wp2
    go_ret2
    exact ⟨rfl, rfl⟩
  · by_cases h1 : c = 10
    · subst h1
      go_enter Tryd.func32, Tryd.ntmps32
      go_wp2
      go_ret2
      exact ⟨rfl, rfl⟩
    · by_cases h2 : c = 233
      · subst h2
        go_enter Tryd.func32, Tryd.ntmps32
        go_wp2
        go_ret2
        exact ⟨rfl, rfl⟩
      · by_cases h3 : c = 19990
        · subst h3
          go_enter Tryd.func32, Tryd.ntmps32
          go_wp2
          go_ret2
          exact ⟨rfl, rfl⟩
        · obtain ⟨e1, e2⟩ := by_no h h1 h2 h3
          rw [e1, e2]
          clear e1 e2
          by_cases h4 : 97 ≤ c
          · have h5 : ¬ c < 123 := by omega
            clear h
            go_enter Tryd.func32, Tryd.ntmps32
            go_wp2
            go_ret2
            exact ⟨rfl, rfl⟩
          · clear h
            go_enter Tryd.func32, Tryd.ntmps32
            go_wp2
            go_ret2
            exact ⟨rfl, rfl⟩
theorem isByte_at {k : Int} {b : Bool} (h : byt k = b) (w : World) : Calls Tryd.prog 22 #[.int .i64 k] w fun e w' => e = .returned (.bool b) ∧ w' = w := by
  rw [← h]
  unfold byt
  by_cases h0 : 0 ≤ k
  · by_cases h1 : k ≤ 255
    · go_enter Tryd.func22, Tryd.ntmps22
      go_wp2
      go_ret
      exact ⟨by simp [h0, h1], rfl⟩
    · go_enter Tryd.func22, Tryd.ntmps22
      go_wp2
      go_ret
      exact ⟨by simp [h1], rfl⟩
  · have hd9 : decide (0 ≤ k) = false := decide_eq_false h0
    go_enter Tryd.func22, Tryd.ntmps22
    go_wp2
    go_ret
    exact ⟨rfl, rfl⟩
/-- One character further. -/
theorem rn_at (s : ByteArray) (p : Nat) (h : p < s.size) : rn (s.data.toList.drop p) = ((Utf8.decode s p).1 : Int) :: rn (s.data.toList.drop (p + (Utf8.decode s p).2)) ∧ 1 ≤ (Utf8.decode s p).2 := by
  have hne : s.data.toList.drop p ≠ [] := by
    intro e
    have := congrArg List.length e
    rw [List.length_drop, Array.length_toList] at this
    have h2 : s.data.size = s.size := rfl
    simp at this
    omega
  have h1 := rn_step _ hne
  have h2 := Lib.decodeL_width (s.data.toList.drop p)
  rw [Lib.decodeL_drop] at h1 h2
  rw [List.drop_drop] at h1
  exact ⟨h1, h2⟩
theorem rn_end (s : ByteArray) (p : Nat) (h : ¬ p < s.size) : rn (s.data.toList.drop p) = [] := by
  rw [List.drop_of_length_le (by rw [Array.length_toList]; exact Nat.not_lt.1 h)]
  rfl
set_option maxHeartbeats 4000000 in
theorem isPlainText_is (s : ByteArray) (hs : s.size ≤ 1000000000000) (w : World) : Calls Tryd.prog 24 #[.string s] w fun e w' => e = .returned (.bool (plT s)) ∧ Below w.heap.size w w' := by
  have HB := hid_of' byteOf_is
  have HP : Hid (plT s = (decide ((rn s.data.toList).length ≤ 15) && (rn s.data.toList).all okC)) := rfl
  generalize plT s = R at HP ⊢
  go_enter Tryd.func24, Tryd.ntmps24
  go_wp2
  go_loopw [3] (fun mv wr => ∃ m p : Nat, mv = .int .i64 (m : Int) ∧ m ≤ 15 ∧ Hid ((rn s.data.toList).length = m + (rn (s.data.toList.drop p)).length) ∧ Hid ((rn s.data.toList).all okC = (rn (s.data.toList.drop p)).all okC) ∧ wr.heap[w.heap.size]? = some (.stringIter s p) ∧ Below w.heap.size w wr) (fun _ wr => s.size - wr.iterPos w.heap.size)
  case atStart => exact ⟨0, 0, rfl, by omega, by simp [Hid], rfl, World.iter_heap w s 0, (Below.refl _ _).alloc (Nat.le_refl _) _⟩
  case round =>
    obtain ⟨m, p, rfl, hm, hlen, hall, hit, hB⟩ := hrel
    by_cases hp : p < s.size
    · have hnx : ∀ ty, (Instr.next (.pointer (some ⟨w.heap.size, 0, none⟩)) true ty).run Tryd.prog wr = _ := fun ty => Lib.run_next_any_at wr w.heap.size s p ty hit hp
      have hit2 := Lib.iterAt_heap wr w.heap.size s p (p + (Utf8.decode s p).2) hit
      have hB2 := Lib.below_iterAt hB (k := w.heap.size) (Nat.le_refl _) s (p + (Utf8.decode s p).2)
      obtain ⟨hr, hw1⟩ := rn_at s p hp
      obtain ⟨W1, hW1⟩ : ∃ W1, W1 = wr.iterAt w.heap.size s (p + (Utf8.decode s p).2) := ⟨_, rfl⟩
      rw [← hW1] at hnx hit2 hB2
      obtain ⟨c, hcc⟩ : ∃ c : Int, c = ((Utf8.decode s p).1 : Int) := ⟨_, rfl⟩
      rw [← hcc] at hnx hr
      rw [hr] at hlen hall
      obtain ⟨p2, hp2⟩ : ∃ p2, p2 = p + (Utf8.decode s p).2 := ⟨_, rfl⟩
      rw [← hp2] at hit2 hlen hall
      have hpp : p < p2 := by omega
      have hl2 : (rn s.data.toList).length = m + ((rn (s.data.toList.drop p2)).length + 1) := hlen.out
      have ha2 : (rn s.data.toList).all okC = (okC c && (rn (s.data.toList.drop p2)).all okC) := hall.out
      have HP2 := hid_of' (show p < s.size ∧ wr.iterPos w.heap.size = p from ⟨hp, by unfold World.iterPos; rw [hit]⟩)
      clear hW1 hit hB hp hr hlen hall hcc hp2
      cases ho : okC c with
      | false =>
        have hR : R = false := by
          rw [HP.out, ha2, ho]
          simp
        subst hR
        have HC := hid_of' (fun x => by have := HB.out c x; rw [ho] at this; exact this)
        clear ha2 hl2 ho
        go_wp2_with (go_at_call 32; refine (HC.out _).mono ?_; rintro r w2 ⟨rfl, hw2⟩; obtain rfl := hw2.symm)
        go_ret
        exact ⟨rfl, hB2⟩
      | true =>
        have HC := hid_of' (fun x => by have := HB.out c x; rw [ho] at this; exact this)
        rw [ho, Bool.true_and] at ha2
        by_cases h15 : m = 15
        · have hR : R = false := by
            rw [HP.out, decide_eq_false (by omega), Bool.false_and]
          subst hR
          subst h15
          clear ha2 hl2 ho
          go_wp2_with (go_at_call 32; refine (HC.out _).mono ?_; rintro r w2 ⟨rfl, hw2⟩; obtain rfl := hw2.symm)
          go_ret
          exact ⟨rfl, hB2⟩
        · have hm1 : ¬ (m : Int) + 1 = 16 := by omega
          have HL := hid_of' (And.intro hl2 ha2)
          clear ha2 hl2 ho
          go_wp2_with (go_at_call 32; refine (HC.out _).mono ?_; rintro r w2 ⟨rfl, hw2⟩; obtain rfl := hw2.symm)
          refine ⟨⟨m + 1, p2, by go_num, by omega, ?_, HL.out.2, hit2, hB2⟩, ?_⟩
          · have := HL.out.1
            show (rn s.data.toList).length = m + 1 + (rn (s.data.toList.drop p2)).length
            omega
          · rw [HP2.out.2]
            unfold World.iterPos
            rw [hit2]
            have := HP2.out.1
            show s.size - p2 < s.size - p
            omega
    · have hnx : ∀ ty, (Instr.next (.pointer (some ⟨w.heap.size, 0, none⟩)) true ty).run Tryd.prog wr = _ := fun ty => Lib.run_next_end_at wr w.heap.size s p ty hit hp
      have HQ := hid_of' hB
      have hr := rn_end s p hp
      rw [hr] at hlen hall
      have hR : R = true := by
        rw [HP.out, hall.out, hlen.out]
        simp
        exact hm
      subst hR
      clear hB hlen hall hr
      go_wp2
      go_ret
      exact ⟨rfl, HQ.out⟩
def knd (k : Int) : Bool := decide (0 ≤ k ∧ k < 14)
theorem pln_eq (s : Stp) : pln s = (knd s.k && byt s.a && byt s.b && byt s.c && (if hasT s.k then plT s.t else decide (s.t.size = 0))) := by
  unfold pln knd
  rw [Bool.decide_and]
theorem empty_is (t : ByteArray) : (t.toList == []) = decide (t.size = 0) := by
  have h2 : t.data.toList.length = t.size := by rw [Array.length_toList]; rfl
  rw [ByteArray.toList_eq]
  cases h : t.data.toList with
  | nil =>
    rw [h] at h2
    have h3 : t.size = 0 := h2.symm
    rw [decide_eq_true h3]
    rfl
  | cons x l =>
    rw [h] at h2
    rw [decide_eq_false (by rw [← h2]; simp)]
    rfl
set_option maxHeartbeats 4000000 in
theorem plain_is (k a b c : Int) (t : ByteArray) (ht : t.size ≤ 1000000000000) (w : World) : Calls Tryd.prog 10 #[.agg (stv k a b c t)] w fun e w' => e = .returned (.bool (pln ⟨k, a, b, c, t⟩)) ∧ Below w.heap.size w w' := by
  rw [pln_eq]
  dsimp only
  have b1 := below_one w (.cells (stv k a b c t) 30)
  have HT := hid_of' (fun x => isPlainText_is t ht x)
  have HE : Hid ((t.toList == []) = decide (t.size = 0)) := empty_is t
  unfold stv at b1 ⊢
  have HB1 := hid_of' b1
  have H0 := hid_of' (fun x => isKind_at (k := k) (b := knd k) rfl x)
  have H1 := hid_of' (fun x => isByte_at (k := a) rfl x)
  have H2 := hid_of' (fun x => isByte_at (k := b) rfl x)
  have H3 := hid_of' (fun x => isByte_at (k := c) rfl x)
  have H4 := hid_of' (fun x => hasT_at (k := k) rfl x)
  obtain ⟨X, hX⟩ : ∃ X, X = (if hasT k = true then plT t else decide (t.size = 0)) := ⟨_, rfl⟩
  rw [← hX]
  have HX := hid_of' hX
  clear b1 hX
  cases e0 : knd k
  · rw [e0] at H0
    clear e0
    go_enter Tryd.func10, Tryd.ntmps10
    go_wp2_with (first
        | (go_at_call 21; with_reducible refine (H0.out _).mono ?_; rintro e wx ⟨rfl, hwx⟩; rw [hwx]; clear hwx)
        | (go_at_call 22; (first | (with_reducible refine (H1.out _).mono ?_) | (with_reducible refine (H2.out _).mono ?_) | (with_reducible refine (H3.out _).mono ?_)); rintro e wx ⟨rfl, hwx⟩; rw [hwx]; clear hwx)
        | (go_at_call 23; with_reducible refine (H4.out _).mono ?_; rintro e wx ⟨rfl, hwx⟩; rw [hwx]; clear hwx)
        | (go_at_call 24; with_reducible refine (HT.out _).mono ?_; rintro e wy ⟨rfl, hb9⟩))
    go_ret
    exact ⟨rfl, HB1.out⟩
  · rw [e0] at H0
    clear e0
    cases e1 : byt a
    · rw [e1] at H1
      clear e1
      go_enter Tryd.func10, Tryd.ntmps10
      go_wp2_with (first
          | (go_at_call 21; with_reducible refine (H0.out _).mono ?_; rintro e wx ⟨rfl, hwx⟩; rw [hwx]; clear hwx)
          | (go_at_call 22; (first | (with_reducible refine (H1.out _).mono ?_) | (with_reducible refine (H2.out _).mono ?_) | (with_reducible refine (H3.out _).mono ?_)); rintro e wx ⟨rfl, hwx⟩; rw [hwx]; clear hwx)
          | (go_at_call 23; with_reducible refine (H4.out _).mono ?_; rintro e wx ⟨rfl, hwx⟩; rw [hwx]; clear hwx)
          | (go_at_call 24; with_reducible refine (HT.out _).mono ?_; rintro e wy ⟨rfl, hb9⟩))
      go_ret
      exact ⟨rfl, HB1.out⟩
    · rw [e1] at H1
      clear e1
      cases e2 : byt b
      · rw [e2] at H2
        clear e2
        go_enter Tryd.func10, Tryd.ntmps10
        go_wp2_with (first
            | (go_at_call 21; with_reducible refine (H0.out _).mono ?_; rintro e wx ⟨rfl, hwx⟩; rw [hwx]; clear hwx)
            | (go_at_call 22; (first | (with_reducible refine (H1.out _).mono ?_) | (with_reducible refine (H2.out _).mono ?_) | (with_reducible refine (H3.out _).mono ?_)); rintro e wx ⟨rfl, hwx⟩; rw [hwx]; clear hwx)
            | (go_at_call 23; with_reducible refine (H4.out _).mono ?_; rintro e wx ⟨rfl, hwx⟩; rw [hwx]; clear hwx)
            | (go_at_call 24; with_reducible refine (HT.out _).mono ?_; rintro e wy ⟨rfl, hb9⟩))
        go_ret
        exact ⟨rfl, HB1.out⟩
      · rw [e2] at H2
        clear e2
        cases e3 : byt c
        · rw [e3] at H3
          clear e3
          go_enter Tryd.func10, Tryd.ntmps10
          go_wp2_with (first
              | (go_at_call 21; with_reducible refine (H0.out _).mono ?_; rintro e wx ⟨rfl, hwx⟩; rw [hwx]; clear hwx)
              | (go_at_call 22; (first | (with_reducible refine (H1.out _).mono ?_) | (with_reducible refine (H2.out _).mono ?_) | (with_reducible refine (H3.out _).mono ?_)); rintro e wx ⟨rfl, hwx⟩; rw [hwx]; clear hwx)
              | (go_at_call 23; with_reducible refine (H4.out _).mono ?_; rintro e wx ⟨rfl, hwx⟩; rw [hwx]; clear hwx)
              | (go_at_call 24; with_reducible refine (HT.out _).mono ?_; rintro e wy ⟨rfl, hb9⟩))
          go_ret
          exact ⟨rfl, HB1.out⟩
        · rw [e3] at H3
          clear e3
          cases e4 : hasT k
          · have eX : X = decide (t.size = 0) := by rw [HX.out, if_neg (by rw [e4]; decide)]
            rw [e4] at H4
            clear e4
            go_enter Tryd.func10, Tryd.ntmps10
            go_wp2_with (first
                | (go_at_call 21; with_reducible refine (H0.out _).mono ?_; rintro e wx ⟨rfl, hwx⟩; rw [hwx]; clear hwx)
                | (go_at_call 22; (first | (with_reducible refine (H1.out _).mono ?_) | (with_reducible refine (H2.out _).mono ?_) | (with_reducible refine (H3.out _).mono ?_)); rintro e wx ⟨rfl, hwx⟩; rw [hwx]; clear hwx)
                | (go_at_call 23; with_reducible refine (H4.out _).mono ?_; rintro e wx ⟨rfl, hwx⟩; rw [hwx]; clear hwx)
                | (go_at_call 24; with_reducible refine (HT.out _).mono ?_; rintro e wy ⟨rfl, hb9⟩))
            have e9 : t.toList.isEmpty = X := by
              rw [eX, ← HE.out]
              cases t.toList <;> rfl
            go_ret
            refine ⟨?_, HB1.out⟩
            show Ending.returned (Value.bool t.toList.isEmpty) = _
            rw [e9]
            simp
          · have eX : X = plT t := by rw [HX.out, if_pos e4]
            rw [e4] at H4
            clear e4
            rw [← eX] at HT
            clear eX
            go_enter Tryd.func10, Tryd.ntmps10
            go_wp2_with (first
                | (go_at_call 21; with_reducible refine (H0.out _).mono ?_; rintro e wx ⟨rfl, hwx⟩; rw [hwx]; clear hwx)
                | (go_at_call 22; (first | (with_reducible refine (H1.out _).mono ?_) | (with_reducible refine (H2.out _).mono ?_) | (with_reducible refine (H3.out _).mono ?_)); rintro e wx ⟨rfl, hwx⟩; rw [hwx]; clear hwx)
                | (go_at_call 23; with_reducible refine (H4.out _).mono ?_; rintro e wx ⟨rfl, hwx⟩; rw [hwx]; clear hwx)
                | (go_at_call 24; with_reducible refine (HT.out _).mono ?_; rintro e wy ⟨rfl, hb9⟩))
            go_ret
            exact ⟨by simp, bgo HB1.out hb9⟩
end Go.Proofs.YtphdkniplhkkfaaDoor
