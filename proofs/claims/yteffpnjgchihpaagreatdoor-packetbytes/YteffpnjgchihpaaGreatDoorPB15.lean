
/-
  A Writer's digits, Number, Text. Bytes of one's own that are appended to. The document's side: the form of a number. A number that was written is read again.
-/
import Derived.Test.YteffpnjgchihpaaGreatDoorPB14
import Derived.Test.YteffpnjgchihpaaGreatDoorPB07
namespace Go.Proofs.YteffpnjgchihpaaGreatDoor
open Go.RowKit
set_option maxRecDepth 100000

theorem form_len : ∀ (k n : Nat), 0 < k → n < 128 ^ k → (formN n).length ≤ k
  | 0, _, h, _ => absurd h (by decide)
  | 1, n, _, hn => by rw [form_small (by simpa using hn)]; simp
  | k + 2, n, _, hn => by
    by_cases h : n < 128
    · rw [form_small h]; simp
    · rw [form_big h]
      have := form_len (k + 1) (n / 128) (by omega) (by rw [Nat.pow_succ] at hn; omega)
      simp only [List.length_cons]
      omega

theorem form_len9 (n : Nat) (h : n < 9223372036854775808) : (formN n).length ≤ 9 := form_len 9 n (by decide) (by omega)

theorem byteN (n : Nat) (h : n < 256) : (Value.int .u8 (n : Int)) = .int .u8 ((UInt8.ofNat n).toNat : Int) := by
  rw [UInt8.toNat_ofNat', Nat.mod_eq_of_lt (by simpa using h)]

theorem wrap_div (m : Nat) (h : m < 9223372036854775808) : wrap64 ((m : Int) / 128) = ((m / 128 : Nat) : Int) := by unfold wrap64; omega
theorem ofN_small (m : Nat) (h : m < 128) : (m : Int) = ((UInt8.ofNat m).toNat : Int) := by
  rw [UInt8.toNat_ofNat', Nat.mod_eq_of_lt (by simpa using (by omega : m < 256))]
theorem ofN_big (m : Nat) : 128 + (m : Int) % 128 = ((UInt8.ofNat (m % 128 + 128)).toNat : Int) := by
  rw [UInt8.toNat_ofNat', Nat.mod_eq_of_lt (by simpa using (by omega : m % 128 + 128 < 256))]; omega

theorem meas_div (m : Nat) (h : ¬ m < 128) : ((m : Int) / 128).toNat < m := by omega

theorem byte_int {B b : Nat} {bs : List UInt8} {v : Value} {w : World} (h : WrAt B b bs v w) (x : Int) (c : UInt8) (hx : x = (c.toNat : Int)) (hlen : bs.length + 1 ≤ 140737488355328) (hBw : B ≤ w.heap.size) :
    Calls Tryz.prog 45 #[.pointer (some ⟨b, 0, none⟩), .int .u8 x] w fun e w' => e = .returned (.tuple #[]) ∧ (∃ v', WrAt B b (bs ++ [c]) v' w') ∧ Below B w w' := by
  subst hx; exact byte_any h c hlen hBw

set_option maxHeartbeats 1000000 in
theorem wdigits_any {B b : Nat} {bs : List UInt8} {v : Value} {w : World} (h : WrAt B b bs v w) (n : Nat) (hn : n < 9223372036854775808) (hlen : bs.length + 9 ≤ 140737488355328) (hBw : B ≤ w.heap.size) :
    Calls Tryz.prog 60 #[.pointer (some ⟨b, 0, none⟩), .int .i64 n] w fun e w' => e = .returned (.tuple #[]) ∧ (∃ v', WrAt B b (bs ++ formN n) v' w') ∧ Below B w w' := by
  have HL : Aside (bs.length + 9 ≤ 140737488355328 ∧ B ≤ w.heap.size ∧ n < 9223372036854775808) := ⟨hlen, hBw, hn⟩
  have HH : Aside (WrAt B b bs v w) := h
  clear h hlen hBw hn
  go_enter Tryz.func60, Tryz.ntmps60
  go_wp2_with fail
  go_loopg [1] n (fun k nv wr => ∃ (m : Nat) (pre : List UInt8) (v' : Value), k = m ∧ nv = .int .i64 (m : Int) ∧ WrAt B b (bs ++ pre) v' wr ∧ Aside (pre ++ formN m = formN n ∧ m < 9223372036854775808) ∧ Below B w wr)
  case atStart => exact ⟨n, [], v, rfl, rfl, by simpa using HH.out, ⟨by simp, HL.out.2.2⟩, Below.refl _ _⟩
  case round =>
    obtain ⟨m, pre, v', hgk, rfl, hW, hA, hb⟩ := hrel
    have HW : Aside (WrAt B b (bs ++ pre) v' wr) := hW
    have HB : Aside (Below B w wr) := hb
    clear hW hb
    have hpl : pre.length + 1 ≤ 9 := by
      have h1 := congrArg List.length hA.out.1
      have h2 := form_len9 n HL.out.2.2
      have h3 : 1 ≤ (formN m).length := by rw [formN]; split <;> simp
      rw [List.length_append] at h1
      omega
    by_cases hm : m < 128
    · have hm' : ¬ (128 : Int) ≤ (m : Int) := by omega
      have hw8 : IntKind.u8.wrap (m : Int) = (m : Int) := by rw [IntKind.wrap_u8']; omega
      go_wp2_with (go_at_call 45; refine (byte_int HW.out _ (UInt8.ofNat m) (ofN_small m hm) (by have := HL.out.1; rw [List.length_append]; omega) (by have := HB.out.size; have := HL.out.2.1; omega)).mono ?_; rintro e w2 ⟨rfl, ⟨v2, hW2⟩, hb2⟩)
      go_end0
      refine ⟨rfl, ⟨v2, ?_⟩, HB.out.trans hb2⟩
      rw [← hA.out.1, form_small hm, ← List.append_assoc]
      exact hW2
    · have hm' : (128 : Int) ≤ (m : Int) := by omega
      have hw := wrap_div m hA.out.2
      go_wp2_with (go_at_call 45; refine (byte_int HW.out _ (UInt8.ofNat (m % 128 + 128)) (ofN_big m) (by have := HL.out.1; rw [List.length_append]; omega) (by have := HB.out.size; have := HL.out.2.1; omega)).mono ?_; rintro e w2 ⟨rfl, ⟨v2, hW2⟩, hb2⟩)
      go_roundg (m / 128)
      case measure => rw [hgk]; exact Nat.div_lt_self (by omega) (by decide)
      case rel =>
        refine ⟨m / 128, pre ++ [UInt8.ofNat (m % 128 + 128)], v2, rfl, congrArg (Value.int .i64 ·) hw, by rw [← List.append_assoc]; exact hW2, ⟨?_, by have := hA.out.2; omega⟩, HB.out.trans hb2⟩
        rw [← hA.out.1, form_big hm, List.append_assoc]; rfl

theorem wnumber_ok {B b : Nat} {bs : List UInt8} {v : Value} {w : World} (h : WrAt B b bs v w) (n : Nat) (hn : n < 9223372036854775808) (hlen : bs.length + 9 ≤ 140737488355328) (hBw : B ≤ w.heap.size) :
    Calls Tryz.prog 46 #[.pointer (some ⟨b, 0, none⟩), .int .i64 n] w fun e w' => e = .returned .nilIface ∧ (∃ v', WrAt B b (bs ++ formN n) v' w') ∧ Below B w w' := by
  have HH : Aside (WrAt B b bs v w ∧ n < 9223372036854775808 ∧ bs.length + 9 ≤ 140737488355328 ∧ B ≤ w.heap.size) := ⟨h, hn, hlen, hBw⟩
  have hnn : ¬ (n : Int) < 0 := by omega
  clear h hn hlen hBw
  go_enter Tryz.func46, Tryz.ntmps46
  go_wp2_with (go_at_call 60; refine (wdigits_any HH.out.1 n HH.out.2.1 HH.out.2.2.1 HH.out.2.2.2).mono ?_; rintro e w2 ⟨rfl, hW2, hb2⟩)
  go_ret
  exact ⟨rfl, hW2, hb2⟩

set_option maxHeartbeats 1000000 in
theorem wnumber_neg {ad : Nat → Addr} {B b : Nat} {bs : List UInt8} {v : Value} {w : World} (h0 : w.cell? ⟨1, 0, none⟩ = some (rsn ad 0)) (h : WrAt B b bs v w) (n : Int) (hn : n < 0) :
    Calls Tryz.prog 46 #[.pointer (some ⟨b, 0, none⟩), .int .i64 n] w fun e w' => ∃ f, e = .returned (refv f) ∧ w.heap.size ≤ f ∧ w'.heap[f]? = some (.cells #[.string ⟨#[119, 105, 114, 101]⟩, .string ⟨#[78, 117, 109, 98, 101, 114]⟩, .int .i64 bs.length, rsn ad 0] 87 (0, 0)) ∧ Below w.heap.size w w' := by
  have HH : Aside (∀ n, WrAt B b bs v (w.drewN n)) := fun n => h.keep (S := []) (.of (below_drewN w n)) (by simp)
  clear h
  go_enter Tryz.func46, Tryz.ntmps46
  go_wp2_with fail
  go_region_with (first | (go_at_call 59; refine (len_any (HH.out 1)).mono ?_; rintro e w2 ⟨rfl, rfl⟩) | (go_at_call 22; refine (new_wire _ bs.length _ _ _).mono ?_; rintro e w2 ⟨rfl, rfl⟩))
  all_goals go_wp2
  all_goals go_ret
  all_goals exact ⟨w.heap.size, rfl, Nat.le_refl _, heap_alloc_last w _ _, ((Below.refl _ w).alloc (Nat.le_refl _) _).drew⟩

end Go.Proofs.YteffpnjgchihpaaGreatDoor
namespace Go.Proofs.YteffpnjgchihpaaGreatDoor
open Go.RowKit
set_option maxRecDepth 100000

/-- Bytes of one's own. -/
abbrev OwnB (base : Nat) (v : Value) (bs : List UInt8) (w : World) : Prop := w.ownsRow base 5 1 v bs.length (Lib.byteCells bs)
theorem ownB_empty (w : World) : OwnB w.heap.size (.slice (some ⟨w.heap.size, 0, none⟩) 0 0) [] (w.alloc (.cells #[] 5)) :=
  ⟨rfl, .inr ⟨w.heap.size, 0, #[], rfl, Nat.le_refl _, heap_alloc_last w _ _, Nat.le_refl _, Nat.zero_le _, rfl, rfl⟩⟩
theorem ownB_lt {base : Nat} {v : Value} {l : List UInt8} {w : World} (h : OwnB base v l w) : ∀ k, v.ownBlock = some k → base ≤ k ∧ k < w.heap.size := fun k hk => World.ownsRow.lt h k hk
theorem ownB_sl {base : Nat} {v : Value} {l : List UInt8} {w : World} (h : OwnB base v l w) : SlB w v l := by
  rcases h.2 with ⟨rfl, h0⟩ | ⟨g, cap, cur, rfl, _, hg, _, _, _, ht⟩
  · exact .inl ⟨List.eq_nil_of_length_eq_zero h0, _, _, rfl⟩
  · refine .inr ⟨g, 0, cap, rfl, lt_of_heap hg, fun i b hi => ?_⟩
    have hx : (Lib.byteCells l)[i]? = some (.int .u8 b.toNat) := by rw [byteCells_at, hi]; rfl
    rw [Nat.zero_add, cellW_of hg]
    rw [← ht, List.getElem?_take] at hx
    split at hx
    · simpa using hx
    · cases hx
theorem SlB.news {w : World} {ad : Addr} {n c : Nat} {bs : List UInt8} (h : SlB w (.slice (some ad) n c) bs) : ∀ j u, (Lib.byteCells bs)[j]? = some u → w.cell? (ad.add j) = some u := by
  intro j u hj
  rw [byteCells_at] at hj
  obtain ⟨b, hb, rfl⟩ := Option.map_eq_some_iff.1 hj
  rcases h with ⟨rfl, _⟩ | ⟨g, o, c', he, hg, hc⟩
  · simp at hb
  · simp only [Value.slice.injEq, Option.some.injEq] at he
    obtain ⟨rfl, _, _⟩ := he
    rw [Addr.add_lit]
    exact hc j b hb
theorem one_new (w : World) : ∀ j u, (Lib.byteCells [0])[j]? = some u → (w.alloc (.cells #[.int .u8 0] 5)).cell? (Addr.add ⟨w.heap.size, 0, none⟩ j) = some u := cell_one_new _ _ _
theorem wpL_appB {ops : Array Oper} {rest : List Oper} {o : Oper} {A : Act} {w : World} {Q : Exit → Act → World → Prop} (hgd : o.guard = none) (s x : Operand) (ho : o.op = .call { callee := .builtin .append, args := #[s, x], argTypes := #[33, 33] })
    {base m c : Nat} {ad : Addr} {v : Value} {xs l zs : List UInt8} (hs : A.eval s = v) (hx : A.eval x = .slice (some ad) m c) (hm : l.length = m) (hz : xs ++ l = zs) (hown : OwnB base v xs w) (hnews : ∀ j u, (Lib.byteCells l)[j]? = some u → w.cell? (ad.add j) = some u) (hlen : zs.length ≤ 1000000) (hbase : base ≤ w.heap.size)
    (k : ∀ v' w', OwnB base v' zs w' → w.grownBy w' v.ownBlock → wpList Tryz.prog ops Q rest (A.put o.dst v') w') : wpList Tryz.prog ops Q (o :: rest) A w := by
  subst hm hz
  obtain ⟨i0, hi, hz0, hz1, hz2⟩ := info_parts info_u8
  rw [List.length_append] at hlen
  refine wpList_append_own w hgd s x 33 ho base 5 i0 (.int .u8 0) 1 1 Tryz.underlying33 hi hz0 hz1 hz2 rfl (by decide) v xs.length (Lib.byteCells xs) hs hown ad l.length c (Lib.byteCells l) hx (by rw [Lib.byteCells_length]; omega) hnews (byteCells_one l) (by unfold maxLen; omega) (by omega) hbase (fun v' w' h1 h2 _ => k v' w' ?_ h2)
  have e : Lib.byteCells (xs ++ l) = Lib.byteCells xs ++ Lib.byteCells l := by simp [Lib.byteCells]
  show w'.ownsRow base 5 1 v' (xs ++ l).length (Lib.byteCells (xs ++ l))
  rw [e, List.length_append]
  exact h1
end Go.Proofs.YteffpnjgchihpaaGreatDoor
namespace Go.Proofs.YteffpnjgchihpaaGreatDoor
open Go.RowKit
set_option maxRecDepth 100000

theorem aside_of {p : Prop} (h : p) : Aside p := h
theorem ownB_nil (B : Nat) (w : World) : OwnB B (.slice none 0 0) [] w := ⟨rfl, .inl ⟨rfl, rfl⟩⟩
theorem ownB_form {base : Nat} {v : Value} {l : List UInt8} {w : World} (h : OwnB base v l w) : ∃ a n c, v = .slice a n c := by
  rcases h.2 with ⟨rfl, _⟩ | ⟨g, cap, cur, rfl, _⟩
  · exact ⟨_, _, _, rfl⟩
  · exact ⟨_, _, _, rfl⟩
theorem one_newI (w : World) (c : UInt8) (z : Int) (h : z = (c.toNat : Int)) : ∀ j u, (Lib.byteCells [c])[j]? = some u → (w.alloc (.cells #[.int .u8 z] 5)).cell? (Addr.add ⟨w.heap.size, 0, none⟩ j) = some u := by
  subst h; exact cell_one_new _ _ _
theorem u8_small (m : Nat) (h : m < 128) : IntKind.u8.wrap (m : Int) = ((UInt8.ofNat m).toNat : Int) := by
  rw [← ofN_small m h, IntKind.wrap_u8']; omega
theorem rem_128 (m : Nat) : (m : Int).tmod 128 = (m : Int) % 128 := Int.tmod_eq_emod_of_nonneg (by omega)

set_option maxHeartbeats 1000000 in
theorem refForm_any (n : Nat) (hn : n < 9223372036854775808) (w : World) :
    Calls Tryz.prog 15 #[.int .i64 n] w fun e w' => ∃ v, e = .returned v ∧ OwnB w.heap.size v (formN n) w' ∧ Below w.heap.size w w' := by
  have HN := aside_of hn
  clear hn
  go_enter Tryz.func15, Tryz.ntmps15
  go_wp2_with fail
  go_loopg [0, 3] n (fun k nv ov wr => ∃ (m : Nat) (pre : List UInt8) (sa : Option Addr) (sn sc : Nat), k = m ∧ nv = .int .i64 (m : Int) ∧ ov = .slice sa sn sc ∧ OwnB w.heap.size (.slice sa sn sc) pre wr ∧ Aside (pre ++ formN m = formN n ∧ m < 9223372036854775808) ∧ Below w.heap.size w wr)
  case atStart => exact ⟨n, [], none, 0, 0, rfl, rfl, rfl, ownB_nil _ _, ⟨rfl, HN.out⟩, Below.refl _ _⟩
  case round =>
    obtain ⟨m, pre, sa, sn, sc, hgk, rfl, rfl, hO, hA, hB⟩ := hrel
    have hpl : pre.length + 1 ≤ 9 := by
      have h1 := congrArg List.length hA.out.1
      have h2 := form_len9 n HN.out
      have h3 : 1 ≤ (formN m).length := by rw [formN]; split <;> simp
      rw [List.length_append] at h1
      omega
    have HP := aside_of hpl
    have HB := aside_of hB
    have HO := aside_of hO
    clear hpl hB hO
    by_cases hm : m < 128
    · have hm' : ¬ (127 : Int) < (m : Int) := by omega
      have hw8 : IntKind.u8.wrap (m : Int) = (m : Int) := by rw [IntKind.wrap_u8']; omega
      have N1 := one_newI wr (UInt8.ofNat m) (m : Int) (ofN_small m hm)
      have O1 := HO.out.alloc (.cells #[.int .u8 (m : Int)] 5)
      go_wp2_with (at_builtin; refine wpL_appB (xs := pre) (l := [UInt8.ofNat m]) (zs := pre ++ [UInt8.ofNat m]) (m := 1) (c := 1) rfl _ _ rfl rfl rfl rfl rfl O1 N1 (by have := HP.out; rw [List.length_append]; simp; omega) (by have := HB.out.size; simp; omega) ?_; intro v2 w2 o2 hg2)
      go_ret
      refine ⟨_, rfl, ?_, (HB.out.alloc (by have := HB.out.size; omega) _).grown hg2 (by have := HB.out.size; simp; omega) (fun k hk => (ownB_lt O1 k hk).1)⟩
      rw [← hA.out.1, form_small hm]
      exact o2
    · have hm' : (127 : Int) < (m : Int) := by omega
      have hr := rem_128 m
      have hw := wrap_div m hA.out.2
      have hw1 : IntKind.i64.wrap ((m : Int) % 128 + 128) = 128 + (m : Int) % 128 := by rw [IntKind.wrap_i64]; omega
      have hw8 : IntKind.u8.wrap (128 + (m : Int) % 128) = 128 + (m : Int) % 128 := by rw [IntKind.wrap_u8']; omega
      have N1 := one_newI wr (UInt8.ofNat (m % 128 + 128)) (128 + (m : Int) % 128) (ofN_big m)
      have O1 := HO.out.alloc (.cells #[.int .u8 (128 + (m : Int) % 128)] 5)
      go_wp2_with (at_builtin; refine wpL_appB (xs := pre) (l := [UInt8.ofNat (m % 128 + 128)]) (zs := pre ++ [UInt8.ofNat (m % 128 + 128)]) (m := 1) (c := 1) rfl _ _ rfl rfl rfl rfl rfl O1 N1 (by have := HP.out; rw [List.length_append]; simp; omega) (by have := HB.out.size; simp; omega) ?_; intro v2 w2 o2 hg2; obtain ⟨va, vn, vc, rfl⟩ := ownB_form o2)
      go_roundg (m / 128)
      case measure => rw [hgk]; exact Nat.div_lt_self (by omega) (by decide)
      case rel =>
        refine ⟨m / 128, pre ++ [UInt8.ofNat (m % 128 + 128)], va, vn, vc, rfl, congrArg (Value.int .i64 ·) hw, rfl, o2, ⟨?_, by have := hA.out.2; omega⟩, (HB.out.alloc (by have := HB.out.size; omega) _).grown hg2 (by have := HB.out.size; simp; omega) (fun k hk => (ownB_lt O1 k hk).1)⟩
        rw [← hA.out.1, form_big hm, List.append_assoc]; rfl
end Go.Proofs.YteffpnjgchihpaaGreatDoor
namespace Go.Proofs.YteffpnjgchihpaaGreatDoor

theorem form_ne (n : Nat) : formN n ≠ [] := by
  by_cases h : n < 128
  · rw [form_small h]; simp
  · rw [form_big h]; simp

theorem back_len : ∀ (k n : Nat), n < 128 ^ (k + 1) → (formN n).length ≤ k + 1
  | 0, n, h => by rw [form_small (by simpa using h)]; simp
  | k + 1, n, h => by
    by_cases hn : n < 128
    · rw [form_small hn]; simp
    · rw [form_big hn]
      have := back_len k (n / 128) (by rw [Nat.pow_succ] at h; omega)
      simp; omega

theorem span_form (n : Nat) (r : List UInt8) : ∀ i, i + (formN n).length ≤ 9 → spanFrom i (formN n ++ r) = .ok (i + (formN n).length) := by
  induction n using Nat.strongRecOn with
  | _ n ih =>
    intro i hi
    by_cases h : n < 128
    · rw [form_small h]
      have hb : UInt8.ofNat n < 128 := by simp [UInt8.lt_iff_toNat_lt]; omega
      simp [spanFrom, hb]
    · rw [form_big h] at hi ⊢
      have hb : ¬ UInt8.ofNat (n % 128 + 128) < 128 := by simp [UInt8.lt_iff_toNat_lt]; omega
      have h0 : 0 < (formN (n / 128)).length := List.length_pos_iff.2 (form_ne _)
      simp only [List.length_cons] at hi
      have := ih (n / 128) (by omega) (i + 1) (by omega)
      simp only [List.cons_append, spanFrom, if_neg hb, List.length_cons]
      rw [if_neg (by omega), this]
      congr 1
      omega

theorem span_cut (n : Nat) : ∀ i k, i + (formN n).length ≤ 9 → k < (formN n).length → spanFrom i ((formN n).take k) = .error 6 := by
  induction n using Nat.strongRecOn with
  | _ n ih =>
    intro i k hi hk
    cases k with
    | zero => simp [spanFrom]
    | succ k =>
      by_cases h : n < 128
      · rw [form_small h] at hk; simp at hk
      · rw [form_big h] at hi hk ⊢
        have hb : ¬ UInt8.ofNat (n % 128 + 128) < 128 := by simp [UInt8.lt_iff_toNat_lt]; omega
        simp only [List.length_cons] at hi hk
        simp only [List.take_succ_cons, spanFrom, if_neg hb]
        rw [if_neg (by omega)]
        exact ih (n / 128) (by omega) (i + 1) k (by omega) (by omega)

theorem form_last (n : Nat) : 1 < (formN n).length → (formN n)[(formN n).length - 1]? ≠ some 0 := by
  induction n using Nat.strongRecOn with
  | _ n ih =>
    intro hl
    by_cases h : n < 128
    · rw [form_small h] at hl; simp at hl
    · rw [form_big h]
      have h0 : 0 < (formN (n / 128)).length := List.length_pos_iff.2 (form_ne _)
      simp only [List.length_cons, Nat.add_sub_cancel]
      obtain ⟨m, hm⟩ : ∃ m, (formN (n / 128)).length = m + 1 := ⟨_, (Nat.succ_pred_eq_of_pos h0).symm⟩
      rw [hm, List.getElem?_cons_succ]
      by_cases h1 : n / 128 < 128
      · rw [form_small h1] at hm ⊢
        simp at hm
        subst hm
        simp only [List.getElem?_cons_zero, ne_eq, Option.some.injEq]
        intro e
        have := congrArg UInt8.toNat e
        simp at this
        omega
      · have := ih (n / 128) (by omega) (by
          rw [form_big h1]
          have := List.length_pos_iff.2 (form_ne (n / 128 / 128))
          simp; omega)
        rw [hm] at this
        simpa using this

/-- A number is read again. -/
theorem numR_back {n : Nat} {most : Int} (r : List UInt8) (h : n < 9223372036854775808) (hm : (n : Int) ≤ most) : numR (formN n ++ r) most = .ok (n, (formN n).length) := by
  have hl : (formN n).length ≤ 9 := back_len 8 n (by omega)
  have h0 : 0 < (formN n).length := List.length_pos_iff.2 (form_ne _)
  have hs := span_form n r 0 (by omega)
  rw [Nat.zero_add] at hs
  unfold numR
  rw [hs]
  simp only
  have hz : ¬ (1 < (formN n).length ∧ (formN n ++ r)[(formN n).length - 1]? = some 0) := by
    intro ⟨h1, h2⟩
    rw [List.getElem?_append_left (by omega)] at h2
    exact form_last n h1 h2
  rw [if_neg hz, List.take_left, numv_form, if_neg (by omega)]

end Go.Proofs.YteffpnjgchihpaaGreatDoor
