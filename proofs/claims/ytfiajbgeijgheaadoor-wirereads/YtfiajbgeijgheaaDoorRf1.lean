
/-
  barrowref02.Reader: its number.
-/
import Derived.Test.YtfiajbgeijgheaaDoorTsBase
import Derived.Test.YtfiajbgeijgheaaDoorWk
import Derived.Deep.CutRange
namespace Go.Proofs.YtfiajbgeijgheaaDoor
open Go.RowKit
set_option maxRecDepth 100000

theorem hid_of' {p : Prop} (h : p) : Hid p := h
/-- The document's Reader in memory. -/
structure XrAt (xb : Nat) (v : Value) (bs : List UInt8) (pl : Nat) (n0 n1 n2 : Value) (w : World) : Prop where
  row : RowAt xb #[v, .int .i64 (pl : Int), n0, n1, n2] 56 w
  raw : SlB w v bs
  le : pl ≤ bs.length
  lim : bs.length ≤ 1000000
theorem numv_succ : ∀ (bs : List UInt8) (k : Nat) (b : UInt8), bs[k]? = some b → numv (bs.take (k + 1)) = numv (bs.take k) + (b.toNat % 128) * 128 ^ k
  | [], k, b, h => by simp at h
  | x :: r, 0, b, h => by simp at h; subst h; simp [numv]
  | x :: r, k + 1, b, h => by
    have ih := numv_succ r k b (by simpa using h)
    simp only [List.take_succ_cons, numv]
    rw [ih, Nat.mul_add, Nat.pow_succ]
    have e : 128 * (b.toNat % 128 * 128 ^ k) = b.toNat % 128 * (128 ^ k * 128) := by rw [Nat.mul_left_comm, Nat.mul_comm 128 (128 ^ k)]
    omega
theorem num_step {rest : List UInt8} {k : Nat} {b : UInt8} (hb : rest[k]? = some b) (h9 : k < 9) : wrap64 ((numv (rest.take k) : Int) + wrap64 ((b.toNat : Int) % 128 * 2 ^ (7 * k))) = (numv (rest.take (k + 1)) : Int) := by
  have h1 := numv_succ rest k b hb
  have h2 := numv_lt (rest.take (k + 1))
  have h3 : (rest.take (k + 1)).length ≤ 9 := by rw [List.length_take]; omega
  have h4 : 128 ^ (rest.take (k + 1)).length ≤ 128 ^ 9 := Nat.pow_le_pow_right (by decide) h3
  have e : (b.toNat : Int) % 128 * 2 ^ (7 * k) = ((b.toNat % 128 * 128 ^ k : Nat) : Int) := by
    rw [Int.pow_mul]
    push_cast
    rfl
  rw [e]
  generalize b.toNat % 128 * 128 ^ k = q at *
  generalize numv (rest.take (k + 1)) = m at *
  generalize numv (rest.take k) = n at *
  generalize 128 ^ (rest.take (k + 1)).length = z at *
  have h5 : m < 9223372036854775808 := by omega
  unfold wrap64
  omega
/-- What number answers. -/
def nums (p : Except Nat (Nat × Nat)) : Value := match p with
  | .ok (n, k) => .tuple #[.int .i64 (n : Int), .int .i64 (k : Int), .int .i64 0]
  | .error c => .tuple #[.int .i64 0, .int .i64 0, .int .i64 ((c : Int) + 1)]
/-- Where number stands: k bytes have been seen, none of them the last. -/
structure NuI (rest : List UInt8) (k : Nat) : Prop where
  le : k ≤ rest.length
  span : k < 9 → spanFrom 0 rest = spanFrom k (rest.drop k)
  end9 : k = 9 → spanFrom 0 rest = .error 5
theorem NuI.start (rest : List UInt8) : NuI rest 0 := ⟨Nat.zero_le _, fun _ => by simp, fun h => by omega⟩
theorem drop_at {rest : List UInt8} {k : Nat} {b : UInt8} (h : rest[k]? = some b) : rest.drop k = b :: rest.drop (k + 1) := by
  obtain ⟨hk, rfl⟩ := List.getElem?_eq_some_iff.1 h
  exact List.drop_eq_getElem_cons hk
theorem NuI.next {rest : List UInt8} {k : Nat} {b : UInt8} (h : NuI rest k) (hb : rest[k]? = some b) (h9 : k < 9) (hbig : ¬ b < 128) : NuI rest (k + 1) := by
  have h1 := h.span h9
  rw [drop_at hb, spanFrom, if_neg hbig] at h1
  refine ⟨(List.getElem?_eq_some_iff.1 hb).1, fun hk => ?_, fun hk => ?_⟩
  · rw [if_neg (by omega)] at h1; exact h1
  · rw [if_pos hk] at h1; exact h1
theorem NuI.short {rest : List UInt8} {k : Nat} {most : Int} (h : NuI rest k) (hk : rest.length ≤ k) (h9 : k < 9) : numR rest most = .error 6 := by
  have h1 := h.span h9
  rw [List.drop_of_length_le hk, spanFrom] at h1
  unfold numR; rw [h1]
theorem NuI.nine {rest : List UInt8} {most : Int} (h : NuI rest 9) : numR rest most = .error 5 := by
  unfold numR; rw [h.end9 rfl]
theorem NuI.last {rest : List UInt8} {k : Nat} {b : UInt8} {most : Int} (h : NuI rest k) (hb : rest[k]? = some b) (h9 : k < 9) (hs : b < 128) : numR rest most = if 0 < k ∧ b = 0 then .error 5 else if most < (numv (rest.take (k + 1)) : Int) then .error 1 else .ok (numv (rest.take (k + 1)), k + 1) := by
  have h1 := h.span h9
  rw [drop_at hb, spanFrom, if_pos hs] at h1
  unfold numR
  rw [h1]
  simp only [Nat.add_sub_cancel, hb, Option.some.injEq]
  have e : (1 < k + 1 ∧ b = 0) = (0 < k ∧ b = 0) := by
    apply propext
    constructor <;> rintro ⟨h1, h2⟩ <;> exact ⟨by omega, h2⟩
  simp only [e]

set_option maxHeartbeats 4000000 in
theorem refnum_any {xb : Nat} {v n0 n1 n2 : Value} {bs : List UInt8} {pl : Nat} {w : World} (h : XrAt xb v bs pl n0 n1 n2 w) (most : Int) :
    Calls Tryd.prog 56 #[.pointer (some ⟨xb, 0, none⟩), .int .i64 most] w fun e w' => e = .returned (nums (numR (bs.drop pl) most)) ∧ Below w.heap.size w w' := by
  have H := hid_of' h
  obtain ⟨a1, c1, rfl⟩ : ∃ a c, v = .slice a bs.length c := by
    rcases h.raw with ⟨rfl, a, c, rfl⟩ | ⟨g, o, c, rfl, _⟩
    · exact ⟨a, c, rfl⟩
    · exact ⟨_, c, rfl⟩
  have hlim := h.lim
  have hle := h.le
  clear h
  go_enter Tryd.func56, Tryd.ntmps56
  go_wp2_with fail
  go_loopw [7, 8, 9] (fun nv sv kv wr => ∃ k : Nat, kv = .int .i64 (k : Int) ∧ sv = .int .u64 (7 * (k : Int)) ∧ nv = .int .i64 (numv ((bs.drop pl).take k) : Int) ∧ k ≤ 9 ∧ Below w.heap.size w wr ∧ Hid (NuI (bs.drop pl) k)) (fun _ _ kv _ => 9 - (intOf kv).toNat)
  case atStart => exact ⟨0, rfl, rfl, rfl, by omega, Below.refl _ _, NuI.start _⟩
  case round =>
    obtain ⟨k, rfl, rfl, rfl, hk9, hB, HI⟩ := hrel
    have HX := hid_of' (And.intro (H.out.row.later hB) hB)
    by_cases h9 : (k : Int) < 9
    · have e0 : ∀ s : Wld wr, (wOf s).cell? ⟨xb, 0, none⟩ = some (.slice a1 bs.length c1) := fun s => HX.out.1.cls 0 _ rfl s
      have e1 : ∀ s : Wld wr, (wOf s).cell? ⟨xb, 1, none⟩ = some (.int .i64 (pl : Int)) := fun s => HX.out.1.cls 1 _ rfl s
      have hw : wrap64 ((pl : Int) + (k : Int)) = (pl : Int) + (k : Int) := by unfold wrap64; omega
      by_cases hs : (bs.length : Int) ≤ (pl : Int) + (k : Int)
      · have HE := hid_of' (HI.out.short (most := most) (by rw [List.length_drop]; omega) (by omega))
        go_upto_region 6 with fail
        refine wp_region_cls (by kernel_rfl) (by kernel_rfl) ?_
        repeat (first | go_big_quiet_skip | (go_big_quiet_want; first | (go_big_quiet_op; first | go_big_quiet_on | go_big_quiet_call ((fail)))))
        refine wpQuiet_nil ?_
        rintro w1 ⟨s1, e1⟩
        have hb1 := wOf_below s1
        rw [← e1] at hb1
        clear e1 s1
        replace hB := bgo hB hb1
        clear hb1
        go_wp2
        go_ret3
        exact ⟨by rw [HE.out]; rfl, hB⟩
      · obtain ⟨b, hb⟩ : ∃ b, bs[pl + k]? = some b := ⟨_, List.getElem?_eq_getElem (by omega)⟩
        have hbr : (bs.drop pl)[k]? = some b := by rw [List.getElem?_drop]; exact hb
        obtain ⟨g, o, rfl, hgl, hcb⟩ : ∃ g o, a1 = some ⟨g, o, none⟩ ∧ g < w.heap.size ∧ w.cell? ⟨g, o + (pl + k), none⟩ = some (.int .u8 (b.toNat : Int)) := by
          rcases H.out.raw with ⟨rfl, _⟩ | ⟨g, o, c, he, hg, hc⟩
          · simp at hb
          · simp only [Value.slice.injEq, true_and] at he
            exact ⟨g, o, he.1, hg, hc _ _ hb⟩
        have HC := hid_of' (And.intro hgl hcb)
        have HBR := hid_of' hbr
        have hkt : ((pl : Int) + (k : Int)).toNat = pl + k := by omega
        have hkl : (pl : Int) + (k : Int) < (bs.length : Int) := by omega
        have hw8 : IntKind.i64.wrap (b.toNat : Int) = (b.toNat : Int) := by have := b.toNat_lt; simp [IntKind.wrap, IntKind.bits, IntKind.signed]; omega
        clear hb hbr hgl hcb
        go_upto_region 6 with fail
        refine wp_region_cls (by kernel_rfl) (by kernel_rfl) ?_
        repeat (first | go_big_quiet_skip | (go_big_quiet_want; first | (go_big_quiet_op; first | go_big_quiet_on | go_big_quiet_call ((fail)))))
        refine wpQuiet_nil ?_
        rintro w1 ⟨s1, e1⟩
        have hb1 := wOf_below s1
        rw [← e1] at hb1
        clear e1 s1
        replace hB := bgo hB hb1
        clear hb1
        clear e0 e1 HX
        have e0 : ∀ s : Wld w1, (wOf s).cell? ⟨xb, 0, none⟩ = some (.slice (some ⟨g, o, none⟩) bs.length c1) := fun s => (H.out.row.later hB).cls 0 _ rfl s
        have e1 : ∀ s : Wld w1, (wOf s).cell? ⟨xb, 1, none⟩ = some (.int .i64 (pl : Int)) := fun s => (H.out.row.later hB).cls 1 _ rfl s
        have e2 : ∀ s : Wld w1, (wOf s).cell? ⟨g, o + (pl + k), none⟩ = some (.int .u8 (b.toNat : Int)) := fun s => by
          rw [(bgo hB (wOf_below s)).cell (p := ⟨g, o + (pl + k), none⟩) HC.out.1]; exact HC.out.2
        go_upto_region 8 with fail
        have hBk := hB
        clear hB
        have hB : Below w1.heap.size w1 w1 := Below.refl _ _
        have HBk := hid_of' hBk
        clear hBk
        refine wp_region_cls (by kernel_rfl) (by kernel_rfl) ?_
        repeat (first | go_big_quiet_skip | (go_big_quiet_want; first | (go_big_quiet_op; first | go_big_quiet_on | go_big_quiet_call ((fail)))))
        refine wpQuiet_nil ?_
        rintro w1 ⟨s1, e1⟩
        have hb1 := wOf_below s1
        rw [← e1] at hb1
        clear e1 s1
        replace hB := bgo hB hb1
        clear hb1
        clear e0 e1 e2
        have hst := num_step HBR.out (by omega)
        go_upto_region 11 with fail
        rw [hst]
        have HS := hid_of' hst
        clear hst
        by_cases hsm : (b.toNat : Int) < 128
        · have hs8 : b < 128 := by rw [UInt8.lt_iff_toNat_lt]; show b.toNat < 128; omega
          have HE := hid_of' (HI.out.last (most := most) HBR.out (by omega) hs8)
          by_cases hb0 : (b.toNat : Int) = 0
          · have hbz : b = 0 := UInt8.toNat.inj (by show b.toNat = 0; omega)
            have hb0' : ((b.toNat : Int) == 0) = true := by simp [hb0]
            by_cases hk0 : (0 : Int) < (k : Int)
            · have hE : numR (bs.drop pl) most = .error 5 := by rw [HE.out, if_pos ⟨by omega, hbz⟩]
              have HF := hid_of' hE
              clear HE hE hbz hb0
              go_wp2
              go_ret3
              exact ⟨by rw [HF.out]; rfl, bgo HBk.out hB⟩
            · have hne : ¬ (0 < k ∧ b = 0) := fun h => hk0 (by omega)
              by_cases hm : most < (numv ((bs.drop pl).take (k + 1)) : Int)
              · have hE : numR (bs.drop pl) most = .error 1 := by rw [HE.out, if_neg hne, if_pos hm]
                have HF := hid_of' hE
                clear HE hE hbz hb0 hne
                go_wp2
                go_ret3
                exact ⟨by rw [HF.out]; rfl, bgo HBk.out hB⟩
              · have hE : numR (bs.drop pl) most = .ok (numv ((bs.drop pl).take (k + 1)), k + 1) := by rw [HE.out, if_neg hne, if_neg hm]
                have HF := hid_of' hE
                have hkw : wrap64 ((k : Int) + 1) = ((k + 1 : Nat) : Int) := by unfold wrap64; omega
                clear HE hE hbz hb0 hne
                go_wp2
                go_ret3
                exact ⟨by rw [HF.out]; simp [nums], bgo HBk.out hB⟩
          · have hb0' : ((b.toNat : Int) == 0) = false := by simpa using hb0
            have hne : ¬ (0 < k ∧ b = 0) := fun h => hb0 (by rw [h.2]; rfl)
            by_cases hm : most < (numv ((bs.drop pl).take (k + 1)) : Int)
            · have hE : numR (bs.drop pl) most = .error 1 := by rw [HE.out, if_neg hne, if_pos hm]
              have HF := hid_of' hE
              clear HE hE hb0 hne
              go_wp2
              go_ret3
              exact ⟨by rw [HF.out]; rfl, bgo HBk.out hB⟩
            · have hE : numR (bs.drop pl) most = .ok (numv ((bs.drop pl).take (k + 1)), k + 1) := by rw [HE.out, if_neg hne, if_neg hm]
              have HF := hid_of' hE
              clear HE hE hb0 hne
              go_wp2
              go_ret3
              exact ⟨by rw [HF.out]; simp [nums], bgo HBk.out hB⟩
        · have hbig : ¬ b < 128 := by rw [UInt8.lt_iff_toNat_lt]; show ¬ b.toNat < 128; omega
          have HN := hid_of' (HI.out.next HBR.out (by omega) hbig)
          clear hbig
          go_wp2
          go_roundw
          case rel => exact ⟨k + 1, by go_num, by simp; omega, rfl, by omega, bgo HBk.out hB, HN.out⟩
          case measure => simp [intOf]; omega
    · obtain rfl : k = 9 := by omega
      have HE := hid_of' (HI.out.nine (most := most))
      go_wp2
      go_ret3
      exact ⟨by rw [HE.out]; rfl, hB⟩
end Go.Proofs.YtfiajbgeijgheaaDoor
