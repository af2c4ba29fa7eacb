
/-
  barrowref02.Reader: its number. barrowref01.Say: a refusal as the document has it.
-/
import Derived.Test.YtpkblfhkblllhaaGreatDoorRP32
import Derived.Test.YtpkblfhkblllhaaGreatDoorRP12
import Derived.Deep.CutRange
namespace Go.Proofs.YtpkblfhkblllhaaGreatDoor
open Go.RowKit
set_option maxRecDepth 100000

/-- The document's Reader in memory. -/
structure XrAt (xb : Nat) (v : Value) (bs : List UInt8) (pl : Nat) (n0 n1 n2 : Value) (w : World) : Prop where
  row : RowAt xb #[v, .int .i64 (pl : Int), n0, n1, n2] 54 w
  raw : SlB w v bs
  le : pl ≤ bs.length
  lim : bs.length ≤ 1000000
theorem numv_succ : ∀ (bs : List UInt8) (k : Nat) (b : UInt8), bs[k]? = some b → numv (bs.take (k + 1)) = numv (bs.take k) + (b.toNat % 128) * 128 ^ k
  | [], k, b, h => by simp at h
  | x :: r, 0, b, h => by simp at h; subst h; simp [numv]
  | x :: r, k + 1, b, h => by
    have ih := numv_succ r k b (by simpa using h)
    simp only [List.take_succ_cons, numv]
    rw [ih, Nat.mul_add, Nat.pow_succ]
    have e : 128 * (b.toNat % 128 * 128 ^ k) = b.toNat % 128 * (128 ^ k * 128) := by rw [Nat.mul_left_comm, Nat.mul_comm 128 (128 ^ k)]
    omega
theorem num_step {rest : List UInt8} {k : Nat} {b : UInt8} (hb : rest[k]? = some b) (h9 : k < 9) : wrap64 ((numv (rest.take k) : Int) + wrap64 ((b.toNat : Int) % 128 * 2 ^ (7 * k))) = (numv (rest.take (k + 1)) : Int) := by
  have h1 := numv_succ rest k b hb
  have h2 := numv_lt (rest.take (k + 1))
  have h3 : (rest.take (k + 1)).length ≤ 9 := by rw [List.length_take]; omega
  have h4 : 128 ^ (rest.take (k + 1)).length ≤ 128 ^ 9 := Nat.pow_le_pow_right (by decide) h3
  have e : (b.toNat : Int) % 128 * 2 ^ (7 * k) = ((b.toNat % 128 * 128 ^ k : Nat) : Int) := by
    rw [Int.pow_mul]
    push_cast
    rfl
  rw [e]
  generalize b.toNat % 128 * 128 ^ k = q at *
  generalize numv (rest.take (k + 1)) = m at *
  generalize numv (rest.take k) = n at *
  generalize 128 ^ (rest.take (k + 1)).length = z at *
  have h5 : m < 9223372036854775808 := by omega
  unfold wrap64
  omega
/-- What number answers. -/
def nums (p : Except Nat (Nat × Nat)) : Value := match p with
  | .ok (n, k) => .tuple #[.int .i64 (n : Int), .int .i64 (k : Int), .int .i64 0]
  | .error c => .tuple #[.int .i64 0, .int .i64 0, .int .i64 ((c : Int) + 1)]
/-- Where number stands: k bytes have been seen, none of them the last. -/
structure NuI (rest : List UInt8) (k : Nat) : Prop where
  le : k ≤ rest.length
  span : k < 9 → spanFrom 0 rest = spanFrom k (rest.drop k)
  end9 : k = 9 → spanFrom 0 rest = .error 5
theorem NuI.start (rest : List UInt8) : NuI rest 0 := ⟨Nat.zero_le _, fun _ => by simp, fun h => by omega⟩
theorem drop_at {rest : List UInt8} {k : Nat} {b : UInt8} (h : rest[k]? = some b) : rest.drop k = b :: rest.drop (k + 1) := by
  obtain ⟨hk, rfl⟩ := List.getElem?_eq_some_iff.1 h
  exact List.drop_eq_getElem_cons hk
theorem NuI.next {rest : List UInt8} {k : Nat} {b : UInt8} (h : NuI rest k) (hb : rest[k]? = some b) (h9 : k < 9) (hbig : ¬ b < 128) : NuI rest (k + 1) := by
  have h1 := h.span h9
  rw [drop_at hb, spanFrom, if_neg hbig] at h1
  refine ⟨(List.getElem?_eq_some_iff.1 hb).1, fun hk => ?_, fun hk => ?_⟩
  · rw [if_neg (by omega)] at h1; exact h1
  · rw [if_pos hk] at h1; exact h1
theorem NuI.short {rest : List UInt8} {k : Nat} {most : Int} (h : NuI rest k) (hk : rest.length ≤ k) (h9 : k < 9) : numR rest most = .error 6 := by
  have h1 := h.span h9
  rw [List.drop_of_length_le hk, spanFrom] at h1
  unfold numR; rw [h1]
theorem NuI.nine {rest : List UInt8} {most : Int} (h : NuI rest 9) : numR rest most = .error 5 := by
  unfold numR; rw [h.end9 rfl]
theorem NuI.last {rest : List UInt8} {k : Nat} {b : UInt8} {most : Int} (h : NuI rest k) (hb : rest[k]? = some b) (h9 : k < 9) (hs : b < 128) : numR rest most = if 0 < k ∧ b = 0 then .error 5 else if most < (numv (rest.take (k + 1)) : Int) then .error 1 else .ok (numv (rest.take (k + 1)), k + 1) := by
  have h1 := h.span h9
  rw [drop_at hb, spanFrom, if_pos hs] at h1
  unfold numR
  rw [h1]
  simp only [Nat.add_sub_cancel, hb, Option.some.injEq]
  have e : (1 < k + 1 ∧ b = 0) = (0 < k ∧ b = 0) := by
    apply propext
    constructor <;> rintro ⟨h1, h2⟩ <;> exact ⟨by omega, h2⟩
  simp only [e]

set_option maxHeartbeats 4000000 in
theorem refnum_any {xb : Nat} {v n0 n1 n2 : Value} {bs : List UInt8} {pl : Nat} {w : World} (h : XrAt xb v bs pl n0 n1 n2 w) (most : Int) :
    Calls Tryz.prog 61 #[.pointer (some ⟨xb, 0, none⟩), .int .i64 most] w fun e w' => e = .returned (nums (numR (bs.drop pl) most)) ∧ Below w.heap.size w w' := by
  have H := hid_of' h
  obtain ⟨a1, c1, rfl⟩ : ∃ a c, v = .slice a bs.length c := by
    rcases h.raw with ⟨rfl, a, c, rfl⟩ | ⟨g, o, c, rfl, _⟩
    · exact ⟨a, c, rfl⟩
    · exact ⟨_, c, rfl⟩
  have hlim := h.lim
  have hle := h.le
  clear h
  go_enter Tryz.func61, Tryz.ntmps61
  go_wp2_with fail
  go_loopw [7, 8, 9] (fun nv sv kv wr => ∃ k : Nat, kv = .int .i64 (k : Int) ∧ sv = .int .u64 (7 * (k : Int)) ∧ nv = .int .i64 (numv ((bs.drop pl).take k) : Int) ∧ k ≤ 9 ∧ Below w.heap.size w wr ∧ Hid (NuI (bs.drop pl) k)) (fun _ _ kv _ => 9 - (intOf kv).toNat)
  case atStart => exact ⟨0, rfl, rfl, rfl, by omega, Below.refl _ _, NuI.start _⟩
  case round =>
    obtain ⟨k, rfl, rfl, rfl, hk9, hB, HI⟩ := hrel
    have HX := hid_of' (And.intro (H.out.row.later hB) hB)
    by_cases h9 : (k : Int) < 9
    · have e0 : ∀ s : Wld wr, (wOf s).cell? ⟨xb, 0, none⟩ = some (.slice a1 bs.length c1) := fun s => HX.out.1.cls 0 _ rfl s
      have e1 : ∀ s : Wld wr, (wOf s).cell? ⟨xb, 1, none⟩ = some (.int .i64 (pl : Int)) := fun s => HX.out.1.cls 1 _ rfl s
      have hw : wrap64 ((pl : Int) + (k : Int)) = (pl : Int) + (k : Int) := by unfold wrap64; omega
      by_cases hs : (bs.length : Int) ≤ (pl : Int) + (k : Int)
      · have HE := hid_of' (HI.out.short (most := most) (by rw [List.length_drop]; omega) (by omega))
        go_upto_region 6 with fail
        refine wp_region_cls (by kernel_rfl) (by kernel_rfl) ?_
        repeat (first | go_big_quiet_skip | (go_big_quiet_want; first | (go_big_quiet_op; first | go_big_quiet_on | go_big_quiet_call ((fail)))))
        refine wpQuiet_nil ?_
        rintro w1 ⟨s1, e1⟩
        have hb1 := wOf_below s1
        rw [← e1] at hb1
        clear e1 s1
        replace hB := bgo hB hb1
        clear hb1
        go_wp2
        go_ret3
        exact ⟨by rw [HE.out]; rfl, hB⟩
      · obtain ⟨b, hb⟩ : ∃ b, bs[pl + k]? = some b := ⟨_, List.getElem?_eq_getElem (by omega)⟩
        have hbr : (bs.drop pl)[k]? = some b := by rw [List.getElem?_drop]; exact hb
        obtain ⟨g, o, rfl, hgl, hcb⟩ : ∃ g o, a1 = some ⟨g, o, none⟩ ∧ g < w.heap.size ∧ w.cell? ⟨g, o + (pl + k), none⟩ = some (.int .u8 (b.toNat : Int)) := by
          rcases H.out.raw with ⟨rfl, _⟩ | ⟨g, o, c, he, hg, hc⟩
          · simp at hb
          · simp only [Value.slice.injEq, true_and] at he
            exact ⟨g, o, he.1, hg, hc _ _ hb⟩
        have HC := hid_of' (And.intro hgl hcb)
        have HBR := hid_of' hbr
        have hkt : ((pl : Int) + (k : Int)).toNat = pl + k := by omega
        have hkl : (pl : Int) + (k : Int) < (bs.length : Int) := by omega
        have hw8 : IntKind.i64.wrap (b.toNat : Int) = (b.toNat : Int) := by have := b.toNat_lt; simp [IntKind.wrap, IntKind.bits, IntKind.signed]; omega
        clear hb hbr hgl hcb
        go_upto_region 6 with fail
        refine wp_region_cls (by kernel_rfl) (by kernel_rfl) ?_
        repeat (first | go_big_quiet_skip | (go_big_quiet_want; first | (go_big_quiet_op; first | go_big_quiet_on | go_big_quiet_call ((fail)))))
        refine wpQuiet_nil ?_
        rintro w1 ⟨s1, e1⟩
        have hb1 := wOf_below s1
        rw [← e1] at hb1
        clear e1 s1
        replace hB := bgo hB hb1
        clear hb1
        clear e0 e1 HX
        have e0 : ∀ s : Wld w1, (wOf s).cell? ⟨xb, 0, none⟩ = some (.slice (some ⟨g, o, none⟩) bs.length c1) := fun s => (H.out.row.later hB).cls 0 _ rfl s
        have e1 : ∀ s : Wld w1, (wOf s).cell? ⟨xb, 1, none⟩ = some (.int .i64 (pl : Int)) := fun s => (H.out.row.later hB).cls 1 _ rfl s
        have e2 : ∀ s : Wld w1, (wOf s).cell? ⟨g, o + (pl + k), none⟩ = some (.int .u8 (b.toNat : Int)) := fun s => by
          rw [(bgo hB (wOf_below s)).cell (p := ⟨g, o + (pl + k), none⟩) HC.out.1]; exact HC.out.2
        go_upto_region 8 with fail
        have hBk := hB
        clear hB
        have hB : Below w1.heap.size w1 w1 := Below.refl _ _
        have HBk := hid_of' hBk
        clear hBk
        refine wp_region_cls (by kernel_rfl) (by kernel_rfl) ?_
        repeat (first | go_big_quiet_skip | (go_big_quiet_want; first | (go_big_quiet_op; first | go_big_quiet_on | go_big_quiet_call ((fail)))))
        refine wpQuiet_nil ?_
        rintro w1 ⟨s1, e1⟩
        have hb1 := wOf_below s1
        rw [← e1] at hb1
        clear e1 s1
        replace hB := bgo hB hb1
        clear hb1
        clear e0 e1 e2
        have hst := num_step HBR.out (by omega)
        go_upto_region 11 with fail
        rw [hst]
        have HS := hid_of' hst
        clear hst
        by_cases hsm : (b.toNat : Int) < 128
        · have hs8 : b < 128 := by rw [UInt8.lt_iff_toNat_lt]; show b.toNat < 128; omega
          have HE := hid_of' (HI.out.last (most := most) HBR.out (by omega) hs8)
          by_cases hb0 : (b.toNat : Int) = 0
          · have hbz : b = 0 := UInt8.toNat.inj (by show b.toNat = 0; omega)
            have hb0' : ((b.toNat : Int) == 0) = true := by simp [hb0]
            by_cases hk0 : (0 : Int) < (k : Int)
            · have hE : numR (bs.drop pl) most = .error 5 := by rw [HE.out, if_pos ⟨by omega, hbz⟩]
              have HF := hid_of' hE
              clear HE hE hbz hb0
              go_wp2
              go_ret3
              exact ⟨by rw [HF.out]; rfl, bgo HBk.out hB⟩
            · have hne : ¬ (0 < k ∧ b = 0) := fun h => hk0 (by omega)
              by_cases hm : most < (numv ((bs.drop pl).take (k + 1)) : Int)
              · have hE : numR (bs.drop pl) most = .error 1 := by rw [HE.out, if_neg hne, if_pos hm]
                have HF := hid_of' hE
                clear HE hE hbz hb0 hne
                go_wp2
                go_ret3
                exact ⟨by rw [HF.out]; rfl, bgo HBk.out hB⟩
              · have hE : numR (bs.drop pl) most = .ok (numv ((bs.drop pl).take (k + 1)), k + 1) := by rw [HE.out, if_neg hne, if_neg hm]
                have HF := hid_of' hE
                have hkw : wrap64 ((k : Int) + 1) = ((k + 1 : Nat) : Int) := by unfold wrap64; omega
                clear HE hE hbz hb0 hne
                go_wp2
                go_ret3
                exact ⟨by rw [HF.out]; simp [nums], bgo HBk.out hB⟩
          · have hb0' : ((b.toNat : Int) == 0) = false := by simpa using hb0
            have hne : ¬ (0 < k ∧ b = 0) := fun h => hb0 (by rw [h.2]; rfl)
            by_cases hm : most < (numv ((bs.drop pl).take (k + 1)) : Int)
            · have hE : numR (bs.drop pl) most = .error 1 := by rw [HE.out, if_neg hne, if_pos hm]
              have HF := hid_of' hE
              clear HE hE hb0 hne
              go_wp2
              go_ret3
              exact ⟨by rw [HF.out]; rfl, bgo HBk.out hB⟩
            · have hE : numR (bs.drop pl) most = .ok (numv ((bs.drop pl).take (k + 1)), k + 1) := by rw [HE.out, if_neg hne, if_neg hm]
              have HF := hid_of' hE
              clear HE hE hb0 hne
              go_wp2
              go_ret3
              exact ⟨by rw [HF.out]; simp [nums], bgo HBk.out hB⟩
        · have hbig : ¬ b < 128 := by rw [UInt8.lt_iff_toNat_lt]; show ¬ b.toNat < 128; omega
          have HN := hid_of' (HI.out.next HBR.out (by omega) hbig)
          clear hbig
          go_wp2
          go_roundw
          case rel => exact ⟨k + 1, by go_num, by simp; omega, rfl, by omega, bgo HBk.out hB, HN.out⟩
          case measure => simp [intOf]; omega
    · obtain rfl : k = 9 := by omega
      have HE := hid_of' (HI.out.nine (most := most))
      go_wp2
      go_ret3
      exact ⟨by rw [HE.out]; rfl, hB⟩
end Go.Proofs.YtpkblfhkblllhaaGreatDoor
namespace Go.Proofs.YtpkblfhkblllhaaGreatDoor
open Go.RowKit
set_option maxRecDepth 100000

/-- The place as a refusal tells it. -/
def place (at_ : Int) : Int := if at_ < 0 then -1 else at_

/-- A refusal's cells. -/
def nov (code : Int) (a : Option Addr) (n c : Nat) (a' : Option Addr) (n' c' : Nat) : Array Value := #[.int .i64 code, .slice a n c, .slice a' n' c']
theorem no_size : (Tryz.prog.info? 37).map (·.size) = some 3 := by kernel_rfl
theorem wpL_storeNo {ops : Array Oper} {rest : List Oper} {o : Oper} {A : Act} {w : World} {Q : Exit → Act → World → Prop} (hgd : o.guard = none) (x y : Operand) (ho : o.op = .store 37 x y) {g : Nat} (hx : A.eval x = .pointer (some ⟨g, 0, none⟩)) {code : Int} {a a' : Option Addr} {n c n' c' : Nat} (hy : A.eval y = .agg #[.int .i64 code, .slice a n c, .slice a' n' c']) {c0 c1 c2 : Value} (h : RowAt g #[c0, c1, c2] 37 w)
    (k : wpList Tryz.prog ops Q rest (A.put o.dst undef) (w.setRow g (nov code a n c a' n' c'))) : wpList Tryz.prog ops Q (o :: rest) A w :=
  wpList_store_row hgd _ x y ho g (nov code a n c a' n' c') hx hy _ _ h no_size rfl (by simp [nov, Value.oneCell']) k

set_option maxHeartbeats 1000000 in
theorem wrap_any (la ca : ByteArray) (at_ code : Int) (g : Nat) (w : World) (hc : (code == 0) = false) :
    Calls Tryz.prog 41 #[.string la, .string ca, .int .i64 at_, .agg #[.int .i64 code, .slice none 0 0, .slice (some ⟨g, 0, none⟩) 1 1]] w fun e w' => ∃ g', e = .returned (.agg #[.int .i64 code, .slice (some ⟨g', 0, none⟩) 1 1, .slice (some ⟨g, 0, none⟩) 1 1]) ∧ w.heap.size ≤ g' ∧ RowAt g' #[.string la, .string ca, .int .i64 (place at_)] 105 w' ∧ Below w.heap.size w w' := by
  by_cases hneg : at_ < 0
  · have HP : Hid (place at_ = -1) := if_pos hneg
    go_enter Tryz.func41, Tryz.ntmps41
    go_wp2
    go_region
    go_wp2
    have hr : RowAt (w.heap.size + 1 + 1) #[.string la, .string ca, .int .i64 (-1)] 105 (((w.alloc (.cells #[.int .i64 code, .slice none 0 0, .slice (some ⟨g, 0, none⟩) 1 1] 37)).alloc (.cells #[.int .i64 code, .slice (some ⟨w.heap.size + 1 + 1, 0, none⟩) 1 1, .slice (some ⟨g, 0, none⟩) 1 1] 37)).alloc (.cells #[.string la, .string ca, .int .i64 (-1)] 105)).drew := by
      have := heap_alloc_lastO ((w.alloc (.cells #[.int .i64 code, .slice none 0 0, .slice (some ⟨g, 0, none⟩) 1 1] 37)).alloc (.cells #[.int .i64 code, .slice (some ⟨w.heap.size + 1 + 1, 0, none⟩) 1 1, .slice (some ⟨g, 0, none⟩) 1 1] 37)) (.cells #[.string la, .string ca, .int .i64 (-1)] 105)
      simp only [World.size_alloc] at this
      exact this
    refine bodyPost_ret (v := .agg #[.int .i64 code, .slice (some ⟨w.heap.size + 1 + 1, 0, none⟩) 1 1, .slice (some ⟨g, 0, none⟩) 1 1]) (by simp [results, Tryz.results41, go_sem]) rfl ⟨w.heap.size + 1 + 1, rfl, by omega, ?_, ?_⟩
    · rw [HP.out]; exact hr
    · exact (bgo (bgo (below_one w _) (below_one _ _)) (below_one _ _)).drew
  · have HP : Hid (place at_ = at_) := if_neg hneg
    go_enter Tryz.func41, Tryz.ntmps41
    go_wp2
    go_region
    go_wp2
    have hr : RowAt (w.heap.size + 1 + 1) #[.string la, .string ca, .int .i64 at_] 105 (((w.alloc (.cells #[.int .i64 code, .slice none 0 0, .slice (some ⟨g, 0, none⟩) 1 1] 37)).alloc (.cells #[.int .i64 code, .slice (some ⟨w.heap.size + 1 + 1, 0, none⟩) 1 1, .slice (some ⟨g, 0, none⟩) 1 1] 37)).alloc (.cells #[.string la, .string ca, .int .i64 at_] 105)).drew := by
      have := heap_alloc_lastO ((w.alloc (.cells #[.int .i64 code, .slice none 0 0, .slice (some ⟨g, 0, none⟩) 1 1] 37)).alloc (.cells #[.int .i64 code, .slice (some ⟨w.heap.size + 1 + 1, 0, none⟩) 1 1, .slice (some ⟨g, 0, none⟩) 1 1] 37)) (.cells #[.string la, .string ca, .int .i64 at_] 105)
      simp only [World.size_alloc] at this
      exact this
    refine bodyPost_ret (v := .agg #[.int .i64 code, .slice (some ⟨w.heap.size + 1 + 1, 0, none⟩) 1 1, .slice (some ⟨g, 0, none⟩) 1 1]) (by simp [results, Tryz.results41, go_sem]) rfl ⟨w.heap.size + 1 + 1, rfl, by omega, ?_, ?_⟩
    · rw [HP.out]; exact hr
    · exact (bgo (bgo (below_one w _) (below_one _ _)) (below_one _ _)).drew

set_option maxHeartbeats 1000000 in
theorem say_any (la ca : ByteArray) (at_ code : Int) (w : World) (hc : (code == 0) = false) :
    Calls Tryz.prog 40 #[.string la, .string ca, .int .i64 at_, .int .i64 code] w fun e w' => ∃ g g', e = .returned (.agg #[.int .i64 code, .slice (some ⟨g', 0, none⟩) 1 1, .slice (some ⟨g, 0, none⟩) 1 1]) ∧ w.heap.size ≤ g' ∧ w.heap.size ≤ g ∧ RowAt g' #[.string la, .string ca, .int .i64 (place at_)] 105 w' ∧ RowAt g #[.int .i64 code] 3 w' ∧ Below w.heap.size w w' := by
  have g0 : RowAt w.heap.size #[.int .i64 0, .slice none 0 0, .slice none 0 0] 37 ((w.alloc (.cells #[.int .i64 0, .slice none 0 0, .slice none 0 0] 37)).alloc (.cells #[.int .i64 code] 3)) := by
    have h1 : RowAt w.heap.size #[.int .i64 0, .slice none 0 0, .slice none 0 0] 37 (w.alloc (.cells #[.int .i64 0, .slice none 0 0, .slice none 0 0] 37)) := heap_alloc_lastO w _
    exact h1.later (below_one _ _)
  have g1 : RowAt (w.heap.size + 1) #[.int .i64 code] 3 ((w.alloc (.cells #[.int .i64 0, .slice none 0 0, .slice none 0 0] 37)).alloc (.cells #[.int .i64 code] 3)) := by
    have h1 := heap_alloc_lastO (w.alloc (.cells #[.int .i64 0, .slice none 0 0, .slice none 0 0] 37)) (.cells #[.int .i64 code] 3)
    simp only [World.size_alloc] at h1
    exact h1
  have hB := bgo (below_one w (.cells #[.int .i64 0, .slice none 0 0, .slice none 0 0] 37)) (below_one _ (.cells #[.int .i64 code] 3))
  go_enter Tryz.func40, Tryz.ntmps40
  go_wp2_with (first | (go_at_call 41; refine (wrap_any la ca at_ code _ _ hc).mono ?_; rintro e w1 ⟨g', rfl, hg', hcs, hb1⟩) | (refine wpL_storeNo rfl _ _ rfl rfl rfl (g0.later hb1) ?_))
  have hg1 : w.heap.size + 1 + 1 ≤ g' := by simpa using hg'
  have r0 : RowAt w.heap.size #[.int .i64 code, .slice (some ⟨g', 0, none⟩) 1 1, .slice (some ⟨w.heap.size + 1, 0, none⟩) 1 1] 37 (w1.setRow w.heap.size #[.int .i64 code, .slice (some ⟨g', 0, none⟩) 1 1, .slice (some ⟨w.heap.size + 1, 0, none⟩) 1 1]) := setRow_heap w1 _ _ _ _ _ (g0.later hb1)
  have keep : ∀ (b : Nat) (cs : Array Value) (t : TypeId), RowAt b cs t w1 → w.heap.size < b → RowAt b cs t (w1.setRow w.heap.size #[.int .i64 code, .slice (some ⟨g', 0, none⟩) 1 1, .slice (some ⟨w.heap.size + 1, 0, none⟩) 1 1]) := fun b cs t h hlt => (setRow_other w1 w.heap.size b _ (by omega)).trans h
  exact bodyPost_ret (v := .agg #[.int .i64 code, .slice (some ⟨g', 0, none⟩) 1 1, .slice (some ⟨w.heap.size + 1, 0, none⟩) 1 1]) (results_cell_row rfl _ _ w.heap.size _ _ _ _ rfl r0 Tryz.underlying37 rfl no_size) rfl ⟨w.heap.size + 1, g', rfl, by omega, by omega, keep _ _ _ hcs (by omega), keep _ _ _ (g1.later hb1) (by omega), below_row (bgo hB hb1) (Nat.le_refl _) _⟩
theorem RowAt.other {b : Nat} {cs : Array Value} {t : TypeId} {w : World} (h : RowAt b cs t w) (g : Nat) (c : Array Value) (hn : ¬ b = g) : RowAt b cs t (w.setRow g c) := (setRow_other w g b c hn).trans h
theorem RowAt.put {b : Nat} {cs : Array Value} {t : TypeId} {w : World} (h : RowAt b cs t w) (c : Array Value) : RowAt b c t (w.setRow b c) := setRow_heap w b _ _ _ _ h
theorem CsIn.other {b off : Nat} {cs : Array Value} {w : World} (h : CsIn b off cs w) (g : Nat) (c : Array Value) (hn : ¬ b = g) : CsIn b off cs (w.setRow g c) := ⟨by simpa using h.1, fun j v hv => by rw [cell_setRow_other _ _ _ _ (by simpa using hn)]; exact h.2 j v hv⟩
end Go.Proofs.YtpkblfhkblllhaaGreatDoor
