
/-
  The document's form of a number and of a text; barrowkeep.SpoilBytes.
-/
import Derived.Test.YthabeapgkaggmaaDoorWw1
namespace Go.Proofs.YthabeapgkaggmaaDoor
open Go.RowKit Go.Extern.Stop Go.Stop Go.Extern
set_option maxRecDepth 100000

/-- A new row of bytes of one's own. -/
structure NewB (w : World) (v : Value) (bs : List UInt8) (w' : World) : Prop where
  own : Rw 5 1 v bs.length (Lib.byteCells bs) w'
  new : At' w (.slice none 0 0) v
  below : Below w.heap.size w w'
theorem NewB.fresh {w w' : World} {v : Value} {bs : List UInt8} (h : NewB w v bs w') : ∀ k, v.ownBlock = some k → w.heap.size ≤ k := fun k hk => (h.new k hk).resolve_left (fun e => by cases e)
theorem NewB.put {w w1 w2 : World} {v v2 : Value} {bs bs' : List UInt8} (h : NewB w v bs w1) (q1 : Rw 5 1 v2 bs'.length (Lib.byteCells bs') w2) {u : Obj} (q2 : (w1.alloc u).grownBy w2 v.ownBlock) (q3 : At' (w1.alloc u) v v2) : NewB w v2 bs' w2 := by
  have hB := bgo h.below (below_one w1 u)
  exact ⟨q1, h.new.trans q3 (by have := hB.size; exact this), ((Ch.of (S := fun _ => False) hB).grown q2 (fun k hk => .inr (h.fresh k hk))).none (fun s _ hs => hs)⟩
theorem NewB.putT {w w1 w2 : World} {v v2 : Value} {bs bs' : List UInt8} (h : NewB w v bs w1) (q1 : Rw 5 1 v2 bs'.length (Lib.byteCells bs') w2) (q2 : w1.grownBy w2 v.ownBlock) (q3 : At' w1 v v2) : NewB w v2 bs' w2 :=
  ⟨q1, h.new.trans q3 h.below.size, ((Ch.of (S := fun _ => False) h.below).grown q2 (fun k hk => .inr (h.fresh k hk))).none (fun _s _ hs => hs)⟩

theorem rem_128 (m : Nat) : (m : Int).tmod 128 = (m : Int) % 128 := Int.tmod_eq_emod_of_nonneg (by omega)
set_option maxHeartbeats 1000000 in
theorem refForm_ww (n : Nat) (hn : n < 9223372036854775808) (w : World) :
    Calls Tryd.prog 7 #[.int .i64 n] w fun e w' => ∃ v, e = .returned v ∧ NewB w v (formN n) w' := by
  obtain ⟨i0, hi, hz0, hz1, hz2⟩ := info_parts infoB
  have HN := hid_of' hn
  clear hn
  go_enter Tryd.func7, Tryd.ntmps7
  go_wp2_with fail
  go_loopg [0, 3] n (fun k nv ov wr => ∃ (m : Nat) (pre : List UInt8) (sa : Option Addr) (sc : Nat), k = m ∧ nv = .int .i64 (m : Int) ∧ ov = .slice sa pre.length sc ∧ NewB w (.slice sa pre.length sc) pre wr ∧ Hid (pre ++ formN m = formN n ∧ m < 9223372036854775808))
  case atStart => exact ⟨n, [], none, 0, rfl, rfl, rfl, ⟨Rw.nil _ _ _, At'.refl _ _, Below.refl _ _⟩, ⟨rfl, HN.out⟩⟩
  case round =>
    obtain ⟨m, pre, sa, sc, hgk, rfl, rfl, hO, hA⟩ := hrel
    have hpl := digit_len n m pre HN.out hA.out.1
    have HO := hid_of' hO
    clear hO
    by_cases hm : m < 128
    · have hm' : ¬ (127 : Int) < (m : Int) := by omega
      have hw8 : IntKind.u8.wrap (m : Int) = (m : Int) := by rw [IntKind.wrap_u8']; omega
      have HS := hid_of' (And.intro (HO.out.own.later (below_one _ (.cells #[.int .u8 (m : Int)] 5))) (so_1 wr (m : Int)))
      go_wp2_with (at_builtin; refine wpL_app (P := Tryd.prog) rfl _ _ 25 rfl 5 i0 _ 1 1 Tryd.underlying25 hi hz0 hz1 hz2 rfl rfl rfl HS.out.1 HS.out.2 (fun y hy => by rw [List.mem_singleton] at hy; subst hy; rfl) (by unfold maxLen; omega) (by omega) ?_; intro v2 w2 q1 q2 q3)
      have q1' : Rw 5 1 v2 (formN n).length (Lib.byteCells (formN n)) w2 := by
        have e : formN n = pre ++ [UInt8.ofNat m] := by rw [← hA.out.1, form_small hm]
        rw [e, List.length_append]
        rw [ofN_small m hm] at q1
        simpa [Lib.byteCells] using q1
      have HP := hid_of' (HO.out.put q1' q2 q3)
      clear q1 q2 q3 q1' HS
      go_ret
      exact ⟨_, rfl, HP.out⟩
    · have hm' : (127 : Int) < (m : Int) := by omega
      have hr := rem_128 m
      have hw := wrap_div m hA.out.2
      have hw1 : IntKind.i64.wrap ((m : Int) % 128 + 128) = 128 + (m : Int) % 128 := by rw [IntKind.wrap_i64]; omega
      have hw8 : IntKind.u8.wrap (128 + (m : Int) % 128) = 128 + (m : Int) % 128 := by rw [IntKind.wrap_u8']; omega
      have HS := hid_of' (And.intro (HO.out.own.later (below_one _ (.cells #[.int .u8 (128 + (m : Int) % 128)] 5))) (so_1 wr (128 + (m : Int) % 128)))
      go_wp2_with (at_builtin; refine wpL_app (P := Tryd.prog) rfl _ _ 25 rfl 5 i0 _ 1 1 Tryd.underlying25 hi hz0 hz1 hz2 rfl rfl rfl HS.out.1 HS.out.2 (fun y hy => by rw [List.mem_singleton] at hy; subst hy; rfl) (by unfold maxLen; omega) (by omega) ?_; intro v2 w2 q1 q2 q3; obtain ⟨va, vc, rfl, _, _⟩ := q1.form)
      go_roundg (m / 128)
      case measure => rw [hgk]; exact Nat.div_lt_self (by omega) (by decide)
      case rel =>
        have q1' : Rw 5 1 (.slice va (pre.length + 1) vc) (pre ++ [UInt8.ofNat (m % 128 + 128)]).length (Lib.byteCells (pre ++ [UInt8.ofNat (m % 128 + 128)])) w2 := by
          rw [List.length_append]
          rw [ofN_big m] at q1
          simpa [Lib.byteCells] using q1
        refine ⟨m / 128, pre ++ [UInt8.ofNat (m % 128 + 128)], va, vc, rfl, congrArg (Value.int .i64 ·) hw, by rw [List.length_append]; rfl, by rw [List.length_append] at q1' ⊢; exact HO.out.put (by rw [List.length_append]; exact q1') q2 q3, ⟨?_, by have := hA.out.2; omega⟩⟩
        rw [← hA.out.1, form_big hm, List.append_assoc]; rfl

set_option maxHeartbeats 1000000 in
theorem refText_ww (s : ByteArray) (hs : s.size ≤ 140737488351232) (w : World) :
    Calls Tryd.prog 9 #[.string s] w fun e w' => ∃ v, e = .returned v ∧ NewB w v (formN s.size ++ s.data.toList) w' := by
  have hfl := form_len9 s.size (by omega)
  have hn3 : (formN s.size).length + s.size ≤ 140737488355328 := by omega
  go_enter Tryd.func9, Tryd.ntmps9
  have HN := hid_of' hn3
  have HS := hid_of' hs
  clear hfl hn3 hs
  go_wp2_with (first | (go_at_call 7; refine (refForm_ww s.size (by have := HS.out; omega) w).mono ?_; rintro e w2 ⟨v2, rfl, hF⟩; obtain ⟨m, hm⟩ : ∃ m, m = formN s.size := ⟨_, rfl⟩; rw [← hm] at hF; obtain ⟨a, k, rfl, _, _⟩ := hF.own.form; have HO := hid_of' (And.intro hF (And.intro (show m.length + s.size ≤ 140737488355328 by rw [hm]; exact HN.out) hm)); clear hm hF) | (at_builtin; refine wpL_appT rfl _ _ rfl rfl rfl rfl HO.out.1.own HO.out.2.1 ?_; intro v3 w3 q1 q2 q3; have HP := hid_of' (HO.out.1.putT (text_grown (bs := []) HO.out.2.2 q1) q2 q3); clear q1 q2 q3))
  go_ret
  exact ⟨_, rfl, HP.out⟩
set_option maxHeartbeats 4000000 in
theorem spoilBytes_is {w : World} {v : Value} {n : Nat} {xs : List Value} (h : Rw 5 1 v n xs w) (hx : u8s xs) (hn : n ≤ 140737488355280) :
    Calls Tryd.prog 15 #[v] w fun e w' => (∃ z, e = .returned z) ∧ Ch (fun k => v.ownBlock = some k) w w' := by
  obtain ⟨i0, hi0, hz0, hz1, hz2⟩ := info_parts infoB
  have HI := hid_of' (And.intro hi0 (And.intro hz0 (And.intro hz1 hz2)))
  obtain ⟨a, c, rfl, _, _⟩ := h.form
  have H := hid_of' h
  clear h hi0 hz0 hz1 hz2
  go_enter Tryd.func15, Tryd.ntmps15
  go_wp2
  go_loopw [2] (fun kv wr => ∃ (k : Nat) (ys : List Value), kv = .int .i64 (k : Int) ∧ k ≤ n ∧ Rw 5 1 (.slice a n c) n ys wr ∧ u8s ys ∧ Ch (fun k => Value.ownBlock (.slice a n c) = some k) w wr) (fun kv _ => n - (intOf kv).toNat)
  case atStart => exact ⟨0, xs, rfl, by omega, H.out, hx, Ch.refl _ _⟩
  case round =>
    obtain ⟨k, ys, rfl, hk, hR, hu, hC⟩ := hrel
    by_cases hkl : k < n
    · have hki : (k : Int) < (n : Int) := by omega
      obtain ⟨G, rfl⟩ := hR.some (by omega)
      have hyl : ys.length = n := by have := hR.1; omega
      obtain ⟨y, hy⟩ : ∃ y, ys[k]? = some y := ⟨_, List.getElem?_eq_getElem (by omega)⟩
      obtain ⟨z, rfl⟩ := hu y (List.mem_of_getElem? hy)
      have hat := rw_at1 hR hy
      have m1 := hat.1
      have m2 := hat.2
      have HX := hid_of' (And.intro hR (And.intro hu hC))
      clear hR hC hat hy hyl hu
      go_wp2
      go_roundw
      case rel => exact ⟨k + 1, ys.set k _, by go_num, by omega, rw_set1 HX.out.1 k _, HX.out.2.1.set k _, Ch.set (p := ⟨G, k, none⟩) HX.out.2.2 (.inl rfl) _⟩
      case measure => simp [intOf]; omega
    · have hki : ¬ (k : Int) < (n : Int) := by omega
      have HX := hid_of' (And.intro hR hC)
      clear hR hC
      go_wp2
      go_loopw [0, 3] (fun v9 jv wq => ∃ (j m : Nat) (zs : List Value), jv = .int .i64 (j : Int) ∧ j ≤ 40 ∧ m ≤ n + j ∧ Rw 5 1 v9 m zs wq ∧ At' w (.slice a n c) v9 ∧ Ch (fun k => Value.ownBlock (.slice a n c) = some k) w wq) (fun _ jv _ => 40 - (intOf jv).toNat)
      case atStart => exact ⟨0, n, ys, rfl, by omega, by omega, HX.out.1, At'.refl _ _, HX.out.2⟩
      case round =>
        obtain ⟨j, m, zs, rfl, hj, hm, hR, hA, hC⟩ := hrel
        obtain ⟨za, zc, hv9, _, _⟩ := hR.form
        subst hv9
        by_cases hj4 : j < 40
        · have hji : (j : Int) < 40 := by omega
          have HS := hid_of' (And.intro (hR.later (below_one _ (.cells #[.int .u8 85] 5))) (so_1 wr 85))
          have HY := hid_of' (And.intro hA hC)
          clear hR hA hC
          go_upto_region 6 with (at_builtin; refine wpL_app (P := Tryd.prog) rfl _ _ 25 rfl 5 i0 _ 1 1 Tryd.underlying25 HI.out.1 HI.out.2.1 HI.out.2.2.1 HI.out.2.2.2 rfl rfl rfl HS.out.1 HS.out.2 (fun y hy => by rw [List.mem_singleton] at hy; subst hy; rfl) (by unfold maxLen; omega) (by omega) ?_; intro u6 w6 q1 q2 q3)
          have hs := HY.out.2.size
          have hC6 := (HY.out.2.later (below_one _ (.cells #[.int .u8 85] 5))).grown q2 (fun k hk => HY.out.1 k hk)
          have hA6 : At' w (.slice a n c) u6 := fun k hk => (q3 k hk).elim (fun q => HY.out.1 k q) (fun q => .inr (by rw [World.size_alloc] at q; omega))
          have HZ := hid_of' (And.intro q1 (And.intro hA6 hC6))
          clear q1 q2 q3 hC6 hA6
          go_wp2
          go_roundw
          case rel => exact ⟨j + 1, m + 1, _, by go_num, by omega, by omega, HZ.out.1, HZ.out.2.1, HZ.out.2.2⟩
          case measure => simp [intOf]; omega
        · have hji : ¬ (j : Int) < 40 := by omega
          have HY := hid_of' hC
          clear hR hA hC
          go_wp2
          go_end0
          exact ⟨⟨_, rfl⟩, HY.out⟩
end Go.Proofs.YthabeapgkaggmaaDoor
