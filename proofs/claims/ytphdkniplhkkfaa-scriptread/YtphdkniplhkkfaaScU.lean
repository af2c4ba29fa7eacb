
/-
  barrowref05.UTF8: characters as a text.
-/
import Derived.Test.YtphdkniplhkkfaaSc0
namespace Go.Proofs.Ytphdkniplhkkfaa
open Go.RowKit Go.Extern.Stop Go.Stop Go.Extern
set_option maxRecDepth 100000

theorem dbytes_of (c : Int) : ((Lib.encodeRune c).map fun b => Value.int .u8 (b.toNat : Int)) = (Lib.encodeRuneZ c).map fun x => Value.int .u8 x := Lib.byteCells_encodeRune c
set_option maxHeartbeats 8000000 in
theorem utf8_is {w : World} {v : Value} {xs : List Int} (h : RwR v xs w) (hr : ∀ r ∈ xs, Ru r) (hl : xs.length ≤ 100000000) :
    Calls Try.prog 24 #[v] w fun e w' => e = .returned (.string (tx xs)) ∧ Below w.heap.size w w' := by
  obtain ⟨oa, ca0, hva, _, _⟩ := h.form
  have H := hid_of' (And.intro h hr)
  obtain ⟨n, hn⟩ : ∃ n, n = xs.length := ⟨_, rfl⟩
  rw [← hn] at hva hl
  subst hva
  have HN := hid_of' hn
  clear h hr hn
  go_enter Try.func24, Try.ntmps24
  go_wp2
  go_loopw [3, 4] (fun ov kv wr => ∃ k : Nat, kv = .int .i64 (k : Int) ∧ k ≤ n ∧ RwB ov (enc (xs.take k)) wr ∧ (∀ g, ov.ownBlock = some g → w.heap.size ≤ g) ∧ Ch (fun _ => False) w wr) (fun _ kv _ => n - (intOf kv).toNat)
  case atStart => exact ⟨0, rfl, Nat.zero_le _, RwB.nil _, (fun g hg => by cases hg), Ch.refl _ _⟩
  case round =>
    obtain ⟨k, rfl, hk, hR, hO, hC⟩ := hrel
    obtain ⟨ov, oc, hov, _, _⟩ := Rw.form hR
    have hbw : Below w.heap.size w wr := hC.none (fun _ _ q => q)
    by_cases hkn : k < n
    · have hki : (k : Int) < (n : Int) := by omega
      obtain ⟨c, hc⟩ : ∃ c, xs[k]? = some c := ⟨_, List.getElem?_eq_getElem (by rw [← HN.out]; exact hkn)⟩
      obtain ⟨ga, cc, hva, _, hgl, hcz⟩ := (H.out.1.later hbw).at (by rintro rfl; simp at hc)
      rw [← HN.out] at hva
      cases hva
      have cx := hcz k c hc
      have hru := H.out.2 c (List.mem_of_getElem? hc)
      have hen : enc (xs.take (k + 1)) = enc (xs.take k) ++ Lib.encodeRune c := by rw [List.take_add_one, hc, enc_app]; simp [enc]
      have hle := enc_len (xs.take k)
      have hlt : (xs.take k).length ≤ k := by rw [List.length_take]; omega
      obtain ⟨on, hon⟩ : ∃ on, on = (enc (xs.take k)).length := ⟨_, rfl⟩
      rw [← hon] at hov
      subst hov
      have HR := hid_of' (And.intro hR (And.intro hO (And.intro hC (And.intro hen (And.intro hru (And.intro hle hlt))))))
      obtain ⟨hc0, hcs, hc1⟩ := hru
      clear hR hO hC hen hle hlt hcz hbw hc hon
      by_cases g1 : c < 128
      · skip
        have HS := hid_of' (And.intro (HR.out.1.later (below_one wr (.cells #[.int .u8 (c)] 5))) (so_bytes wr #[.int .u8 (c)] (Lib.encodeRune c) 1 (by rw [Lib.encodeRune, List.length_map, Lib.encodeRuneZ_one (by omega) (by omega)]; rfl) (by rw [dbytes_of, Lib.encodeRuneZ_one (by omega) (by omega)]; rfl)))
        have hm : (Lib.encodeRune c).length ≤ 4 := (encR_len c).2
        go_upto_region 4 with (at_builtin; refine wpL_appBy (m := Lib.encodeRune c) rfl _ _ rfl rfl rfl HS.out.1 HS.out.2 (by have := HR.out.2.2.2.2.2; omega) ?_; intro u6 w6 q1 q2 q3)
        have hC6 := (HR.out.2.2.1.later (below_one wr _)).own q2 HR.out.2.1
        have hO6 : ∀ g, u6.ownBlock = some g → w.heap.size ≤ g := fun g hg => (q3 g hg).elim (fun e => HR.out.2.1 g e) (fun e => by have h2 := HR.out.2.2.1.size; rw [World.size_alloc] at e; omega)
        rw [← HR.out.2.2.2.1] at q1
        have H6 := hid_of' (And.intro q1 (And.intro hO6 hC6))
        clear q1 q2 q3 hO6 hC6 HS cx
        go_wp2
        go_roundw
        case rel => exact ⟨k + 1, by go_num, by omega, H6.out.1, H6.out.2.1, H6.out.2.2⟩
        case measure => simp [intOf]; omega
      by_cases g2 : c < 2048
      · skip
        have HS := hid_of' (And.intro (HR.out.1.later (below_one wr (.cells #[.int .u8 (192 + c / 64), .int .u8 (128 + c % 64)] 5))) (so_bytes wr #[.int .u8 (192 + c / 64), .int .u8 (128 + c % 64)] (Lib.encodeRune c) 2 (by rw [Lib.encodeRune, List.length_map, Lib.encodeRuneZ_two (by omega) (by omega)]; rfl) (by rw [dbytes_of, Lib.encodeRuneZ_two (by omega) (by omega)]; rfl)))
        have hm : (Lib.encodeRune c).length ≤ 4 := (encR_len c).2
        go_upto_region 4 with (at_builtin; refine wpL_appBy (m := Lib.encodeRune c) rfl _ _ rfl rfl rfl HS.out.1 HS.out.2 (by have := HR.out.2.2.2.2.2; omega) ?_; intro u6 w6 q1 q2 q3)
        have hC6 := (HR.out.2.2.1.later (below_one wr _)).own q2 HR.out.2.1
        have hO6 : ∀ g, u6.ownBlock = some g → w.heap.size ≤ g := fun g hg => (q3 g hg).elim (fun e => HR.out.2.1 g e) (fun e => by have h2 := HR.out.2.2.1.size; rw [World.size_alloc] at e; omega)
        rw [← HR.out.2.2.2.1] at q1
        have H6 := hid_of' (And.intro q1 (And.intro hO6 hC6))
        clear q1 q2 q3 hO6 hC6 HS cx
        go_wp2
        go_roundw
        case rel => exact ⟨k + 1, by go_num, by omega, H6.out.1, H6.out.2.1, H6.out.2.2⟩
        case measure => simp [intOf]; omega
      by_cases g3 : c < 65536
      · skip
        have HS := hid_of' (And.intro (HR.out.1.later (below_one wr (.cells #[.int .u8 (224 + c / 4096), .int .u8 (128 + c / 64 % 64), .int .u8 (128 + c % 64)] 5))) (so_bytes wr #[.int .u8 (224 + c / 4096), .int .u8 (128 + c / 64 % 64), .int .u8 (128 + c % 64)] (Lib.encodeRune c) 3 (by rw [Lib.encodeRune, List.length_map, Lib.encodeRuneZ_three (by omega)]; rfl) (by rw [dbytes_of, Lib.encodeRuneZ_three (by omega)]; rfl)))
        have hm : (Lib.encodeRune c).length ≤ 4 := (encR_len c).2
        go_upto_region 4 with (at_builtin; refine wpL_appBy (m := Lib.encodeRune c) rfl _ _ rfl rfl rfl HS.out.1 HS.out.2 (by have := HR.out.2.2.2.2.2; omega) ?_; intro u6 w6 q1 q2 q3)
        have hC6 := (HR.out.2.2.1.later (below_one wr _)).own q2 HR.out.2.1
        have hO6 : ∀ g, u6.ownBlock = some g → w.heap.size ≤ g := fun g hg => (q3 g hg).elim (fun e => HR.out.2.1 g e) (fun e => by have h2 := HR.out.2.2.1.size; rw [World.size_alloc] at e; omega)
        rw [← HR.out.2.2.2.1] at q1
        have H6 := hid_of' (And.intro q1 (And.intro hO6 hC6))
        clear q1 q2 q3 hO6 hC6 HS cx
        go_wp2
        go_roundw
        case rel => exact ⟨k + 1, by go_num, by omega, H6.out.1, H6.out.2.1, H6.out.2.2⟩
        case measure => simp [intOf]; omega
      · skip
        have HS := hid_of' (And.intro (HR.out.1.later (below_one wr (.cells #[.int .u8 (240 + c / 262144), .int .u8 (128 + c / 4096 % 64), .int .u8 (128 + c / 64 % 64), .int .u8 (128 + c % 64)] 5))) (so_bytes wr #[.int .u8 (240 + c / 262144), .int .u8 (128 + c / 4096 % 64), .int .u8 (128 + c / 64 % 64), .int .u8 (128 + c % 64)] (Lib.encodeRune c) 4 (by rw [Lib.encodeRune, List.length_map, Lib.encodeRuneZ_four (by omega) (by omega)]; rfl) (by rw [dbytes_of, Lib.encodeRuneZ_four (by omega) (by omega)]; rfl)))
        have hm : (Lib.encodeRune c).length ≤ 4 := (encR_len c).2
        go_upto_region 4 with (at_builtin; refine wpL_appBy (m := Lib.encodeRune c) rfl _ _ rfl rfl rfl HS.out.1 HS.out.2 (by have := HR.out.2.2.2.2.2; omega) ?_; intro u6 w6 q1 q2 q3)
        have hC6 := (HR.out.2.2.1.later (below_one wr _)).own q2 HR.out.2.1
        have hO6 : ∀ g, u6.ownBlock = some g → w.heap.size ≤ g := fun g hg => (q3 g hg).elim (fun e => HR.out.2.1 g e) (fun e => by have h2 := HR.out.2.2.1.size; rw [World.size_alloc] at e; omega)
        rw [← HR.out.2.2.2.1] at q1
        have H6 := hid_of' (And.intro q1 (And.intro hO6 hC6))
        clear q1 q2 q3 hO6 hC6 HS cx
        go_wp2
        go_roundw
        case rel => exact ⟨k + 1, by go_num, by omega, H6.out.1, H6.out.2.1, H6.out.2.2⟩
        case measure => simp [intOf]; omega
    · have hki : ¬ (k : Int) < (n : Int) := by omega
      obtain rfl : k = n := by omega
      have e : enc (xs.take k) = enc xs := by rw [HN.out, List.take_length]
      rw [e] at hR
      have HR := hid_of' (And.intro hR hbw)
      clear hR hO hC hbw e hov
      go_wp2_with (refine wpL_strB rfl _ rfl rfl HR.out.1 ?_)
      go_ret
      exact ⟨rfl, HR.out.2⟩
end Go.Proofs.Ytphdkniplhkkfaa
