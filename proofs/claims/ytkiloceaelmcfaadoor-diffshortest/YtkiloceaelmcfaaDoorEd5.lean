
/-
  barrowlaw15.DiffShortest: the walk.
-/
import Derived.Test.YtkiloceaelmcfaaDoorEd4
namespace Go.Proofs.YtkiloceaelmcfaaDoor
open Go.RowKit Go.Extern.Stop Go.Stop Go.Extern
set_option maxRecDepth 100000

theorem ds_self : ∀ x : List Int, ds x x = 0
  | [] => by rw [ds_nil]; rfl
  | a :: x => by rw [ds_same, ds_self x]
set_option maxHeartbeats 8000000 in
theorem short_no {ad : Nat → Addr} {w : World} (E : Env3 ad w) (a b : ByteArray) (ha : a.size ≤ 9223372036854775807) (hb : b.size ≤ 9223372036854775807) (hv : Lib.validD (clB a).data.toList = false ∨ Lib.validD (clB b).data.toList = false) :
    Calls Tryd.prog 4 #[.string a, .string b] w fun e w' => e = .returned (.bool true) ∧ Below w.heap.size w w' := by
  have HCa := hid_of' (fun x => clip_is a ha x)
  have HCb := hid_of' (fun x => clip_is b hb x)
  have sa := clB_size a
  have sb := clB_size b
  generalize clB a = a1 at HCa hv sa
  generalize clB b = b1 at HCb hv sb
  have HLa := hid_of' (fun x => length_is x a1 (small9 sa))
  have HLb := hid_of' (fun x => length_is x b1 (small9 sb))
  obtain ⟨i, k, hch⟩ : ∃ i k, chW a1 b1 = some (i, k) := by
    unfold chW
    cases h1 : Lib.validD a1.data.toList
    · exact ⟨0, 2, by simp⟩
    · rcases hv with h | h
      · rw [h] at h1; cases h1
      · exact ⟨1, 2, by simp [h]⟩
  have HEd := hid_of' (fun (x : World) (hx : Below w.heap.size w x) => edits_no (E.env.later hx) a1 b1 (small70 sa) (small70 sb) hch)
  have HWk := hid_of' (fun (x : World) (hx : Below w.heap.size w x) => wakes_is (E.env.later hx))
  have hl : lenI a1 < 0 ∨ lenI b1 < 0 := hv.elim (fun h => .inl (lenI_no h)) (fun h => .inr (lenI_no h))
  generalize lenI a1 = la at HLa hl
  generalize lenI b1 = lb at HLb hl
  clear hv hch sa sb E
  go_enter Tryd.func4, Tryd.ntmps4
  go_upto_region 2 with (go_at_call 6; first | (refine (HCa.out _).mono ?_; rintro e w9 ⟨rfl, h0⟩; obtain rfl := h0.symm) | (refine (HCb.out _).mono ?_; rintro e w9 ⟨rfl, h0⟩; obtain rfl := h0.symm))
  go_upto_region 3 with (go_at_call 15; first | ((with_reducible refine (HLa.out _).mono ?_); rintro e w1 ⟨rfl, hb1⟩) | ((with_reducible refine (HLb.out _).mono ?_); rintro e w2 ⟨rfl, hb2⟩))
  have H2 := hid_of' (bgo hb1 hb2)
  clear hb1 hb2
  go_upto_region 4 with (go_at_call 16; (with_reducible refine (HEd.out _ H2.out).mono ?_); rintro e w3 ⟨v3, rfl, ⟨g3, rfl, _, _, _⟩, hb3⟩)
  have H3 := hid_of' (bgo H2.out hb3)
  have HZ := hid_of' (HWk.out w3 H3.out)
  clear hb3 HWk HEd
  by_cases h1 : la < 0
  · clear hl
    go_wp2_with (go_at_call 14; (with_reducible refine HZ.out.mono ?_); rintro e w4 ⟨rfl, hb4⟩)
    go_ret
    exact ⟨rfl, bgo H3.out hb4⟩
  · have h2 : lb < 0 := by omega
    clear hl
    go_wp2_with (go_at_call 14; (with_reducible refine HZ.out.mono ?_); rintro e w4 ⟨rfl, hb4⟩)
    go_ret
    exact ⟨rfl, bgo H3.out hb4⟩
set_option maxHeartbeats 16000000 in
theorem short_yes {ad : Nat → Addr} {w : World} (E : Env3 ad w) (a b : ByteArray) (ha : a.size ≤ 9223372036854775807) (hb : b.size ≤ 9223372036854775807) (va : Lib.validD (clB a).data.toList = true) (vb : Lib.validD (clB b).data.toList = true) :
    Calls Tryd.prog 4 #[.string a, .string b] w fun e w' => e = .returned (.bool true) ∧ Below w.heap.size w w' := by
  have HCa := hid_of' (fun x => clip_is a ha x)
  have HCb := hid_of' (fun x => clip_is b hb x)
  have sa := clB_size a
  have sb := clB_size b
  generalize clB a = a1 at HCa va sa
  generalize clB b = b1 at HCb vb sb
  have HLa := hid_of' (fun x => length_is x a1 (small9 sa))
  have HLb := hid_of' (fun x => length_is x b1 (small9 sb))
  have hch := chW_small sa sb va vb
  have hal := Nat.le_trans (rn_len a1.data.toList) (show a1.data.toList.length ≤ 120 by rw [Array.length_toList]; exact sa)
  have hbl := Nat.le_trans (rn_len b1.data.toList) (show b1.data.toList.length ≤ 120 by rw [Array.length_toList]; exact sb)
  have HEd := hid_of' (fun (x : World) (hx : Below w.heap.size w x) => edits_ok (E.env.later hx) a1 b1 (small70 sa) (small70 sb) hch)
  have HDi := hid_of' (fun (x : World) (hx : Below w.heap.size w x) => dist_ok (E.env.later hx) a1 b1 (small70 sa) (small70 sb) hch)
  have HCo := hid_of' (fun (x : World) (hx : Below w.heap.size w x) => common_ok (E.env.later hx) a1 b1 (small70 sa) (small70 sb) hch)
  have HWk := hid_of' (fun (x : World) (hx : Below w.heap.size w x) => wakes_is (E.env.later hx))
  obtain ⟨q1, q2, q3, q4, q5, q6, q7⟩ := eds_all (xs := rn a1.data.toList) (rn_ru _ _ (Nat.le_refl _) vb) hal hbl
  have hsm : Sml (eds (rn a1.data.toList) (rn b1.data.toList)) := ⟨by omega, fun e he => by have := q6 e he; omega⟩
  have hpf : pfW a1 (eds (rn a1.data.toList) (rn b1.data.toList)) = none := by
    unfold pfW
    rw [if_neg (by rw [va]; decide), q1]
  have HAp := hid_of' (fun (x : World) (hx : Below w.heap.size w x) (v : Value) (hv : RwE v (eds (rn a1.data.toList) (rn b1.data.toList)) x) => apply_ok (E.later hx) a1 hv (by omega) hsm hpf)
  rw [q2, tx_rn vb] at HAp
  have hcm := cm_len (rn a1.data.toList) (rn b1.data.toList)
  have hru : ∀ r ∈ cm (rn a1.data.toList) (rn b1.data.toList), Ru r := fun r hr => rn_ru _ _ (Nat.le_refl _) va r (cm_mem hr)
  have hcl : lenI (tx (cm (rn a1.data.toList) (rn b1.data.toList))) = ((cm (rn a1.data.toList) (rn b1.data.toList)).length : Int) := by rw [lenI_is (valid_tx hru), rn_tx hru]
  have hcs : (tx (cm (rn a1.data.toList) (rn b1.data.toList))).size ≤ 1000000000 := by
    have := tx_size (cm (rn a1.data.toList) (rn b1.data.toList))
    omega
  have HLc := hid_of' (fun x => length_is x (tx (cm (rn a1.data.toList) (rn b1.data.toList))) hcs)
  rw [hcl] at HLc
  have hz : ds (rn a1.data.toList) (rn b1.data.toList) = 0 ↔ a1 = b1 := ⟨ds_zero va vb hal hbl, fun h => by rw [h]; exact ds_self _⟩
  rw [lenI_is va] at HLa
  rw [lenI_is vb] at HLb
  have hds := ds_le (rn a1.data.toList) (rn b1.data.toList)
  generalize ds (rn a1.data.toList) (rn b1.data.toList) = dd at *
  generalize cm (rn a1.data.toList) (rn b1.data.toList) = cc at HCo HLc hcm
  generalize tx cc = tc at HCo HLc
  generalize cc.length = cn at HLc hcm
  generalize eds (rn a1.data.toList) (rn b1.data.toList) = es at *
  generalize (rn a1.data.toList).length = na at *
  generalize (rn b1.data.toList).length = nb at *
  have HQ := hid_of' (And.intro q3 (And.intro q4 (And.intro q5 (And.intro q6 (And.intro q7 hz)))))
  have hdn : (dd : Int) = (na : Int) + (nb : Int) - 2 * (cn : Int) := by omega
  have HDn := hid_of' hdn
  have hcn : cn ≤ 120 := by omega
  have hdd : dd ≤ 240 := by omega
  clear q1 q2 q3 q4 q5 q6 q7 hz hsm hpf hcm hru hcl hcs va vb sa sb hch E hds hdn
  go_enter Tryd.func4, Tryd.ntmps4
  go_upto_region 2 with (go_at_call 6; first | (refine (HCa.out _).mono ?_; rintro e w9 ⟨rfl, h0⟩; obtain rfl := h0.symm) | (refine (HCb.out _).mono ?_; rintro e w9 ⟨rfl, h0⟩; obtain rfl := h0.symm))
  go_upto_region 3 with (go_at_call 15; first | ((with_reducible refine (HLa.out _).mono ?_); rintro e w1 ⟨rfl, hb1⟩) | ((with_reducible refine (HLb.out _).mono ?_); rintro e w2 ⟨rfl, hb2⟩))
  have H2 := hid_of' (bgo hb1 hb2)
  clear hb1 hb2
  go_upto_region 4 with (go_at_call 16; (with_reducible refine (HEd.out _ H2.out).mono ?_); rintro e w3 ⟨v3, rfl, hv3, _, hb3⟩)
  obtain ⟨a3, c3, f3, _⟩ := Rw.form hv3
  obtain ⟨qn, hqn⟩ : ∃ qn, qn = es.length := ⟨_, rfl⟩
  rw [← hqn] at f3
  subst f3
  have H3 := hid_of' (And.intro (bgo H2.out hb3) (And.intro hv3 hqn))
  have hqb : qn ≤ 121 := by rw [hqn]; exact HQ.out.2.2.1
  clear hb3 hv3 hqn HEd
  go_upto_region 7 with (go_at_call 17; (with_reducible refine (HDi.out _ H3.out.1).mono ?_); rintro e w4 ⟨rfl, hb4⟩)
  have H4 := hid_of' (bgo H3.out.1 hb4)
  have HV4 := hid_of' (H3.out.2.1.later hb4)
  clear hb4 HDi
  go_upto_region 8 with (go_at_call 18; (with_reducible refine (HCo.out _ H4.out).mono ?_); rintro e w5 ⟨rfl, hb5⟩)
  have H5 := hid_of' (bgo H4.out hb5)
  have HV5 := hid_of' (HV4.out.later hb5)
  have HA5 := hid_of' (HAp.out w5 H5.out _ HV5.out)
  clear hb5 HCo HAp
  go_upto_region 9 with (go_at_call 8; (with_reducible refine HA5.out.mono ?_); rintro e w6 ⟨rfl, hb6⟩)
  have H6 := hid_of' (bgo H5.out hb6)
  have HV6 := hid_of' (HV5.out.later hb6)
  clear hb6 HA5 HV5 HV4
  go_wp2
  go_loopw [15, 16, 17] (fun sv lv kv wr => ∃ (k : Nat) (S last : Int), kv = .int .i64 (k : Int) ∧ sv = .int .i64 S ∧ lv = .int .i64 last ∧ k ≤ qn ∧ S = wth (es.take k) ∧ 0 ≤ S ∧ S ≤ 1000 * k ∧ rise last (es.drop k) ∧ -1 ≤ last ∧ last ≤ 1000 ∧ Below w6.heap.size w6 wr) (fun _ _ kv _ => qn - (intOf kv).toNat)
  case atStart => exact ⟨0, 0, -1, rfl, rfl, rfl, Nat.zero_le _, rfl, Int.le_refl _, by omega, by rw [List.drop_zero]; exact HQ.out.1, by omega, by omega, Below.refl _ _⟩
  case round =>
    obtain ⟨k, S, last, rfl, rfl, rfl, hk, hS, hS0, hS1, hri, hl0, hl1, hbw⟩ := hrel
    by_cases hkq : k < qn
    · have hki : (k : Int) < (qn : Int) := by omega
      obtain ⟨e, he⟩ : ∃ e, es[k]? = some e := ⟨_, List.getElem?_eq_getElem (by rw [← H3.out.2.2]; exact hkq)⟩
      have hdr : es.drop k = e :: es.drop (k + 1) := by
        obtain ⟨k1, e1⟩ := List.getElem?_eq_some_iff.1 he
        rw [List.drop_eq_getElem_cons k1, e1]
      rw [hdr] at hri
      obtain ⟨r1, r2, r3⟩ := hri
      have hwt : wth (es.take (k + 1)) = wth (es.take k) + (e.er + ((rn e.ins.data.toList).length : Int)) := by
        rw [List.take_add_one, he]
        exact wth_one _ _
      obtain ⟨g3, rfl, hg3, c30, c31, c32⟩ := (HV6.out.later hbw).at he
      have hin := HQ.out.2.2.2.1 e (List.mem_of_getElem? he)
      have hvl := HQ.out.2.2.2.2.1 e (List.mem_of_getElem? he)
      have hrl := Nat.le_trans (rn_len e.ins.data.toList) (show e.ins.data.toList.length ≤ 480 by rw [Array.length_toList]; exact hin.2.2.2.2)
      have HLe := hid_of' (fun x => length_is x e.ins (by have := hin.2.2.2.2; omega))
      rw [lenI_is hvl] at HLe
      obtain ⟨at_, er, ins⟩ := e
      dsimp only at *
      obtain ⟨kk, hkk⟩ : ∃ kk, kk = (rn ins.data.toList).length := ⟨_, rfl⟩
      rw [← hkk] at HLe r1 r3 hwt hrl
      obtain ⟨i1, i2, i3, i4, _⟩ := hin
      have hb1 : ¬ er + (kk : Int) < 1 := by omega
      have hb2 : ¬ at_ ≤ last := by omega
      have HR := hid_of' (And.intro hS (And.intro hwt (And.intro r3 hbw)))
      have hk9 : k ≤ 121 := by omega
      have hS2 : S ≤ 121000 := by omega
      clear hS hwt r3 hkk hvl hdr he hbw
      have HCl := hid_of' (And.intro c30 (And.intro c31 hg3))
      go_upto_region 17 with (go_at_call 15; (with_reducible refine (HLe.out _).mono ?_); rintro e w7 ⟨rfl, hb7⟩)
      have d30 : w7.cell? ⟨g3, k * 3, none⟩ = some (.int .i64 at_) := by rw [hb7.cell (p := ⟨g3, k * 3, none⟩) HCl.out.2.2]; exact HCl.out.1
      have d31 : w7.cell? ⟨g3, k * 3 + 1, none⟩ = some (.int .i64 er) := by rw [hb7.cell (p := ⟨g3, k * 3 + 1, none⟩) HCl.out.2.2]; exact HCl.out.2.1
      have H7 := hid_of' (bgo HR.out.2.2.2 hb7)
      clear c30 c31 c32 hb7
      go_wp2
      go_roundw
      case rel =>
        obtain ⟨z1, z2, z3, z4⟩ := HR.out
        refine ⟨k + 1, S + er + (kk : Int), at_ + (kk : Int), by go_num, ?_, ?_, by omega, ?_, by omega, by omega, z3, by omega, by omega, H7.out⟩
        · rfl
        · rfl
        · rw [z2, ← z1]
          omega
      case measure => simp [intOf]; omega
    · have hki : ¬ (k : Int) < (qn : Int) := by omega
      obtain rfl : k = qn := by omega
      have hSd : S = (dd : Int) := by rw [hS, H3.out.2.2, List.take_length]; exact HQ.out.2.1
      subst hSd
      have H7 := hid_of' (bgo H6.out hbw)
      have HLc7 := hid_of' (HLc.out wr)
      clear hS hS0 hS1 hri hl0 hl1 hbw HLc
      have hdn := HDn.out.symm
      have hbe : ((dd : Int) == 0) = (a1.toList == b1.toList) := by
        by_cases hab : a1 = b1
        · rw [HQ.out.2.2.2.2.2.2 hab, hab]
          simp
        · have hd0 : ¬ dd = 0 := fun h => hab (HQ.out.2.2.2.2.2.1 h)
          have hl : ¬ a1.toList = b1.toList := fun h => hab (by
            rw [ByteArray.toList_eq, ByteArray.toList_eq] at h
            exact Go.WideShapes.bytes_inj h)
          have e1 : ((dd : Int) == 0) = false := by rw [beq_eq_false_iff_ne]; omega
          have e2 : (a1.toList == b1.toList) = false := by rw [beq_eq_false_iff_ne]; exact hl
          rw [e1, e2]
      go_wp2_with (first
        | (go_at_call 15; (with_reducible refine HLc7.out.mono ?_); rintro e w8 ⟨rfl, hb8⟩; have HZ := hid_of' (HWk.out w8 (bgo H7.out hb8)); have H8 := hid_of' (bgo H7.out hb8); clear hb8)
        | (go_at_call 14; (with_reducible refine HZ.out.mono ?_); rintro e w9 ⟨rfl, hb9⟩))
      go_ret
      exact ⟨rfl, bgo H8.out hb9⟩
theorem diffShortest_all {ad : Nat → Addr} {w : World} (E : Env3 ad w) (a b : ByteArray) (ha : a.size ≤ 9223372036854775807) (hb : b.size ≤ 9223372036854775807) :
    Calls Tryd.prog 4 #[.string a, .string b] w fun e w' => e = .returned (.bool true) ∧ Below w.heap.size w w' := by
  cases va : Lib.validD (clB a).data.toList
  · exact short_no E a b ha hb (.inl va)
  · cases vb : Lib.validD (clB b).data.toList
    · exact short_no E a b ha hb (.inr vb)
    · exact short_yes E a b ha hb va vb
end Go.Proofs.YtkiloceaelmcfaaDoor
