
/-
  tree.passed, (*tree.Tree).Find.
-/
import Derived.Test.YtjopeojnlibagaaGreatDoorTrFind
namespace Go.Proofs.YtjopeojnlibagaaGreatDoor
open Go.RowKit
set_option maxRecDepth 100000

/-- The element at which the sum of the live ones goes above k. -/
def idxL : List El → Int → Nat
  | [], _ => 0
  | e :: l, k => if k < wLive e then 0 else 1 + idxL l (k - wLive e)
theorem idxL_app : ∀ (a b : List El) (k : Int), idxL (a ++ b) k = if k < liveL a then idxL a k else a.length + idxL b (k - liveL a)
  | [], b, k => by
    by_cases h : k < liveL []
    · rw [if_pos h]
      simp only [liveL] at h
      cases b with
      | nil => rfl
      | cons e b => have := wLive_b e; simp only [List.nil_append, idxL]; rw [if_pos (by omega)]
    · rw [if_neg h]; simp [liveL]
  | e :: a, b, k => by
    have h1 := wLive_b e
    have h2 := liveL_b a
    have ih := idxL_app a b (k - wLive e)
    have e1 : liveL (e :: a) = wLive e + liveL a := rfl
    show (if k < wLive e then 0 else 1 + idxL (a ++ b) (k - wLive e)) = if k < liveL (e :: a) then (if k < wLive e then 0 else 1 + idxL a (k - wLive e)) else (a.length + 1) + idxL b (k - liveL (e :: a))
    by_cases h : k < wLive e
    · rw [if_pos h, if_pos (by rw [e1]; omega), if_pos h]
    · rw [if_neg h, if_neg h, ih]
      by_cases h3 : k - wLive e < liveL a
      · rw [if_pos h3, if_pos (by rw [e1]; omega)]
      · rw [if_neg h3, if_neg (by rw [e1]; omega), e1, show k - wLive e - liveL a = k - (wLive e + liveL a) by omega]
        omega
theorem idxL_le : ∀ (l : List El) (k : Int), idxL l k ≤ l.length
  | [], _ => Nat.le_refl _
  | e :: l, k => by
    simp only [idxL, List.length_cons]
    split
    · omega
    · have := idxL_le l (k - wLive e); omega

set_option maxHeartbeats 400000 in
theorem part_live (x y : Int) (w : World) : Calls Tryz.prog 115 #[wv x y] w fun r w' => r = .returned (.int .i64 x) ∧ Below w.heap.size w w' := by
  unfold wv
  go_enter Tryz.func115, Tryz.ntmps115
  go_wp2
  go_ret
  exact ⟨rfl, below_one _ _⟩

set_option maxHeartbeats 8000000 in
theorem passed_live {R : Rows} (t : Nd) (k : Int) (w : World) (ht : t.At R w) (hf : t.Full) (hn : t.els.length ≤ 1073741824) (hk0 : 0 ≤ k) (hk1 : k < liveL t.els) :
    Calls Tryz.prog 114 #[pv t.blk, .int .i64 k, .func (.func 115) #[] #[]] w fun r w' => r = .returned (.int .i64 (idxL t.els k : Int)) ∧ Below w.heap.size w w' := by
  unfold pv
  go_enter Tryz.func114, Tryz.ntmps114
  go_wp2
  go_loopg [0, 1, 7] t.ht (fun m v kv iv wr => ∃ (t' : Nd) (k' : Int) (base : Nat), m = t'.ht ∧ v = .pointer (some ⟨t'.blk, 0, none⟩) ∧ kv = .int .i64 k' ∧ iv = .int .i64 (base : Int) ∧ t'.At R wr ∧ t'.Full ∧ Hid (base + t'.els.length ≤ 1073741824 ∧ 0 ≤ k' ∧ k' < liveL t'.els ∧ base + idxL t'.els k' = idxL t.els k) ∧ Below w.heap.size w wr)
  case atStart => exact ⟨t, k, 0, rfl, rfl, rfl, rfl, ht, hf, ⟨by omega, hk0, hk1, by omega⟩, Below.refl _ _⟩
  case round =>
    obtain ⟨t', k', base, hgk, rfl, rfl, rfl, ht', hf', HQ, hB⟩ := hrel
    have HI := hid_of' (isLeaf_any ht')
    unfold pv at HI
    cases t' with
    | inner b x y =>
      have d0 : wr.cell? ⟨b, 0, none⟩ = some (.pointer (some ⟨x.blk, 0, none⟩)) := ht'.1.cell 0
      have d1 : wr.cell? ⟨b, 1, none⟩ = some (.pointer (some ⟨y.blk, 0, none⟩)) := ht'.1.cell 1
      have hR := ht'.1
      obtain ⟨a1, a2, a3, hr⟩ := ht'.2.1.row
      have c1 : wr.cell? ⟨x.blk, 4, none⟩ = some (.int .i64 (x.els.length : Int)) := hr.cell 4
      have c5 := hr.in.sub 5 (ds := #[.int .i64 (liveL x.els), .int .i64 (lineL x.els)]) (fun j v hv => by match j, hv with | 0, hv => exact hv | 1, hv => exact hv | j + 2, hv => simp at hv)
      rw [Nat.zero_add] at c5
      have HX := hid_of' (show x.At R wr ∧ y.At R wr ∧ x.Full ∧ y.Full from ⟨ht'.2.1, ht'.2.2, hf'.1, hf'.2⟩)
      have HK := hid_of' hgk
      have HH := hid_of' hR
      have HR := hid_of' hr
      obtain ⟨q1, q2, q3, q4⟩ := HQ.out
      simp only [Nd.els, List.length_append] at q1 q3 q4
      rw [idxL_app] at q4
      rw [liveL_app] at q3
      have hbx := liveL_b x.els
      have hxi : (x.els.length : Int) ≤ 1073741824 := by omega
      have hbi : (base : Int) + (x.els.length : Int) ≤ 1073741824 := by omega
      have hk9 : k' ≤ 1099511627776 := by have := liveL_b y.els; omega
      unfold Nd.blk at HI ⊢
      unfold Nd.isL at HI
      clear HQ hgk ht' hf' hR hr
      by_cases hlt : k' < liveL x.els
      · rw [if_pos hlt] at q4
        have HN := hid_of' (show base + x.els.length ≤ 1073741824 ∧ 0 ≤ k' ∧ k' < liveL x.els ∧ base + idxL x.els k' = idxL t.els k from ⟨by omega, q2, hlt, q4⟩)
        clear q1 q3 q4
        go_wp2_with (first | (go_at_call 106; refine HI.out.mono ?_; rintro r w1 ⟨rfl, hw⟩; obtain rfl := hw.symm) | (refine wpL_loadW rfl _ rfl rfl c5 ?_) | (go_at_call 115; refine (part_live _ _ _).mono ?_; rintro r w1 ⟨rfl, hb1⟩; have e0 : w1.cell? ⟨b, 0, none⟩ = some (.pointer (some ⟨x.blk, 0, none⟩)) := (HH.out.later hb1).cell 0))
        go_roundg x.ht
        case measure => rw [HK.out]; simp only [Nd.ht]; omega
        case rel => exact ⟨x, k', base, rfl, rfl, rfl, rfl, HX.out.1.later hb1, HX.out.2.2.1, HN.out, bgo hB hb1⟩
      · rw [if_neg hlt] at q4
        have HN := hid_of' (show base + x.els.length + y.els.length ≤ 1073741824 ∧ 0 ≤ k' - liveL x.els ∧ k' - liveL x.els < liveL y.els ∧ base + x.els.length + idxL y.els (k' - liveL x.els) = idxL t.els k from ⟨by omega, by omega, by omega, by omega⟩)
        clear q1 q3 q4
        go_wp2_with (first | (go_at_call 106; refine HI.out.mono ?_; rintro r w1 ⟨rfl, hw⟩; obtain rfl := hw.symm) | (refine wpL_loadW rfl _ rfl rfl c5 ?_) | (go_at_call 115; refine (part_live _ _ _).mono ?_; rintro r w1 ⟨rfl, hb1⟩; have e0 : w1.cell? ⟨b, 0, none⟩ = some (.pointer (some ⟨x.blk, 0, none⟩)) := (HH.out.later hb1).cell 0; have e1 : w1.cell? ⟨b, 1, none⟩ = some (.pointer (some ⟨y.blk, 0, none⟩)) := (HH.out.later hb1).cell 1; have e4 : w1.cell? ⟨x.blk, 4, none⟩ = some (.int .i64 (x.els.length : Int)) := (HR.out.later hb1).cell 4))
        go_roundg y.ht
        case measure => rw [HK.out]; simp only [Nd.ht]; omega
        case rel => exact ⟨y, k' - liveL x.els, base + x.els.length, rfl, rfl, rfl, by go_num, HX.out.2.1.later hb1, HX.out.2.2.2, HN.out, bgo hB hb1⟩
    | leaf b g o_ c l =>
      have d2 : wr.cell? ⟨b, 2, none⟩ = some (.slice (some ⟨g, o_, none⟩) l.length c) := ht'.1.cell 2
      obtain ⟨hE, hlc, hc9, _⟩ := ht'.2
      have hl0 : 0 < l.length := List.length_pos_iff.2 hf'
      obtain ⟨q1, q2, q3, q4⟩ := HQ.out
      simp only [Nd.els] at q1 q3 q4
      unfold Nd.blk at HI ⊢
      unfold Nd.isL at HI
      have hli : (l.length : Int) - 1 ≤ (c : Int) := by omega
      have hl1 : ¬ ((l.length : Int) - 1 < 0) := by omega
      have hs : (l.length : Int) - 1 = ((l.length - 1 : Nat) : Int) := by omega
      have hb : base + l.length ≤ 1073741824 := q1
      clear HQ hgk ht' hf'
      go_upto_region 9 with (go_at_call 106; refine HI.out.mono ?_; rintro r w1 ⟨rfl, hw⟩; obtain rfl := hw.symm)
      go_quiet (fail)
      go_wp2
      have HD := hid_of' (show 0 ≤ k' ∧ k' < liveL l ∧ base + idxL l k' = idxL t.els k from ⟨q2, q3, q4⟩)
      have HB := hid_of' hB
      clear q1 q2 q3 q4 HI d2 hB
      go_loopw [1, 7, 59] (fun kv iv rv wq => ∃ (r : Nat) (kk : Int), kv = .int .i64 kk ∧ iv = .int .i64 ((base : Int) + (r : Int)) ∧ rv = .int .i64 (r : Int) ∧ r ≤ l.length - 1 ∧ Hid (0 ≤ kk ∧ kk < liveL (l.drop r) ∧ base + r + idxL (l.drop r) kk = idxL t.els k) ∧ Below wr.heap.size wr wq) (fun _ _ rv _ => l.length - 1 - (intOf rv).toNat)
      case atStart => exact ⟨0, k', rfl, by go_num, rfl, by omega, by simpa using HD, ⟨rfl, rfl, rfl, Nat.le_refl _, fun _ _ => rfl⟩⟩
      case round =>
        rename_i wq
        obtain ⟨r, kk, rfl, rfl, rfl, hr, HQ, hB⟩ := hrel
        clear HD
        by_cases hlt : r < l.length - 1
        · have hri : (r : Int) < ((l.length - 1 : Nat) : Int) := by omega
          obtain ⟨e, he⟩ : ∃ e, l[r]? = some e := ⟨_, List.getElem?_eq_getElem (by omega)⟩
          have hce := (hE.later hB) r e he
          have hdr : l.drop r = e :: l.drop (r + 1) := by
            obtain ⟨h1, h2⟩ := List.getElem?_eq_some_iff.1 he
            rw [List.drop_eq_getElem_cons h1, h2]
          obtain ⟨q1, q2, q3⟩ := HQ.out
          rw [hdr] at q2 q3
          simp only [liveL] at q2
          simp only [idxL] at q3
          have hwe := wLive_b e
          have hlb := liveL_b (l.drop (r + 1))
          rw [List.length_drop] at hlb
          have hk9 : kk ≤ 1099511627776 := by omega
          have hi9 : (base : Int) + (r : Int) ≤ 1073741824 := by omega
          have HW := hid_of' (weigh_any e)
          have hnew := ((row_new wr #[.int .i64 0, .int .i64 0, .int .i64 0, .int .i32 0, .int .i64 0] 66).put (ev e)).in
          have kB : Below wr.heap.size wr ((wr.alloc (.cells #[.int .i64 0, .int .i64 0, .int .i64 0, .int .i32 0, .int .i64 0] 66)).setRow wr.heap.size (ev e)) := below_row (below_one _ _) (by omega) _
          clear HQ hdr he hlb
          by_cases hkw : kk < wLive e
          · rw [if_pos hkw] at q3
            have HR := hid_of' q3
            clear q1 q2 q3
            go_wp2_with (first | (refine wpL_loadE rfl _ rfl rfl hce ?_) | (refine wpL_storeE rfl _ _ rfl rfl rfl (row_new wr _ _) ?_) | (refine wpL_loadE rfl _ rfl rfl hnew ?_) | (go_at_call 130; refine (HW.out _).mono ?_; rintro r2 w2 ⟨rfl, hb2⟩) | (go_at_call 115; refine (part_live _ _ _).mono ?_; rintro r3 w3 ⟨rfl, hb3⟩))
            go_ret
            refine ⟨?_, bgo HB.out (bgo (bgo (bgo hB kB) hb2) hb3)⟩
            rw [← HR.out]
            go_num
          · rw [if_neg hkw] at q3
            have HN := hid_of' (show 0 ≤ kk - wLive e ∧ kk - wLive e < liveL (l.drop (r + 1)) ∧ base + (r + 1) + idxL (l.drop (r + 1)) (kk - wLive e) = idxL t.els k from ⟨by omega, by omega, by omega⟩)
            clear q1 q2 q3
            go_wp2_with (first | (refine wpL_loadE rfl _ rfl rfl hce ?_) | (refine wpL_storeE rfl _ _ rfl rfl rfl (row_new wr _ _) ?_) | (refine wpL_loadE rfl _ rfl rfl hnew ?_) | (go_at_call 130; refine (HW.out _).mono ?_; rintro r2 w2 ⟨rfl, hb2⟩) | (go_at_call 115; refine (part_live _ _ _).mono ?_; rintro r3 w3 ⟨rfl, hb3⟩))
            go_roundw
            case rel => exact ⟨r + 1, kk - wLive e, rfl, by go_num, by go_num, by omega, HN, bgo (bgo (bgo hB kB) hb2) hb3⟩
            case measure => simp [intOf]; omega
        · have hre : r = l.length - 1 := by omega
          have hri : ¬ (r : Int) < ((l.length - 1 : Nat) : Int) := by omega
          obtain ⟨e, he⟩ : ∃ e, l[r]? = some e := ⟨_, List.getElem?_eq_getElem (by omega)⟩
          have hdr : l.drop r = [e] := by
            obtain ⟨h1, h2⟩ := List.getElem?_eq_some_iff.1 he
            rw [List.drop_eq_getElem_cons h1, h2, List.drop_eq_nil_of_le (by omega)]
          obtain ⟨q1, q2, q3⟩ := HQ.out
          rw [hdr] at q2 q3
          simp only [liveL] at q2
          simp only [idxL] at q3
          rw [if_pos (by omega)] at q3
          have HR := hid_of' q3
          clear HQ hdr he q1 q2 q3 hre
          go_wp2
          go_ret
          refine ⟨?_, bgo HB.out hB⟩
          rw [← HR.out]
          go_num
end Go.Proofs.YtjopeojnlibagaaGreatDoor
