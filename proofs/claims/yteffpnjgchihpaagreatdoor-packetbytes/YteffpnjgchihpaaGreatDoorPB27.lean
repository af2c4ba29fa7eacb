
/-
  How long a row is; the rounds' numbers. Rows, operations and rounds are written.
-/
import Derived.Test.YteffpnjgchihpaaGreatDoorPB26
namespace Go.Proofs.YteffpnjgchihpaaGreatDoor
open Go.RowKit
set_option maxRecDepth 100000

theorem lenG_snoc {α : Type} (nz : α → Bool) (x : α) : ∀ l : List α, lenG nz (l ++ [x]) = if nz x then l.length + 1 else lenG nz l
  | [] => by simp [lenG]
  | y :: r => by
    have ih := lenG_snoc nz x r
    simp only [List.cons_append, lenG, ih]
    cases h : nz x
    · simp
    · simp
theorem lenG_take {α : Type} {nz : α → Bool} {l : List α} {k : Nat} {x : α} (h : l[k]? = some x) : lenG nz (l.take (k + 1)) = if nz x then k + 1 else lenG nz (l.take k) := by
  have hk := (List.getElem?_eq_some_iff.1 h).1
  rw [List.take_add_one, h, Option.toList_some, lenG_snoc, List.length_take]
  simp [Nat.min_eq_left (Nat.le_of_lt hk)]

set_option maxHeartbeats 1000000 in
theorem length_any (l : List Int) (w : World) (hl : l.length = 8) :
    Calls Tryz.prog 62 #[.agg (cv l)] w fun e w' => e = .returned (.int .i64 (lenG nzI l)) ∧ Below w.heap.size w w' := by
  have hB := below_one w (.cells (cv l) 23)
  have h1 := RowAt.new w (cv l) 23
  go_enter Tryz.func62, Tryz.ntmps62
  go_wp2
  go_loopw [3] (fun i wr => ∃ n : Nat, i = .int .i64 (n : Int) ∧ n ≤ 8 ∧ wr = w.alloc (.cells (cv l) 23) ∧ Hid (lenG nzI l = lenG nzI (l.take n))) (fun i _ => (intOf i).toNat)
  case atStart => exact ⟨8, rfl, by decide, rfl, by rw [List.take_of_length_le (by omega)]; exact rfl⟩
  case round =>
    obtain ⟨n, rfl, hn, rfl, ha⟩ := hrel
    cases n with
    | zero =>
      have h0 : lenG nzI l = 0 := by rw [ha.out]; rfl
      have H0 := hid_of' h0
      clear h0 ha
      go_wp2
      go_ret
      exact ⟨by rw [H0.out]; rfl, hB⟩
    | succ k =>
      have hx := en_at (l := l) (k := k) (by omega)
      have c1 : (w.alloc (.cells (cv l) 23)).cell? ⟨w.heap.size, k, none⟩ = some (.int .i64 (en l k)) := by rw [h1.cell, cv_get (by omega)]
      have hst := lenG_take (nz := nzI) hx
      have HS := hid_of' hst
      clear hst hx
      have hw1 : wrap64 (((k + 1 : Nat) : Int) - 1) = (k : Int) := by unfold wrap64; omega
      have hp : (0 : Int) < ((k + 1 : Nat) : Int) := by omega
      have hk8 : k < 8 := by omega
      have hk8' : (k : Int) < 8 := by omega
      by_cases hz : en l k = 0
      · have hz' : (en l k == 0) = true := by simpa using hz
        go_wp2
        go_roundw
        case rel => exact ⟨k, rfl, by omega, trivial, by have := HS.out; rw [if_neg (by simp [hz])] at this; rw [← this]; exact ha⟩
        case measure => simp [intOf]
      · have hz' : (en l k == 0) = false := by simpa using hz
        go_wp2
        go_ret
        exact ⟨by have := HS.out; rw [if_pos (by simp [hz])] at this; rw [ha.out, this]; rfl, hB⟩

/-- The first k numbers, zeros behind. -/
def nk (l : List Prn) (k : Nat) : List Int := (l.take k).map (·.1) ++ List.replicate (8 - k) 0
theorem nk_len {l : List Prn} (hl : l.length = 8) {k : Nat} (hk : k ≤ 8) : (nk l k).length = 8 := by simp [nk, hl]; omega
theorem nk_step {l : List Prn} {k : Nat} {r : Prn} (hl : l.length = 8) (h : l[k]? = some r) : (nk l k).set k r.1 = nk l (k + 1) := by
  have hk := (List.getElem?_eq_some_iff.1 h).1
  unfold nk
  have e1 : ((l.take k).map (·.1)).length = k := by simp; omega
  rw [List.set_append_right _ _ (by omega), e1, Nat.sub_self, List.take_add_one, h]
  obtain ⟨j, hj⟩ : ∃ j, 8 - k = j + 1 := ⟨7 - k, by omega⟩
  have hj2 : 8 - (k + 1) = j := by omega
  rw [hj, hj2, List.replicate_succ, List.set_cons_zero]
  simp
theorem nk_all {l : List Prn} (hl : l.length = 8) : nk l 8 = l.map (·.1) := by simp [nk, List.take_of_length_le (by omega : l.length ≤ 8)]
theorem lenG_map (l : List Prn) : lenG nzI (l.map (·.1)) = lenG nzR l := by
  induction l with
  | nil => rfl
  | cons r l ih => simp only [List.map_cons, lenG, ih]

set_option maxHeartbeats 1000000 in
theorem numbers_any (l : List Prn) (w : World) (hs : shRs l) :
    Calls Tryz.prog 63 #[.agg (rsv l)] w fun e w' => e = .returned (.agg (cv (l.map (·.1)))) ∧ Below w.heap.size w w' := by
  obtain ⟨h1, h2, hB0⟩ := two_boxes w (rsv l) (cv (nk l 0)) 29 23
  have h1i := h1.in
  have hz : (#[.int .i64 0, .int .i64 0, .int .i64 0, .int .i64 0, .int .i64 0, .int .i64 0, .int .i64 0, .int .i64 0] : Array Value) = cv (nk l 0) := rfl
  go_enter Tryz.func63, Tryz.ntmps63
  go_wp2_with (refine ld_rnds hs rfl _ rfl rfl h1i ?_)
  clear hz
  go_loopw [6] (fun i wr => ∃ k : Nat, i = .int .i64 (k : Int) ∧ k ≤ 8 ∧ Below w.heap.size w wr ∧ RowAt (w.heap.size + 1) (cv (nk l k)) 23 wr) (fun i _ => 8 - (intOf i).toNat)
  case atStart => exact ⟨0, rfl, by decide, hB0, h2⟩
  case round =>
    obtain ⟨k, rfl, hk, hB, hR⟩ := hrel
    clear h1 h2 h1i hB0
    by_cases hk8 : k < 8
    · obtain ⟨r, hx⟩ : ∃ r, l[k]? = some r := ⟨_, List.getElem?_eq_getElem (by rw [hs.1]; exact hk8)⟩
      have hr := hs.2 r (List.mem_of_getElem? hx)
      have c1 := fun w => idx_rnd hs hx w
      have hst := nk_step hs.1 hx
      have HS := hid_of' hst
      clear hx hst
      have hki : (k : Int) < 8 := by omega
      have h3 := RowAt.new wr (rnv r) 27
      have d3 : (wr.alloc (.cells (rnv r) 27)).cell? ⟨wr.heap.size, 0, none⟩ = some (.int .i64 r.1) := by rw [h3.cell, rnv_n]
      have hR2 := hR.alloc (.cells (rnv r) 27)
      have d4 : (wr.alloc (.cells (rnv r) 27)).cell? ⟨w.heap.size + 1, k, none⟩ = some (.int .i64 (en (nk l k) k)) := by rw [hR2.cell, cv_get (by rw [nk_len hs.1 hk]; exact hk8)]
      have f4 := frozenW_of hR2 k
      replace hB := bgo hB (below_one wr (.cells (rnv r) 27))
      go_wp2_with (refine wpL_stNew rfl _ _ _ rfl rfl rfl rfl (rnv_size hr) (by rw [rnv_sz hr]; rfl) (rnv_one r) ?_)
      go_roundw
      case rel =>
        refine ⟨k + 1, by go_num, by omega, hB.setCell (p := ⟨w.heap.size + 1, k, none⟩) (by show w.heap.size ≤ w.heap.size + 1; omega) _, ?_⟩
        have := heap_setCell_at hR2 k (.int .i64 r.1)
        rw [cv_set, HS.out] at this
        exact this
      case measure => simp [intOf]; omega
    · have hki : ¬ (k : Int) < 8 := by omega
      obtain rfl : k = 8 := by omega
      rw [nk_all hs.1] at hR
      have hRi := hR.in
      have hlm : (l.map (·.1)).length = 8 := by simpa using hs.1
      go_wp2_with (first | (refine ld_row hlm rfl _ rfl rfl hRi ?_) | (refine wpList_store_row rfl _ _ _ rfl _ _ rfl rfl _ _ hR (row_size hlm) rfl (cv_one _) ?_))
      refine bodyPost_ret (results_cell_row (fn := Tryz.f63) (p := 2) rfl _ _ _ _ _ _ _ rfl (setRow_heap _ _ _ _ _ _ hR) Tryz.underlying23 rfl (row_size hlm)) rfl ⟨rfl, ?_⟩
      exact below_setRow hB (by omega) _
end Go.Proofs.YteffpnjgchihpaaGreatDoor
namespace Go.Proofs.YteffpnjgchihpaaGreatDoor
open Go.RowKit
set_option maxRecDepth 100000

/-- What a writing leaves: the Writer holds bs; nothing below B has turned, nor any block that holds neither bytes nor a Writer. -/
structure Wrote (B b : Nat) (bs : List UInt8) (w w' : World) : Prop where
  wr : ∃ v, WrAt B b bs v w'
  bel : Below B w w'
  fr : FrT w w'
  sz : B ≤ w.heap.size
theorem Wrote.size {B b : Nat} {bs : List UInt8} {w w' : World} (h : Wrote B b bs w w') : B ≤ w'.heap.size := Nat.le_trans h.sz h.bel.size
theorem Wrote.trans {B b : Nat} {bs bs' : List UInt8} {w w1 w2 : World} (h : Wrote B b bs w w1) (g : Wrote B b bs' w1 w2) : Wrote B b bs' w w2 := ⟨g.wr, h.bel.trans g.bel, h.fr.trans g.fr, h.sz⟩
theorem Wrote.start {B b : Nat} {bs : List UInt8} {w : World} (h : ∃ v, WrAt B b bs v w) (hB : B ≤ w.heap.size) : Wrote B b bs w w := ⟨h, Below.refl _ _, FrT.refl _, hB⟩
theorem Wrote.later {B b : Nat} {bs : List UInt8} {w w1 w2 : World} (h : Wrote B b bs w w1) (hb : Below w1.heap.size w1 w2) : Wrote B b bs w w2 :=
  ⟨let ⟨v, hv⟩ := h.wr; ⟨v, hv.keep (S := []) (.of hb) (by simp)⟩, h.bel.trans (hb.mono h.size), h.fr.trans (.below hb), h.sz⟩
theorem Wrote.eq {B b : Nat} {bs bs' : List UInt8} {w w' : World} (h : Wrote B b bs w w') (e : bs = bs') : Wrote B b bs' w w' := e ▸ h
theorem RowAt.fr {k : Nat} {cs : Array Value} {t : TypeId} {w w' : World} (h : RowAt k cs t w) (g : FrT w w') (h1 : t ≠ 5 := by decide) (h2 : t ≠ 89 := by decide) : RowAt k cs t w' := g k cs t (0, 0) h h1 h2

/-- So many bytes no Writer comes to. -/
def capW : Nat := 140737488355000

theorem wnum_wr {B b : Nat} {bs : List UInt8} {w : World} (h : ∃ v, WrAt B b bs v w) (x : Int) (h0 : 0 ≤ x) (hx : x ≤ 9223372036854775807) (hlen : bs.length ≤ capW) (hB : B ≤ w.heap.size) :
    Calls Tryz.prog 46 #[.pointer (some ⟨b, 0, none⟩), .int .i64 x] w fun e w' => e = .returned .nilIface ∧ Wrote B b (bs ++ fN x) w w' := by
  obtain ⟨v, hv⟩ := h
  obtain ⟨n, rfl⟩ := Int.eq_ofNat_of_zero_le h0
  exact (wnumber_fr hv n (by omega) (by unfold capW at hlen; omega) hB).mono fun e w' ⟨he, hw, hb, hf⟩ => ⟨he, hw, hb, hf, hB⟩
theorem wbyte_wr {B b : Nat} {bs : List UInt8} {w : World} (h : ∃ v, WrAt B b bs v w) (x : Int) (h0 : 0 ≤ x) (hx : x < 256) (hlen : bs.length ≤ capW) (hB : B ≤ w.heap.size) :
    Calls Tryz.prog 45 #[.pointer (some ⟨b, 0, none⟩), .int .u8 x] w fun e w' => e = .returned (.tuple #[]) ∧ Wrote B b (bs ++ [UInt8.ofNat x.toNat]) w w' := by
  obtain ⟨v, hv⟩ := h
  obtain ⟨n, rfl⟩ := Int.eq_ofNat_of_zero_le h0
  exact (byte_intF hv n (UInt8.ofNat n) (by rw [UInt8.toNat_ofNat', Nat.mod_eq_of_lt (by simpa using (by omega : n < 256))]) (by unfold capW at hlen; omega) hB).mono fun e w' ⟨he, hw, hb, hf⟩ => ⟨he, hw, hb, hf, hB⟩

theorem flat_step {l : List Int} {k : Nat} {x : Int} (h : l[k]? = some x) : ((l.take (k + 1)).map fN).flatten = ((l.take k).map fN).flatten ++ fN x := by
  rw [List.take_add_one, h]; simp
theorem flat_le (l : List Int) (k n : Nat) (h : k ≤ n) : ((l.take k).map fN).flatten.length ≤ ((l.take n).map fN).flatten.length := by
  obtain ⟨j, rfl⟩ : ∃ j, n = k + j := ⟨n - k, by omega⟩
  rw [List.take_add]
  simp
theorem ptr_row {w : World} {k b : Nat} (h : RowAt k #[.pointer (some ⟨b, 0, none⟩)] 66 w) : w.cell? ⟨k, 0, none⟩ = some (.pointer (some ⟨b, 0, none⟩)) := by rw [h.cell]; rfl

set_option maxHeartbeats 2000000 in
theorem row_wr {B b : Nat} {bs : List UInt8} {w : World} (h : ∃ v, WrAt B b bs v w) (l : List Int) (hl : okRow mx63 l) (hlen : bs.length + (fRow l).length ≤ capW) (hB : B ≤ w.heap.size) :
    Calls Tryz.prog 48 #[.agg #[.pointer (some ⟨b, 0, none⟩)], .agg (cv l)] w fun e w' => e = .returned (.tuple #[]) ∧ Wrote B b (bs ++ fRow l) w w' := by
  obtain ⟨h1, h2, hB0⟩ := two_boxes w #[.pointer (some ⟨b, 0, none⟩)] (cv l) 66 23
  have W0 := (Wrote.start h hB).later hB0
  have h2i := h2.in
  have hF : fRow l = formN (lenG nzI l) ++ ((l.take (lenG nzI l)).map fN).flatten := rfl
  rw [hF] at hlen ⊢
  have hn8 := lenG_le nzI l
  rw [hl.1] at hn8
  clear hF h
  have HLg := hid_of' (length_any l ((w.alloc (.cells #[.pointer (some ⟨b, 0, none⟩)] 66)).alloc (.cells (cv l) 23)) hl.1)
  generalize lenG nzI l = n at *
  rw [List.length_append] at hlen
  have hfn : fN (n : Int) = formN n := rfl
  have HC := hid_of' hlen
  clear hlen
  go_enter Tryz.func48, Tryz.ntmps48
  go_upto_region 2 with (first | (refine ld_row hl.1 rfl _ rfl rfl h2i ?_) | (go_at_call 62; refine HLg.out.mono ?_; rintro e w1 ⟨rfl, hb1⟩))
  replace h1 := h1.later hb1
  replace h2 := h2.later hb1
  replace W0 := W0.later hb1
  have c1 := ptr_row h1
  clear hB0 hb1 h2i HLg
  go_upto_region 3 with (go_at_call 46; refine (wnum_wr W0.wr _ (by omega) (by omega) (by have := HC.out; omega) W0.size).mono ?_; rintro e w2 ⟨rfl, W1⟩)
  replace h1 := h1.fr W1.fr
  replace h2 := h2.fr W1.fr
  replace W1 := (W0.trans W1).eq (show bs ++ fN (n : Int) = bs ++ formN n ++ ((l.take 0).map fN).flatten by simp [hfn])
  clear W0 c1 hfn
  have hn8' : (n : Int) ≤ 8 := by omega
  have e1 : (0 : Int) ≤ 0 ∧ (0 : Int) ≤ (n : Int) := by omega
  go_wp2
  go_loopw [16] (fun i wr => ∃ k : Nat, i = .int .i64 (k : Int) ∧ k ≤ n ∧ Wrote B b (bs ++ formN n ++ ((l.take k).map fN).flatten) w wr ∧ RowAt w.heap.size #[.pointer (some ⟨b, 0, none⟩)] 66 wr ∧ RowAt (w.heap.size + 1) (cv l) 23 wr) (fun i _ => n - (intOf i).toNat)
  case atStart => exact ⟨0, rfl, by omega, W1, h1, h2⟩
  case round =>
    clear W1 h1 h2
    obtain ⟨k, rfl, hk, W1, h1, h2⟩ := hrel
    by_cases hkn : k < n
    · have hki : (k : Int) < (n : Int) := by omega
      have hx := en_at (l := l) (k := k) (by rw [hl.1]; omega)
      have hm := hl.2 _ (List.mem_of_getElem? hx)
      have hst := flat_step hx
      have HS := hid_of' hst
      clear hst
      have c2 : wr.cell? ⟨w.heap.size + 1, k, none⟩ = some (.int .i64 (en l k)) := by rw [h2.cell, cv_get (by rw [hl.1]; omega)]
      clear hx
      have c1 := ptr_row h1
      have hle := flat_le l k n (by omega)
      have HLe := hid_of' hle
      clear hle
      go_wp2_with (go_at_call 46; refine (wnum_wr W1.wr _ hm.1 hm.2 (by have := HC.out; have := HLe.out; rw [List.length_append, List.length_append]; omega) W1.size).mono ?_; rintro e w3 ⟨rfl, W2⟩)
      go_roundw
      case rel => exact ⟨k + 1, by go_num, by omega, (W1.trans W2).eq (by rw [HS.out]; simp only [List.append_assoc]), h1.fr W2.fr, h2.fr W2.fr⟩
      case measure => simp [intOf]; omega
    · have hki : ¬ (k : Int) < (n : Int) := by omega
      obtain rfl : k = n := by omega
      go_wp2
      go_end0
      exact ⟨rfl, W1.eq (by simp only [List.append_assoc, List.map_take])⟩
end Go.Proofs.YteffpnjgchihpaaGreatDoor
