
/-
  Package script in plain lists: reading any bytes as steps, writing plain steps.
-/
import Derived.Test.YtphdkniplhkkfaaDoorSc0
namespace Go.Proofs.YtphdkniplhkkfaaDoor
open Go.RowKit Go.Extern.Stop Go.Stop Go.Extern
open Go.Lib (decodeL validD validD_step)
set_option maxRecDepth 100000

/-- A step. -/
structure Stp where
  k : Int
  a : Int
  b : Int
  c : Int
  t : ByteArray
/-- A step's cells. -/
def stc (s : Stp) : List Value := [.int .i64 s.k, .int .i64 s.a, .int .i64 s.b, .int .i64 s.c, .string s.t]
theorem stc_len (s : Stp) : (stc s).length = 5 := rfl
theorem stc_one (l : List Stp) : ∀ u ∈ fc stc l, u.oneCell' = true := by
  intro u hu
  obtain ⟨p, _, h⟩ := List.mem_flatMap.1 hu
  simp only [stc, List.mem_cons, List.not_mem_nil, or_false] at h
  rcases h with rfl | rfl | rfl | rfl | rfl <;> rfl
/-- What a byte means. -/
def chN (n : Nat) : Int := if 240 ≤ n then 19990 else if 224 ≤ n then 233 else if 208 ≤ n then 10 else 97 + ((n % 26 : Nat) : Int)
/-- The least byte that means a character; 256: none. -/
def byN (c : Int) : Nat := if 97 ≤ c ∧ c < 123 then (c - 97).toNat else if c = 10 then 208 else if c = 233 then 224 else if c = 19990 then 240 else 256
def okC (c : Int) : Bool := decide (byN c < 256)
theorem chN_ru (n : Nat) : Ru (chN n) := by
  unfold chN Ru
  split
  · omega
  · split
    · omega
    · split <;> omega
theorem chN_ok (n : Nat) : okC (chN n) = true := by
  unfold okC chN byN
  have := Nat.mod_lt n (show 26 > 0 by omega)
  refine decide_eq_true ?_
  repeat' split
  all_goals omega
theorem chN_by {c : Int} (h : okC c = true) : chN (byN c) = c := by
  have h1 : byN c < 256 := of_decide_eq_true h
  unfold chN
  unfold byN at h1 ⊢
  repeat' split
  all_goals first
    | omega
    | (simp_all; omega)
    | simp_all
theorem byN_le (c : Int) : byN c ≤ 256 := by
  unfold byN
  repeat' split
  all_goals omega
/-- Has a kind a text? -/
def hasT (k : Int) : Bool := decide (k = 0) || decide (k = 4)
def hd (l : List UInt8) (i : Nat) : Nat := (l.getD i 0).toNat
theorem hd_lt (l : List UInt8) (i : Nat) : hd l i < 256 := (l.getD i 0).toNat_lt
/-- A text read, and what stands behind it. -/
def rtC (l : List UInt8) : List Int := ((l.drop 1).take (hd l 0 % 16)).map fun b => chN b.toNat
def rtR (l : List UInt8) : List UInt8 := (l.drop 1).drop (hd l 0 % 16)
/-- A step read, and what stands behind it. -/
def kd (l : List UInt8) : Int := ((hd l 0 % 14 : Nat) : Int)
def rdS (l : List UInt8) : Stp := ⟨kd l, (hd l 1 : Int), (hd l 2 : Int), (hd l 3 : Int), if hasT (kd l) then tx (rtC (l.drop 4)) else ByteArray.empty⟩
def rdR (l : List UInt8) : List UInt8 := if hasT (kd l) then rtR (l.drop 4) else l.drop 4
theorem rdR_len (l : List UInt8) (h : l ≠ []) : (rdR l).length < l.length := by
  have := List.length_pos_iff.2 h
  unfold rdR rtR
  split <;> simp only [List.length_drop] <;> omega
def rdG : Nat → List UInt8 → List Stp
  | 0, _ => []
  | n + 1, l => if l = [] then [] else rdS l :: rdG n (rdR l)
def rd (l : List UInt8) : List Stp := rdG l.length l
theorem rdG_fuel : ∀ (n m : Nat) (l : List UInt8), l.length ≤ n → l.length ≤ m → rdG n l = rdG m l
  | 0, 0, _, _, _ => rfl
  | 0, m + 1, l, h, _ => by
    have : l = [] := List.eq_nil_of_length_eq_zero (by omega)
    rw [rdG, rdG, if_pos this]
  | n + 1, 0, l, _, h => by
    have : l = [] := List.eq_nil_of_length_eq_zero (by omega)
    rw [rdG, rdG, if_pos this]
  | n + 1, m + 1, l, h1, h2 => by
    rw [rdG, rdG]
    by_cases h : l = []
    · rw [if_pos h, if_pos h]
    · have := rdR_len l h
      rw [if_neg h, if_neg h, rdG_fuel n m (rdR l) (by omega) (by omega)]
theorem rd_nil : rd [] = [] := rfl
theorem rd_step (l : List UInt8) (h : l ≠ []) : rd l = rdS l :: rd (rdR l) := by
  have h1 := List.length_pos_iff.2 h
  have h2 := rdR_len l h
  obtain ⟨n, hn⟩ : ∃ n, l.length = n + 1 := ⟨l.length - 1, by omega⟩
  unfold rd
  rw [hn, rdG, if_neg h, rdG_fuel n (rdR l).length (rdR l) (by omega) (Nat.le_refl _)]
theorem rd_len : ∀ (n : Nat) (l : List UInt8), l.length ≤ n → (rd l).length ≤ l.length
  | 0, l, h => by
    have : l = [] := List.eq_nil_of_length_eq_zero (by omega)
    subst this
    exact Nat.le_refl _
  | n + 1, l, h => by
    by_cases h0 : l = []
    · subst h0
      exact Nat.le_refl _
    · have h2 := rdR_len l h0
      have := rd_len n (rdR l) (by omega)
      rw [rd_step l h0, List.length_cons]
      omega
/-- Which steps are plain. -/
def byt (n : Int) : Bool := decide (0 ≤ n) && decide (n ≤ 255)
def plT (t : ByteArray) : Bool := decide ((rn t.data.toList).length ≤ 15) && (rn t.data.toList).all okC
def pln (s : Stp) : Bool := decide (0 ≤ s.k) && decide (s.k < 14) && byt s.a && byt s.b && byt s.c && (if hasT s.k then plT s.t else decide (s.t.size = 0))
theorem pln_is {s : Stp} (h : pln s = true) : (0 ≤ s.k ∧ s.k < 14) ∧ (0 ≤ s.a ∧ s.a ≤ 255) ∧ (0 ≤ s.b ∧ s.b ≤ 255) ∧ (0 ≤ s.c ∧ s.c ≤ 255) ∧ (if hasT s.k then plT s.t else decide (s.t.size = 0)) = true := by
  unfold pln byt at h
  simp only [Bool.and_eq_true, decide_eq_true_eq] at h
  obtain ⟨⟨⟨⟨⟨h1, h2⟩, h3⟩, h4⟩, h5⟩, h6⟩ := h
  exact ⟨⟨h1, h2⟩, h3, h4, h5, h6⟩
theorem u8_of (z : Int) (h0 : 0 ≤ z) (h1 : z ≤ 255) : ((z.toNat.toUInt8).toNat : Int) = z := by
  rw [u8n _ (by omega)]
  omega
/-- A step written. -/
def wtC (t : ByteArray) : List UInt8 := (rn t.data.toList).length.toUInt8 :: (rn t.data.toList).map fun c => (byN c).toUInt8
def wrS (s : Stp) : List UInt8 := [s.k.toNat.toUInt8, s.a.toNat.toUInt8, s.b.toNat.toUInt8, s.c.toNat.toUInt8] ++ (if hasT s.k then wtC s.t else [])
def wr (l : List Stp) : List UInt8 := (l.filter pln).flatMap wrS
theorem wr_nil : wr [] = [] := rfl
theorem wr_cons (s : Stp) (l : List Stp) : wr (s :: l) = (if pln s then wrS s else []) ++ wr l := by
  unfold wr
  rw [List.filter_cons]
  split
  · rw [List.flatMap_cons]
  · rfl
theorem wr_app (a b : List Stp) : wr (a ++ b) = wr a ++ wr b := by
  unfold wr
  rw [List.filter_append, List.flatMap_append]
theorem valid_of : ∀ (n : Nat) (l : List UInt8), l.length ≤ n → (∀ r ∈ rn l, ¬ r = 65533) → validD l = true
  | 0, l, h, _ => by
    have : l = [] := List.eq_nil_of_length_eq_zero (by omega)
    subst this
    rfl
  | n + 1, l, h, hr => by
    by_cases h0 : l = []
    · subst h0
      rfl
    · have h2 := rn_step l h0
      have h3 : ¬ ((decodeL l).1 : Int) = 65533 := hr _ (by rw [h2]; exact List.mem_cons_self ..)
      have hd1 := Lib.decodeL_width l
      have hd2 := List.length_pos_iff.2 h0
      rw [validD_step l h0, if_neg (by omega)]
      refine valid_of n _ (by rw [List.length_drop]; omega) fun r hr' => hr r ?_
      rw [h2]
      exact List.mem_cons_of_mem _ hr'
theorem plT_valid {t : ByteArray} (h : plT t = true) : validD t.data.toList = true := by
  unfold plT at h
  simp only [Bool.and_eq_true, decide_eq_true_eq, List.all_eq_true] at h
  refine valid_of _ _ (Nat.le_refl _) fun r hr e => ?_
  have := h.2 r hr
  rw [e] at this
  exact absurd this (by decide)
theorem plT_tx {xs : List Int} (h : ∀ r ∈ xs, ∃ n, r = chN n) (hl : xs.length ≤ 15) : plT (tx xs) = true := by
  have hr : rn (tx xs).data.toList = xs := rn_tx fun r hr => by
    obtain ⟨n, rfl⟩ := h r hr
    exact chN_ru n
  unfold plT
  rw [hr]
  simp only [Bool.and_eq_true, decide_eq_true_eq, List.all_eq_true]
  refine ⟨hl, fun r hr => ?_⟩
  obtain ⟨n, rfl⟩ := h r hr
  exact chN_ok n
theorem rtC_is (l : List UInt8) : (∀ r ∈ rtC l, ∃ n, r = chN n) ∧ (rtC l).length ≤ 15 := by
  refine ⟨fun r hr => ?_, ?_⟩
  · obtain ⟨b, _, rfl⟩ := List.mem_map.1 hr
    exact ⟨_, rfl⟩
  · have := Nat.mod_lt (hd l 0) (show 16 > 0 by omega)
    unfold rtC
    rw [List.length_map, List.length_take]
    omega
theorem rdS_pln (l : List UInt8) : pln (rdS l) = true := by
  have h0 := Nat.mod_lt (hd l 0) (show 14 > 0 by omega)
  have h1 := hd_lt l 1
  have h2 := hd_lt l 2
  have h3 := hd_lt l 3
  unfold pln byt rdS
  simp only [Bool.and_eq_true, decide_eq_true_eq]
  refine ⟨⟨⟨⟨⟨?_, ?_⟩, ?_⟩, ?_⟩, ?_⟩, ?_⟩
  · unfold kd; omega
  · unfold kd; omega
  · omega
  · omega
  · omega
  · by_cases h : hasT (kd l) = true
    · simp only [if_pos h]
      exact plT_tx (rtC_is _).1 (rtC_is _).2
    · simp only [if_neg h]
      rfl
theorem rd_pln : ∀ (n : Nat) (l : List UInt8), l.length ≤ n → ∀ s ∈ rd l, pln s = true
  | 0, l, h, s, hs => by
    have : l = [] := List.eq_nil_of_length_eq_zero (by omega)
    subst this
    cases hs
  | n + 1, l, h, s, hs => by
    by_cases h0 : l = []
    · subst h0
      cases hs
    · have h2 := rdR_len l h0
      rw [rd_step l h0] at hs
      rcases List.mem_cons.1 hs with rfl | hs
      · exact rdS_pln l
      · exact rd_pln n (rdR l) (by omega) s hs
theorem by_ext {a b : ByteArray} (h : a.data.toList = b.data.toList) : a = b := by
  cases a
  cases b
  simp_all [Array.ext_iff]
theorem size0 {t : ByteArray} (h : t.size = 0) : t = ByteArray.empty := by
  refine by_ext ?_
  have : t.data.toList.length = 0 := by rw [Array.length_toList]; exact h
  rw [List.eq_nil_of_length_eq_zero this]
  rfl
theorem map_by {xs : List Int} (h : ∀ c ∈ xs, okC c = true) : (xs.map fun c => (byN c).toUInt8).map (fun b => chN b.toNat) = xs := by
  rw [List.map_map]
  conv => rhs; rw [← List.map_id xs]
  refine List.map_congr_left fun c hc => ?_
  have h1 : byN c < 256 := of_decide_eq_true (h c hc)
  simp only [Function.comp, u8n _ h1, id]
  exact chN_by (h c hc)
/-- What is written is read again. -/
theorem rd_wrS {s : Stp} (h : pln s = true) (r : List UInt8) : rdS (wrS s ++ r) = s ∧ rdR (wrS s ++ r) = r := by
  obtain ⟨⟨k0, k1⟩, ⟨a0, a1⟩, ⟨b0, b1⟩, ⟨c0, c1⟩, ht⟩ := pln_is h
  obtain ⟨k, a, b, c, t⟩ := s
  dsimp only at k0 k1 a0 a1 b0 b1 c0 c1 ht
  have e0 : hd (wrS ⟨k, a, b, c, t⟩ ++ r) 0 = k.toNat := by
    show (k.toNat.toUInt8).toNat = _
    exact u8n _ (by omega)
  have e1 : hd (wrS ⟨k, a, b, c, t⟩ ++ r) 1 = a.toNat := by
    show (a.toNat.toUInt8).toNat = _
    exact u8n _ (by omega)
  have e2 : hd (wrS ⟨k, a, b, c, t⟩ ++ r) 2 = b.toNat := by
    show (b.toNat.toUInt8).toNat = _
    exact u8n _ (by omega)
  have e3 : hd (wrS ⟨k, a, b, c, t⟩ ++ r) 3 = c.toNat := by
    show (c.toNat.toUInt8).toNat = _
    exact u8n _ (by omega)
  have ek : kd (wrS ⟨k, a, b, c, t⟩ ++ r) = k := by
    unfold kd
    rw [e0, Nat.mod_eq_of_lt (by omega)]
    omega
  have ed : (wrS ⟨k, a, b, c, t⟩ ++ r).drop 4 = (if hasT k then wtC t else []) ++ r := rfl
  unfold rdS rdR
  rw [ek, e1, e2, e3, ed]
  by_cases hk : hasT k = true
  · simp only [if_pos hk] at ht ⊢
    have hv := plT_valid ht
    unfold plT at ht
    simp only [Bool.and_eq_true, decide_eq_true_eq, List.all_eq_true] at ht
    obtain ⟨hl, ho⟩ := ht
    have f0 : hd (wtC t ++ r) 0 % 16 = (rn t.data.toList).length := by
      show ((rn t.data.toList).length.toUInt8).toNat % 16 = _
      rw [u8n _ (by omega)]
      omega
    have f1 : (wtC t ++ r).drop 1 = ((rn t.data.toList).map fun c => (byN c).toUInt8) ++ r := rfl
    have f2 : rtC (wtC t ++ r) = rn t.data.toList := by
      unfold rtC
      rw [f0, f1, List.take_left' (by rw [List.length_map]), map_by ho]
    have f3 : rtR (wtC t ++ r) = r := by
      unfold rtR
      rw [f0, f1, List.drop_left' (by rw [List.length_map])]
    rw [f2, f3, tx_rn hv]
    refine ⟨?_, rfl⟩
    rw [Int.toNat_of_nonneg a0, Int.toNat_of_nonneg b0, Int.toNat_of_nonneg c0]
  · simp only [if_neg hk, List.nil_append] at ht ⊢
    have := size0 (of_decide_eq_true ht)
    subst this
    refine ⟨?_, trivial⟩
    rw [Int.toNat_of_nonneg a0, Int.toNat_of_nonneg b0, Int.toNat_of_nonneg c0]
theorem wrS_ne (s : Stp) (r : List UInt8) : wrS s ++ r ≠ [] := by
  unfold wrS
  simp
theorem rd_flat : ∀ l : List Stp, (∀ s ∈ l, pln s = true) → rd (l.flatMap wrS) = l
  | [], _ => rfl
  | s :: l, h => by
    have h1 := rd_wrS (h s (List.mem_cons_self ..)) (l.flatMap wrS)
    rw [List.flatMap_cons, rd_step _ (wrS_ne _ _), h1.1, h1.2, rd_flat l fun x hx => h x (List.mem_cons_of_mem _ hx)]
theorem rd_wr (l : List Stp) : rd (wr l) = l.filter pln := rd_flat _ fun _s hs => (List.mem_filter.1 hs).2
theorem filter_rd (l : List UInt8) : (rd l).filter pln = rd l := List.filter_eq_self.2 (rd_pln _ l (Nat.le_refl _))
/-- What is read and written again is hardly longer. -/
theorem wrS_len (l : List UInt8) (h : l ≠ []) : (wrS (rdS l)).length + (rdR l).length ≤ l.length + (if rdR l = [] then 4 else 0) := by
  have h1 := List.length_pos_iff.2 h
  have hm := Nat.mod_lt (hd (l.drop 4) 0) (show 16 > 0 by omega)
  unfold wrS rdR rdS
  simp only [List.length_append, List.length_cons, List.length_nil]
  by_cases hk : hasT (kd l) = true
  · simp only [if_pos hk]
    have hr : rn (tx (rtC (l.drop 4))).data.toList = rtC (l.drop 4) := rn_tx fun r hr => by
      obtain ⟨n, rfl⟩ := (rtC_is _).1 r hr
      exact chN_ru n
    unfold wtC
    rw [hr]
    simp only [List.length_cons, List.length_map]
    have hl : (rtC (l.drop 4)).length = min (hd (l.drop 4) 0 % 16) (l.length - 4 - 1) := by
      unfold rtC
      rw [List.length_map, List.length_take, List.length_drop, List.length_drop]
    have hn : (rtR (l.drop 4)).length = l.length - 4 - 1 - hd (l.drop 4) 0 % 16 := by
      unfold rtR
      rw [List.length_drop, List.length_drop, List.length_drop]
    rw [hl, hn]
    split
    · omega
    · next hne =>
      have := List.length_pos_iff.2 hne
      omega
  · simp only [if_neg hk, List.length_nil, List.length_drop]
    split
    · omega
    · next hne =>
      have := List.length_pos_iff.2 hne
      rw [List.length_drop] at this
      omega
theorem flat_len : ∀ (n : Nat) (l : List UInt8), l.length ≤ n → ((rd l).flatMap wrS).length ≤ l.length + 4
  | 0, l, h => by
    have : l = [] := List.eq_nil_of_length_eq_zero (by omega)
    subst this
    exact Nat.zero_le _
  | n + 1, l, h => by
    by_cases h0 : l = []
    · subst h0
      exact Nat.zero_le _
    · have h2 := rdR_len l h0
      have h3 := wrS_len l h0
      have ih := flat_len n (rdR l) (by omega)
      rw [rd_step l h0, List.flatMap_cons, List.length_append]
      by_cases he : rdR l = []
      · rw [he, rd_nil] at ih ⊢
        rw [he] at h3
        simp only [if_true, List.length_nil, List.flatMap_nil] at h3 ⊢
        omega
      · rw [if_neg he] at h3
        omega
theorem wr_rd_len (l : List UInt8) : (wr (rd l)).length ≤ l.length + 5 := by
  have := flat_len _ l (Nat.le_refl _)
  unfold wr
  rw [filter_rd]
  omega
theorem wr_rd (l : List UInt8) : rd (wr (rd l)) = rd l := by rw [rd_wr, filter_rd]
theorem rd_join (a b : List Stp) : rd (wr (a ++ b)) = rd (wr a) ++ rd (wr b) := by rw [rd_wr, rd_wr, rd_wr, List.filter_append]
theorem rd_len0 (l : List UInt8) : (rd l).length = 0 ↔ l.length = 0 := by
  constructor
  · intro h
    by_cases h0 : l = []
    · rw [h0]
      rfl
    · rw [rd_step l h0] at h
      simp at h
  · intro h
    rw [List.eq_nil_of_length_eq_zero h]
    rfl
end Go.Proofs.YtphdkniplhkkfaaDoor
