
/-
  diff.Distance, diff.Common.
-/
import Derived.Test.YtaimmjoekahleaaDoorZa24
namespace Go.Proofs.YtaimmjoekahleaaDoor
open Go.RowKit Go.Extern.Stop Go.Stop Go.Extern
set_option maxRecDepth 100000

/-- Characters as a text. -/
def tx (xs : List Int) : ByteArray := ⟨(enc xs).toArray⟩
theorem tx_size (xs : List Int) : (tx xs).size ≤ 4 * xs.length := by
  have := enc_len xs
  show (enc xs).toArray.size ≤ _
  simpa using this
theorem tx_list (xs : List Int) : (tx xs).data.toList = enc xs := by simp [tx]
theorem tx_rn {s : ByteArray} (hv : Lib.validD s.data.toList = true) : tx (rn s.data.toList) = s := by
  unfold tx
  rw [enc_rn _ _ (Nat.le_refl _) hv]
theorem rn_tx {xs : List Int} (h : ∀ r ∈ xs, Ru r) : rn (tx xs).data.toList = xs := by
  rw [tx_list]
  exact (rn_enc xs h).1
theorem valid_tx {xs : List Int} (h : ∀ r ∈ xs, Ru r) : Lib.validD (tx xs).data.toList = true := by
  rw [tx_list]
  exact (rn_enc xs h).2
/-- string(characters). -/
theorem run_str {w : World} {v : Value} {xs : List Int} (h : RwR v xs w) (hr : ∀ r ∈ xs, Ru r) : (convert 47 9 v).run Tryd.prog w = .ok (.string (tx xs)) w := by
  by_cases h0 : xs = []
  · subst h0
    rcases h.2 with ⟨rfl, _⟩ | ⟨g, cap, cur, rfl, hg, _⟩
    · have := run_convert_runes_nil (P := Tryd.prog) w 47 9 21 0 0 Tryd.underlying47 Tryd.underlying21 Tryd.underlying9
      rw [this]
      rfl
    · have := run_convert_runes (P := Tryd.prog) w 47 9 21 ⟨g, 0, none⟩ 0 cap [] (Nat.le_refl _) Tryd.underlying47 Tryd.underlying21 Tryd.underlying9 (fun j hj => by simp at hj)
      exact this.trans rfl
  · obtain ⟨g, c, rfl, _, _, hc⟩ := h.at h0
    have := run_convert_runes (P := Tryd.prog) w 47 9 21 ⟨g, 0, none⟩ xs.length c xs (Nat.le_refl _) Tryd.underlying47 Tryd.underlying21 Tryd.underlying9 (fun j hj => by
      rw [Addr.add_lit, Nat.zero_add]
      refine hc j _ ?_
      rw [List.getD, List.getElem?_eq_getElem hj]
      rfl)
    rw [this, List.take_length, runesBytes_enc xs hr]
    rfl
section
variable {ops : Array Oper} {rest : List Oper} {o : Oper} {A : Act} {w : World} {Q : Exit → Act → World → Prop}
theorem wpL_str (hgd : o.guard = none) (x : Operand) (ho : o.op = .convert 47 9 x) {v : Value} {xs : List Int} (hx : A.eval x = v) (h : RwR v xs w) (hr : ∀ r ∈ xs, Ru r)
    (k : wpList Tryd.prog ops Q rest (A.put o.dst (.string (tx xs))) w) : wpList Tryd.prog ops Q (o :: rest) A w := by
  refine wpList_plain hgd fun _ hK => ?_
  unfold Oper.wp execOp
  simp only [ho, hx, Sem.run_bind, Result.andThen, run_str h hr]
  exact hK _ _ k
end
theorem Kc.all {x y : List Int} : ∀ {l : List (Nat × Nat)} {i j : Nat}, Kc x y i j l → ∀ p ∈ l, ∃ a, x[p.1]? = some a ∧ y[p.2]? = some a
  | [], _, _, _, p, hp => by simp at hp
  | (a, b) :: l, i, j, h, p, hp => by
    rcases List.mem_cons.1 hp with rfl | hp
    · exact h.2.2.1
    · exact Kc.all h.2.2.2 p hp
theorem kp_kc0 (x y : List Int) : Kc x y 0 0 (kp 0 0 x y) := by
  have := kp_kc _ x y 0 0 (Nat.zero_le _) (Nat.zero_le _) (Nat.le_refl _)
  rwa [List.drop_zero, List.drop_zero] at this
/-- What two rows have in common. -/
def cm (x y : List Int) : List Int := (kp 0 0 x y).map fun p => x.getD p.1 0
theorem cm_len (x y : List Int) : x.length + y.length = ds x y + 2 * (cm x y).length := by
  unfold cm
  rw [List.length_map]
  exact kp_len _ 0 0 x y (Nat.le_refl _)
theorem cm_mem {x y : List Int} {r : Int} (h : r ∈ cm x y) : r ∈ x := by
  unfold cm at h
  obtain ⟨p, hp, rfl⟩ := List.mem_map.1 h
  obtain ⟨a, ha, _⟩ := Kc.all (kp_kc0 x y) p hp
  rw [List.getD, ha]
  exact List.mem_of_getElem? ha

def bDist : ByteArray := ⟨#[68, 105, 115, 116, 97, 110, 99, 101]⟩
def bEdits : ByteArray := ⟨#[69, 100, 105, 116, 115]⟩
def bCommon : ByteArray := ⟨#[67, 111, 109, 109, 111, 110]⟩
def bApply : ByteArray := ⟨#[65, 112, 112, 108, 121]⟩
def bInvert : ByteArray := ⟨#[73, 110, 118, 101, 114, 116]⟩

set_option maxHeartbeats 2000000 in
theorem dist_no {ad : Nat → Addr} {w : World} (E : Env ad w) (a b : ByteArray) (ha : a.size ≤ 70368744177664) (hb : b.size ≤ 70368744177664) {i : Int} {k : Nat} (h : chW a b = some (i, k)) :
    Calls Tryd.prog 22 #[.string a, .string b] w fun e w' => ∃ v, e = .returned (.tuple #[.int .i64 0, v]) ∧ ErrR ad w.heap.size (some (bDist, i, k)) v w' ∧ Below w.heap.size w w' := by
  have HC := hid_of' (chars_no E bDist a b ha hb h)
  clear E h
  go_enter Tryd.func22, Tryd.ntmps22
  go_upto_region 2 with (go_at_call 34; refine HC.out.mono ?_; rintro e w1 ⟨v, rfl, ⟨bb, rfl, h2, h3, h4⟩, hb1⟩)
  go_wp2
  go_ret2
  exact ⟨_, rfl, ⟨bb, rfl, h2, h3, h4⟩, hb1⟩
set_option maxHeartbeats 2000000 in
theorem dist_ok {ad : Nat → Addr} {w : World} (E : Env ad w) (a b : ByteArray) (ha : a.size ≤ 70368744177664) (hb : b.size ≤ 70368744177664) (h : chW a b = none) :
    Calls Tryd.prog 22 #[.string a, .string b] w fun e w' => e = .returned (.tuple #[.int .i64 (ds (rn a.data.toList) (rn b.data.toList) : Int), .nilIface]) ∧ Below w.heap.size w w' := by
  have HC := hid_of' (chars_ok E bDist a b ha hb h)
  obtain ⟨_, _, hf⟩ := chW_fits h
  have hal := Nat.le_trans (rn_len a.data.toList) (show a.data.toList.length ≤ 70368744177664 by rw [Array.length_toList]; exact ha)
  have hbl := Nat.le_trans (rn_len b.data.toList) (show b.data.toList.length ≤ 70368744177664 by rw [Array.length_toList]; exact hb)
  unfold ChOk at HC
  generalize rn a.data.toList = xs at HC hf hal ⊢
  generalize rn b.data.toList = ys at HC hf hbl ⊢
  have HK := hid_of' (kp_len _ 0 0 xs ys (Nat.le_refl _))
  have HF := hid_of' hf
  clear E h hf
  go_enter Tryd.func22, Tryd.ntmps22
  go_upto_region 2 with (go_at_call 34; refine HC.out.mono ?_; rintro e w1 ⟨v1, v2, rfl, h1, h2, _, _, hb1⟩)
  have HP := hid_of' (kept_ok h1 h2 HF.out)
  obtain ⟨a1, c1, hv1, _⟩ := h1.form
  obtain ⟨a2, c2, hv2, _⟩ := h2.form
  obtain ⟨n, hn⟩ : ∃ n, n = xs.length := ⟨_, rfl⟩
  obtain ⟨m, hm⟩ : ∃ m, m = ys.length := ⟨_, rfl⟩
  rw [← hn] at hv1 HK hal
  rw [← hm] at hv2 HK hbl
  subst hv1 hv2
  clear h1 h2 hn hm HF
  go_wp2_with (go_at_call 36; (with_reducible refine HP.out.mono ?_); rintro e w2 ⟨v3, rfl, h3, _, hb2⟩; obtain ⟨a3, c3, hv3, _⟩ := Rw.form h3; have HK3 := hid_of' (rfl : (kp 0 0 xs ys).length = (kp 0 0 xs ys).length); clear h3; obtain ⟨q, hq⟩ : ∃ q, q = (kp 0 0 xs ys).length := ⟨_, rfl⟩; rw [← hq] at hv3 HK; have hq2 : q ≤ 70368744177664 := by { have := HK.out; omega }; clear hq HK3; subst hv3)
  go_ret2
  refine ⟨?_, bgo hb1 hb2⟩
  have hk := HK.out
  have e : (n : Int) + (m : Int) - 2 * (q : Int) = (ds xs ys : Int) := by omega
  show Ending.returned (.tuple #[.int .i64 ((n : Int) + (m : Int) - 2 * (q : Int)), .nilIface]) = _
  rw [e]
end Go.Proofs.YtaimmjoekahleaaDoor
