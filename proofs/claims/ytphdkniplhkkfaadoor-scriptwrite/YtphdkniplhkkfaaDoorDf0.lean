
/-
  A text's characters, and the bytes of characters: no program, plain lists.
-/
import Derived.Lib.MapLaws
import Derived.Lib.ValidLaws
import Derived.Lib.RuneCount
import Derived.Laws.IdiomStrings
import Derived.Laws.Cover4
namespace Go.Proofs.YtphdkniplhkkfaaDoor
open Go.Lib

/-- A character. -/
def Ru (r : Int) : Prop := 0 ≤ r ∧ (r < 55296 ∨ 57343 < r) ∧ r ≤ 1114111

def rnG : Nat → List UInt8 → List Int
  | 0, _ => []
  | n + 1, l => if l = [] then [] else ((decodeL l).1 : Int) :: rnG n (l.drop (decodeL l).2)
/-- A text's characters. -/
def rn (l : List UInt8) : List Int := rnG l.length l
/-- Characters as bytes. -/
def enc (rs : List Int) : List UInt8 := rs.flatMap encodeRune

theorem rnG_nil : ∀ n, rnG n [] = []
  | 0 => rfl
  | _ + 1 => by simp [rnG]
theorem rnG_fuel : ∀ (n m : Nat) (l : List UInt8), l.length ≤ n → l.length ≤ m → rnG n l = rnG m l
  | 0, m, l, hn, _ => by
    have : l = [] := List.eq_nil_of_length_eq_zero (by omega)
    subst this
    rw [rnG_nil, rnG_nil]
  | n + 1, 0, l, _, hm => by
    have : l = [] := List.eq_nil_of_length_eq_zero (by omega)
    subst this
    rw [rnG_nil, rnG_nil]
  | n + 1, m + 1, l, hn, hm => by
    by_cases hne : l = []
    · subst hne
      rw [rnG_nil, rnG_nil]
    · have hw := decodeL_width l
      have hl : 0 < l.length := List.length_pos_iff.2 hne
      simp only [rnG, if_neg hne]
      rw [rnG_fuel n m _ (by rw [List.length_drop]; omega) (by rw [List.length_drop]; omega)]
theorem rn_step (l : List UInt8) (hne : l ≠ []) : rn l = ((decodeL l).1 : Int) :: rn (l.drop (decodeL l).2) := by
  have hw := decodeL_width l
  have hl : 0 < l.length := List.length_pos_iff.2 hne
  unfold rn
  obtain ⟨n, hn⟩ : ∃ n, l.length = n + 1 := ⟨l.length - 1, by omega⟩
  rw [hn]
  simp only [rnG, if_neg hne]
  rw [rnG_fuel n _ _ (by rw [List.length_drop]; omega) (Nat.le_refl _)]
theorem rn_nil : rn [] = [] := rfl
theorem rn_len_go : ∀ (n : Nat) (l : List UInt8), (rnG n l).length ≤ n
  | 0, _ => by simp [rnG]
  | n + 1, l => by
    by_cases hne : l = []
    · subst hne
      rw [rnG_nil]
      simp
    · simp only [rnG, if_neg hne, List.length_cons]
      have := rn_len_go n (l.drop (decodeL l).2)
      omega
theorem rn_len (l : List UInt8) : (rn l).length ≤ l.length := rn_len_go _ _

theorem enc_nil : enc [] = [] := rfl
theorem enc_cons (r : Int) (rs : List Int) : enc (r :: rs) = encodeRune r ++ enc rs := rfl
theorem enc_app (x y : List Int) : enc (x ++ y) = enc x ++ enc y := by simp [enc]
theorem encR_len (r : Int) : 1 ≤ (encodeRune r).length ∧ (encodeRune r).length ≤ 4 := by
  have := encodeRuneZ_length r
  simpa [encodeRune] using this
theorem enc_len : ∀ rs : List Int, (enc rs).length ≤ 4 * rs.length
  | [] => by simp [enc]
  | r :: rs => by
    rw [enc_cons, List.length_append, List.length_cons]
    have h1 := encR_len r
    have h2 := enc_len rs
    omega
theorem enc_len_ge : ∀ rs : List Int, rs.length ≤ (enc rs).length
  | [] => by simp [enc]
  | r :: rs => by
    rw [enc_cons, List.length_append, List.length_cons]
    have h1 := encR_len r
    have h2 := enc_len_ge rs
    omega

/-- What is UTF-8 is written again as it was. -/
theorem enc_rn : ∀ (n : Nat) (l : List UInt8), l.length ≤ n → validD l = true → enc (rn l) = l
  | 0, l, hn, _ => by
    have : l = [] := List.eq_nil_of_length_eq_zero (by omega)
    subst this
    rfl
  | n + 1, l, hn, hv => by
    by_cases hne : l = []
    · subst hne
      rfl
    · have hw := decodeL_width l
      have hl : 0 < l.length := List.length_pos_iff.2 hne
      rw [validD_step l hne] at hv
      by_cases hb : (decodeL l).1 = 65533 ∧ (decodeL l).2 = 1
      · rw [if_pos hb] at hv
        exact absurd hv (by decide)
      · rw [if_neg hb] at hv
        rw [rn_step l hne, enc_cons, encode_decode l hne hb, enc_rn n _ (by rw [List.length_drop]; omega) hv, List.take_append_drop]

theorem decode_ru (l : List UInt8) (h0 : ¬ ((decodeL l).1 = 65533 ∧ (decodeL l).2 = 1)) : Ru ((decodeL l).1 : Int) := by
  have hb := h0
  rw [decodeL_N] at hb ⊢
  have k0 := (l.getD 0 0).toNat_lt
  have k1 := (l.getD 1 0).toNat_lt
  have k2 := (l.getD 2 0).toNat_lt
  have k3 := (l.getD 3 0).toNat_lt
  unfold Ru
  rcases decodeN_shape l.length (l.getD 0 0).toNat (l.getD 1 0).toNat (l.getD 2 0).toNat (l.getD 3 0).toNat with ⟨c, e⟩ | ⟨c1, c2, c3, cv, e⟩ | ⟨c1, c2, c3, c4, cv, cs, e⟩ | ⟨c1, c2, c3, c4, c5, cv, cw, e⟩ | e
  all_goals (rw [e] at hb ⊢; dsimp only at hb ⊢)
  all_goals (try omega)

theorem rn_ru : ∀ (n : Nat) (l : List UInt8), l.length ≤ n → validD l = true → ∀ r ∈ rn l, Ru r
  | 0, l, hn, _ => by
    have : l = [] := List.eq_nil_of_length_eq_zero (by omega)
    subst this
    intro r hr
    exact absurd hr (by simp [rn_nil])
  | n + 1, l, hn, hv => by
    by_cases hne : l = []
    · subst hne
      intro r hr
      exact absurd hr (by simp [rn_nil])
    · have hw := decodeL_width l
      have hl : 0 < l.length := List.length_pos_iff.2 hne
      rw [validD_step l hne] at hv
      by_cases hb : (decodeL l).1 = 65533 ∧ (decodeL l).2 = 1
      · rw [if_pos hb] at hv
        exact absurd hv (by decide)
      · rw [if_neg hb] at hv
        intro r hr
        rw [rn_step l hne] at hr
        rcases List.mem_cons.1 hr with h | h
        · rw [h]
          exact decode_ru l hb
        · exact rn_ru n _ (by rw [List.length_drop]; omega) hv r h

theorem u8n (n : Nat) (h : n < 256) : (n.toUInt8).toNat = n := by
  simp [Nat.toUInt8, Nat.mod_eq_of_lt h]

/-- What was written of a character is read as it. -/
theorem decode_enc (r : Int) (hr : Ru r) (t : List UInt8) : decodeL (encodeRune r ++ t) = (r.toNat, (encodeRune r).length) := by
  obtain ⟨h0, hs, h1⟩ := hr
  obtain ⟨n, rfl⟩ : ∃ n : Nat, r = (n : Int) := ⟨r.toNat, by omega⟩
  rw [decodeL_N]
  unfold encodeRune
  by_cases g1 : n ≤ 127
  · rw [encodeRuneZ_one (by omega) (by omega)]
    simp only [List.map_cons, List.map_nil, List.cons_append, List.nil_append, List.length_cons, List.getD_cons_zero, Int.toNat_natCast]
    rw [u8n n (by omega)]
    simp [decodeN, show n < 128 by omega]
  · by_cases g2 : n ≤ 2047
    · rw [encodeRuneZ_two (by omega) (by omega)]
      simp only [List.map_cons, List.map_nil, List.cons_append, List.nil_append, List.length_cons, List.getD_cons_zero, List.getD_cons_succ, List.length_nil]
      rw [show (192 + (n : Int) / 64).toNat = 192 + n / 64 by omega, show (128 + (n : Int) % 64).toNat = 128 + n % 64 by omega, u8n (192 + n / 64) (by omega), u8n (128 + n % 64) (by omega)]
      rcases decodeN_shape (t.length + 1 + 1) (192 + n / 64) (128 + n % 64) (t.getD 0 0).toNat (t.getD 1 0).toNat with ⟨c, e⟩ | ⟨c1, c2, c3, cv, e⟩ | ⟨c1, c2, c3, c4, cv, cs, e⟩ | ⟨c1, c2, c3, c4, c5, cv, cw, e⟩ | e
      · omega
      · rw [e]
        refine Prod.ext ?_ rfl
        dsimp only
        omega
      · omega
      · omega
      · exfalso
        unfold decodeN at e
        simp only [show ¬ (192 + n / 64 < 128) by omega, show (192 + n / 64) / 32 = 6 by omega, show (128 + n % 64) / 64 = 2 by omega, show 1 < t.length + 1 + 1 by omega, show (192 + n / 64) % 32 * 64 + (128 + n % 64) % 64 = n by omega] at e
        simp [show 128 ≤ n by omega] at e
    · by_cases g3 : n ≤ 65535
      · rw [encodeRuneZ_three (by omega)]
        simp only [List.map_cons, List.map_nil, List.cons_append, List.nil_append, List.length_cons, List.getD_cons_zero, List.getD_cons_succ, List.length_nil]
        rw [show (224 + (n : Int) / 4096).toNat = 224 + n / 4096 by omega, show (128 + (n : Int) / 64 % 64).toNat = 128 + n / 64 % 64 by omega, show (128 + (n : Int) % 64).toNat = 128 + n % 64 by omega, u8n (224 + n / 4096) (by omega), u8n (128 + n / 64 % 64) (by omega), u8n (128 + n % 64) (by omega)]
        rcases decodeN_shape (t.length + 1 + 1 + 1) (224 + n / 4096) (128 + n / 64 % 64) (128 + n % 64) (t.getD 0 0).toNat with ⟨c, e⟩ | ⟨c1, c2, c3, cv, e⟩ | ⟨c1, c2, c3, c4, cv, cs, e⟩ | ⟨c1, c2, c3, c4, c5, cv, cw, e⟩ | e
        · omega
        · omega
        · rw [e]
          refine Prod.ext ?_ rfl
          dsimp only
          omega
        · omega
        · exfalso
          unfold decodeN at e
          have q : (224 + n / 4096) % 16 * 4096 + (128 + n / 64 % 64) % 64 * 64 + (128 + n % 64) % 64 = n := by omega
          simp only [show ¬ (224 + n / 4096 < 128) by omega, show ¬ ((224 + n / 4096) / 32 = 6) by omega, show (224 + n / 4096) / 16 = 14 by omega, show (128 + n / 64 % 64) / 64 = 2 by omega, show (128 + n % 64) / 64 = 2 by omega, show 1 < t.length + 1 + 1 + 1 by omega, show 2 < t.length + 1 + 1 + 1 by omega, q] at e
          simp at e
          omega
      · rw [encodeRuneZ_four (by omega) (by omega)]
        simp only [List.map_cons, List.map_nil, List.cons_append, List.nil_append, List.length_cons, List.getD_cons_zero, List.getD_cons_succ, List.length_nil]
        rw [show (240 + (n : Int) / 262144).toNat = 240 + n / 262144 by omega, show (128 + (n : Int) / 4096 % 64).toNat = 128 + n / 4096 % 64 by omega, show (128 + (n : Int) / 64 % 64).toNat = 128 + n / 64 % 64 by omega, show (128 + (n : Int) % 64).toNat = 128 + n % 64 by omega, u8n (240 + n / 262144) (by omega), u8n (128 + n / 4096 % 64) (by omega), u8n (128 + n / 64 % 64) (by omega), u8n (128 + n % 64) (by omega)]
        rcases decodeN_shape (t.length + 1 + 1 + 1 + 1) (240 + n / 262144) (128 + n / 4096 % 64) (128 + n / 64 % 64) (128 + n % 64) with ⟨c, e⟩ | ⟨c1, c2, c3, cv, e⟩ | ⟨c1, c2, c3, c4, cv, cs, e⟩ | ⟨c1, c2, c3, c4, c5, cv, cw, e⟩ | e
        · omega
        · omega
        · omega
        · rw [e]
          refine Prod.ext ?_ rfl
          dsimp only
          omega
        · exfalso
          unfold decodeN at e
          have q : (240 + n / 262144) % 8 * 262144 + (128 + n / 4096 % 64) % 64 * 4096 + (128 + n / 64 % 64) % 64 * 64 + (128 + n % 64) % 64 = n := by omega
          simp only [show ¬ (240 + n / 262144 < 128) by omega, show ¬ ((240 + n / 262144) / 32 = 6) by omega, show ¬ ((240 + n / 262144) / 16 = 14) by omega, show (240 + n / 262144) / 8 = 30 by omega, show (128 + n / 4096 % 64) / 64 = 2 by omega, show (128 + n / 64 % 64) / 64 = 2 by omega, show (128 + n % 64) / 64 = 2 by omega, show 1 < t.length + 1 + 1 + 1 + 1 by omega, show 2 < t.length + 1 + 1 + 1 + 1 by omega, show 3 < t.length + 1 + 1 + 1 + 1 by omega, q] at e
          simp at e
          omega

theorem enc_ne (r : Int) (t : List UInt8) : encodeRune r ++ t ≠ [] := by
  have h := (encR_len r).1
  intro e
  rw [List.append_eq_nil_iff] at e
  rw [e.1] at h
  exact absurd h (by decide)

theorem rn_enc : ∀ rs : List Int, (∀ r ∈ rs, Ru r) → rn (enc rs) = rs ∧ validD (enc rs) = true
  | [], _ => ⟨rfl, rfl⟩
  | r :: rs, h => by
    have hr := h r (List.mem_cons_self ..)
    have ih := rn_enc rs (fun x hx => h x (List.mem_cons_of_mem _ hx))
    have hd := decode_enc r hr (enc rs)
    have hne := enc_ne r (enc rs)
    have hb : ¬ ((decodeL (encodeRune r ++ enc rs)).1 = 65533 ∧ (decodeL (encodeRune r ++ enc rs)).2 = 1) := by
      rw [hd]
      intro ⟨e1, e2⟩
      dsimp only at e1 e2
      have : r = 65533 := by
        have := hr.1
        omega
      rw [this] at e2
      exact absurd e2 (by decide)
    have hdr : (encodeRune r ++ enc rs).drop (encodeRune r).length = enc rs := List.drop_left ..
    refine ⟨?_, ?_⟩
    · rw [enc_cons, rn_step _ hne, hd]
      dsimp only
      rw [hdr, ih.1]
      congr 1
      have := hr.1
      omega
    · rw [enc_cons, validD_step _ hne, if_neg hb, hd]
      dsimp only
      rw [hdr]
      exact ih.2

theorem runesFrom_go (s : ByteArray) : ∀ (n i : Nat) (acc : Array Value), Conv.runesFrom s n i acc = acc ++ ((rnG n (s.data.toList.drop i)).map (Value.int .i32)).toArray
  | 0, _, acc => by simp [Conv.runesFrom, rnG]
  | n + 1, i, acc => by
    unfold Conv.runesFrom
    by_cases hi : i < s.size
    · have hne : s.data.toList.drop i ≠ [] := by
        intro e
        have := congrArg List.length e
        simp at this
        have h2 : s.size = s.data.size := rfl
        omega
      rw [if_pos hi]
      show Conv.runesFrom s n (i + (Utf8.decode s i).2) (acc.push (.int .i32 (Int.ofNat (Utf8.decode s i).1))) = _
      rw [runesFrom_go s n]
      simp only [rnG, if_neg hne, decodeL_drop, List.drop_drop, List.map_cons]
      rw [Array.push_eq_append, Array.append_assoc]
      simp
    · have he : s.data.toList.drop i = [] := by
        apply List.drop_eq_nil_of_le
        have h2 : s.size = s.data.size := rfl
        simp
        omega
      rw [if_neg hi, he, rnG_nil]
      simp
theorem runesFrom_rn (s : ByteArray) : Conv.runesFrom s s.size 0 #[] = ((rn s.data.toList).map (Value.int .i32)).toArray := by
  rw [runesFrom_go, List.drop_zero]
  simp [rn]
theorem count_go (s : ByteArray) : ∀ (n i : Nat), runeCountFrom s n i = (rnG n (s.data.toList.drop i)).length
  | 0, _ => rfl
  | n + 1, i => by
    unfold runeCountFrom
    by_cases hi : i < s.size
    · have hne : s.data.toList.drop i ≠ [] := by
        intro e
        have := congrArg List.length e
        simp at this
        have h2 : s.size = s.data.size := rfl
        omega
      rw [if_pos hi, count_go s n]
      simp only [rnG, if_neg hne, decodeL_drop, List.drop_drop, List.length_cons]
      omega
    · have he : s.data.toList.drop i = [] := by
        apply List.drop_eq_nil_of_le
        have h2 : s.size = s.data.size := rfl
        simp
        omega
      rw [if_neg hi, he, rnG_nil]
      rfl
theorem count_rn (s : ByteArray) : runeCount s = (rn s.data.toList).length := by
  unfold runeCount rn
  rw [count_go, List.drop_zero]
  rfl

theorem encode_is (r : Int) (hr : Ru r) : (Utf8.encode r).data.toList = encodeRune r := by
  obtain ⟨h0, hs, h1⟩ := hr
  obtain ⟨n, rfl⟩ : ∃ n : Nat, r = (n : Int) := ⟨r.toNat, by omega⟩
  have hv : Utf8.valid (n : Int) = true := by
    unfold Utf8.valid
    simp
    omega
  unfold Utf8.encode
  simp only [hv, if_true, Int.toNat_natCast]
  unfold encodeRune
  by_cases g1 : n ≤ 127
  · rw [encodeRuneZ_one (by omega) (by omega), if_pos (by omega)]
    rfl
  · rw [if_neg (by omega)]
    by_cases g2 : n ≤ 2047
    · rw [encodeRuneZ_two (by omega) (by omega), if_pos (by omega)]
      rfl
    · rw [if_neg (by omega)]
      by_cases g3 : n ≤ 65535
      · rw [encodeRuneZ_three (by omega), if_pos (by omega)]
        rfl
      · rw [encodeRuneZ_four (by omega) (by omega), if_neg (by omega)]
        rfl
theorem runesBytes_go : ∀ (rs : List Int) (s : ByteArray), (∀ r ∈ rs, Ru r) → (rs.foldl (fun r n => r ++ Utf8.encode n) s).data.toList = s.data.toList ++ enc rs
  | [], s, _ => by simp [enc]
  | r :: rs, s, h => by
    rw [List.foldl_cons, runesBytes_go rs _ (fun x hx => h x (List.mem_cons_of_mem _ hx)), enc_cons, ByteArray.data_append, Array.toList_append, encode_is r (h r (List.mem_cons_self ..)), List.append_assoc]
/-- The text of characters. -/
theorem runesBytes_enc (rs : List Int) (h : ∀ r ∈ rs, Ru r) : runesBytes rs = ⟨(enc rs).toArray⟩ := by
  have := runesBytes_go rs ByteArray.empty h
  unfold runesBytes
  generalize rs.foldl (fun r n => r ++ Utf8.encode n) ByteArray.empty = b at this ⊢
  cases b with
  | mk d =>
    congr 1
    apply Array.ext'
    rw [this]
    rfl

end Go.Proofs.YtphdkniplhkkfaaDoor
