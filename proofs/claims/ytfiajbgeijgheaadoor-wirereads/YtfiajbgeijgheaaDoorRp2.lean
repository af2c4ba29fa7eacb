
/-
  One reading of the document's Reader.
-/
import Derived.Test.YtfiajbgeijgheaaDoorRp1
namespace Go.Proofs.YtfiajbgeijgheaaDoor
open Go.RowKit
set_option maxRecDepth 100000

theorem xo_Number {xb : Nat} {v n0 n1 n2 : Value} {bs : List UInt8} {pl : Nat} {st : StO} {w : World} (h : XsAt xb v bs pl st n0 n1 n2 w) (most : Int) :
    Calls Tryd.prog 40 #[.pointer (some ⟨xb, 0, none⟩), .int .i64 most] w (XOut xb v bs tp w (resS (.int .i64 0) ⟨#[78, 117, 109, 98, 101, 114]⟩ pl ((numR (bs.drop pl) most).map fun x => (.int .i64 x.1, x.2)) st)) := by
  match st, h with
  | some (ca, p, c), h => exact (refNumber_broken h most).mono fun e w' ho => ⟨_, _, _, ho⟩
  | none, h =>
    match hr : numR (bs.drop pl) most with
    | .error c => exact (refNumber_err h most hr).mono fun e w' ho => ho
    | .ok (n, k) => exact (refNumber_ok h most hr).mono fun e w' ho => ⟨_, _, _, ho⟩
theorem xo_Text {xb : Nat} {v n0 n1 n2 : Value} {bs : List UInt8} {pl : Nat} {st : StO} {w : World} (h : XsAt xb v bs pl st n0 n1 n2 w) (hcap : ∀ a m c, v = .slice a m c → bs.length ≤ c) (most : Int) :
    Calls Tryd.prog 42 #[.pointer (some ⟨xb, 0, none⟩), .int .i64 most] w (XOut xb v bs tp w (resS (.string ⟨#[]⟩) ⟨#[84, 101, 120, 116]⟩ pl ((txtR (bs.drop pl) most).map fun x => (.string x.1, x.2)) st)) := by
  match st, h with
  | some (ca, p, c), h => exact (refText_broken h most).mono fun e w' ho => ⟨_, _, _, ho⟩
  | none, h =>
    have hle := h.at_.le
    match hr : numR (bs.drop pl) most with
    | .error c =>
      have ht : txtR (bs.drop pl) most = .error c := by unfold txtR; rw [hr]
      rw [ht]
      exact (refText_num (_n := 0) (_k := 0) h most hr).mono fun e w' ho => ho
    | .ok (n, k) =>
      have hk := (numR_ok hr).2.2.1
      rw [List.length_drop] at hk
      by_cases hm : (bs.length : Int) - (pl : Int) - (k : Int) < (n : Int)
      · have ht : txtR (bs.drop pl) most = .error 6 := by unfold txtR; rw [hr]; simp only [List.length_drop]; rw [if_pos (by omega)]
        rw [ht]
        exact (refText_many (_c := 0) h most hr hm).mono fun e w' ho => ho
      · have ht : txtR (bs.drop pl) most = .ok (⟨(((bs.drop pl).drop k).take n).toArray⟩, k + n) := by unfold txtR; rw [hr]; simp only [List.length_drop]; rw [if_neg (by omega)]
        rw [ht]
        exact (refText_ok h hcap most hr hm).mono fun e w' ho => ⟨_, _, _, by rw [Nat.add_assoc] at ho; exact ho⟩
theorem xo_Byte {xb : Nat} {v n0 n1 n2 : Value} {bs : List UInt8} {pl : Nat} {st : StO} {w : World} (h : XsAt xb v bs pl st n0 n1 n2 w) :
    Calls Tryd.prog 44 #[.pointer (some ⟨xb, 0, none⟩)] w (XOut xb v bs tp w (resS (.int .u8 0) ⟨#[66, 121, 116, 101]⟩ pl ((byteR (bs.drop pl)).map fun x => (.int .u8 x.1, x.2)) st)) := by
  match st, h with
  | some (ca, p, c), h => exact (refByte_broken h).mono fun e w' ho => ⟨_, _, _, ho⟩
  | none, h =>
    match hd : bs.drop pl with
    | [] =>
      have hl : (bs.drop pl).length = 0 := by rw [hd]; rfl
      rw [List.length_drop] at hl
      exact (refByte_err h (by omega)).mono fun e w' ho => ho
    | b :: r =>
      have hb : bs[pl]? = some b := by
        have := List.getElem?_drop (xs := bs) (i := pl) (j := 0)
        rw [hd] at this
        simpa using this.symm
      exact (refByte_ok h hb).mono fun e w' ho => ⟨_, _, _, ho⟩
theorem xo_End {xb : Nat} {v n0 n1 n2 : Value} {bs : List UInt8} {pl : Nat} {st : StO} {w : World} (h : XsAt xb v bs pl st n0 n1 n2 w) :
    Calls Tryd.prog 48 #[.pointer (some ⟨xb, 0, none⟩)] w (XOut xb v bs (fun _ b => b) w (resS .nilIface ⟨#[69, 110, 100]⟩ pl ((endR (bs.drop pl)).map fun x => (.nilIface, x.2)) st)) := by
  match st, h with
  | some (ca, p, c), h => exact (refEnd_broken h).mono fun e w' ho => ⟨_, _, _, ho⟩
  | none, h =>
    match hd : bs.drop pl with
    | [] =>
      have hl : (bs.drop pl).length = 0 := by rw [hd]; rfl
      rw [List.length_drop] at hl
      have hno := h.no
      obtain ⟨e0, e1, e2⟩ := hno
      subst e0 e1 e2
      exact (refEnd_ok h (by omega)).mono fun e w' ho => ⟨_, _, _, ho⟩
    | b :: r =>
      have hl : (bs.drop pl).length = r.length + 1 := by rw [hd]; rfl
      rw [List.length_drop] at hl
      exact (refEnd_err h (by omega)).mono fun e w' ho => ho
theorem xo_Count {xb : Nat} {v n0 n1 n2 : Value} {bs : List UInt8} {pl : Nat} {st : StO} {w : World} (h : XsAt xb v bs pl st n0 n1 n2 w) (least most : Int) :
    Calls Tryd.prog 46 #[.pointer (some ⟨xb, 0, none⟩), .int .i64 least, .int .i64 most] w (XOut xb v bs tp w (resS (.int .i64 0) ⟨#[67, 111, 117, 110, 116]⟩ pl ((cntR (bs.drop pl) least most).map fun x => (.int .i64 x.1, x.2)) st)) := by
  match st, h with
  | some (ca, p, c), h => exact (refCount_broken h least most).mono fun e w' ho => ⟨_, _, _, ho⟩
  | none, h =>
    match hr : numR (bs.drop pl) most with
    | .error c =>
      have ht : cntR (bs.drop pl) least most = .error c := by unfold cntR; rw [hr]
      rw [ht]
      by_cases hl : least < 1
      · exact (refCount_numL (_n := 0) (_k := 0) h least most hl hr).mono fun e w' ho => ho
      · exact (refCount_numH (_n := 0) (_k := 0) h least most hl hr).mono fun e w' ho => ho
    | .ok (n, k) =>
      by_cases hl : least < 1
      · by_cases hm : ((bs.length - pl - k : Nat) : Int) < (n : Int)
        · have ht : cntR (bs.drop pl) least most = .error 6 := by unfold cntR; rw [hr]; simp only [List.length_drop, if_pos hl, Int.ediv_one]; rw [if_pos hm]
          rw [ht]
          exact (refCount_manyL (_c := 0) h least most hl hr hm).mono fun e w' ho => ho
        · have ht : cntR (bs.drop pl) least most = .ok (n, k) := by unfold cntR; rw [hr]; simp only [List.length_drop, if_pos hl, Int.ediv_one]; rw [if_neg hm]
          rw [ht]
          exact (refCount_okL h least most hl hr hm).mono fun e w' ho => ⟨_, _, _, ho⟩
      · by_cases hm : ((bs.length - pl - k : Nat) : Int) / least < (n : Int)
        · have ht : cntR (bs.drop pl) least most = .error 6 := by unfold cntR; rw [hr]; simp only [List.length_drop, if_neg hl]; rw [if_pos hm]
          rw [ht]
          exact (refCount_manyH (_c := 0) h least most hl hr hm).mono fun e w' ho => ho
        · have ht : cntR (bs.drop pl) least most = .ok (n, k) := by unfold cntR; rw [hr]; simp only [List.length_drop, if_neg hl]; rw [if_neg hm]
          rw [ht]
          exact (refCount_okH h least most hl hr hm).mono fun e w' ho => ⟨_, _, _, ho⟩
end Go.Proofs.YtfiajbgeijgheaaDoor
