
/-
  tree.passed, (*tree.Tree).Find. tree.passed, (*tree.Tree).Find.
-/
import Derived.Test.YtjalehlmldlooaaGreatDoorZap09
namespace Go.Proofs.YtjalehlmldlooaaGreatDoor
open Go.RowKit
set_option maxRecDepth 100000

/-- The element at which the sum of the live ones goes above k. -/
def idxL : List El → Int → Nat
  | [], _ => 0
  | e :: l, k => if k < wLive e then 0 else 1 + idxL l (k - wLive e)
theorem idxL_app : ∀ (a b : List El) (k : Int), idxL (a ++ b) k = if k < liveL a then idxL a k else a.length + idxL b (k - liveL a)
  | [], b, k => by
    by_cases h : k < liveL []
    · rw [if_pos h]
      simp only [liveL] at h
      cases b with
      | nil => rfl
      | cons e b => have := wLive_b e; simp only [List.nil_append, idxL]; rw [if_pos (by omega)]
    · rw [if_neg h]; simp [liveL]
  | e :: a, b, k => by
    have h1 := wLive_b e
    have h2 := liveL_b a
    have ih := idxL_app a b (k - wLive e)
    have e1 : liveL (e :: a) = wLive e + liveL a := rfl
    show (if k < wLive e then 0 else 1 + idxL (a ++ b) (k - wLive e)) = if k < liveL (e :: a) then (if k < wLive e then 0 else 1 + idxL a (k - wLive e)) else (a.length + 1) + idxL b (k - liveL (e :: a))
    by_cases h : k < wLive e
    · rw [if_pos h, if_pos (by rw [e1]; omega), if_pos h]
    · rw [if_neg h, if_neg h, ih]
      by_cases h3 : k - wLive e < liveL a
      · rw [if_pos h3, if_pos (by rw [e1]; omega)]
      · rw [if_neg h3, if_neg (by rw [e1]; omega), e1, show k - wLive e - liveL a = k - (wLive e + liveL a) by omega]
        omega
theorem idxL_le : ∀ (l : List El) (k : Int), idxL l k ≤ l.length
  | [], _ => Nat.le_refl _
  | e :: l, k => by
    simp only [idxL, List.length_cons]
    split
    · omega
    · have := idxL_le l (k - wLive e); omega

end Go.Proofs.YtjalehlmldlooaaGreatDoor
namespace Go.Proofs.YtjalehlmldlooaaGreatDoor
open Go.RowKit
set_option maxRecDepth 100000

/-- The element at which the sum of the line ends goes above k. -/
def idxN : List El → Int → Nat
  | [], _ => 0
  | e :: l, k => if k < wLine e then 0 else 1 + idxN l (k - wLine e)
theorem idxN_app : ∀ (a b : List El) (k : Int), idxN (a ++ b) k = if k < lineL a then idxN a k else a.length + idxN b (k - lineL a)
  | [], b, k => by
    by_cases h : k < lineL []
    · rw [if_pos h]
      simp only [lineL] at h
      cases b with
      | nil => rfl
      | cons e b => have := wLine_b e; simp only [List.nil_append, idxN]; rw [if_pos (by omega)]
    · rw [if_neg h]; simp [lineL]
  | e :: a, b, k => by
    have h1 := wLine_b e
    have h2 := lineL_b a
    have ih := idxN_app a b (k - wLine e)
    have e1 : lineL (e :: a) = wLine e + lineL a := rfl
    show (if k < wLine e then 0 else 1 + idxN (a ++ b) (k - wLine e)) = if k < lineL (e :: a) then (if k < wLine e then 0 else 1 + idxN a (k - wLine e)) else (a.length + 1) + idxN b (k - lineL (e :: a))
    by_cases h : k < wLine e
    · rw [if_pos h, if_pos (by rw [e1]; omega), if_pos h]
    · rw [if_neg h, if_neg h, ih]
      by_cases h3 : k - wLine e < lineL a
      · rw [if_pos h3, if_pos (by rw [e1]; omega)]
      · rw [if_neg h3, if_neg (by rw [e1]; omega), e1, show k - wLine e - lineL a = k - (wLine e + lineL a) by omega]
        omega
theorem idxN_le : ∀ (l : List El) (k : Int), idxN l k ≤ l.length
  | [], _ => Nat.le_refl _
  | e :: l, k => by
    simp only [idxN, List.length_cons]
    split
    · omega
    · have := idxN_le l (k - wLine e); omega

end Go.Proofs.YtjalehlmldlooaaGreatDoor
