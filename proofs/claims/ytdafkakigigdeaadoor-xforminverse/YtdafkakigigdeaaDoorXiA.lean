
/-
  unicode/utf8.AppendRune and (*strings.Builder).WriteRune of a right rune: what is written, and where it lies. (*Model).View: the bytes of what is seen. A drawn region of which several operations, one behind the other, change what was there. barrowlaw07.name, barrowref05.Copy, Cut; an operation and its inverse: plain lists. barrowlaw07.XformInverse: an operation and its inverse.
-/
import Derived.Test.YtdafkakigigdeaaDoorMd3
import Derived.Test.YtdafkakigigdeaaDoorMd1
import Derived.Maps.AppendAt
import Derived.Lib.Builder
import Derived.Lib.AppendStr
import Derived.Lib.RuneBytes
import Derived.Lib.UnsafeStr
import Derived.Shelf.Strings.BuilderK
import Derived.Laws.BitsLemmas
import Derived.Test.YtdafkakigigdeaaDoorMeA
import Derived.RangeFuncCalls
import Derived.Test.YtdafkakigigdeaaDoorMiA
import Derived.Test.YtdafkakigigdeaaDoorXr2
import Derived.Test.YtdafkakigigdeaaDoorXg4
namespace Go.Proofs.YtdafkakigigdeaaDoor
open Go.RowKit Go.Extern.Stop Go.Stop Go.Extern
set_option maxRecDepth 100000

theorem bldSizeV : (Tryd.prog.info? 77).map (·.size) = some 2 := by kernel_rfl
theorem bldLiesV : liesAt Tryd.prog Tryd.prog.depth 77 (2 / Tryd.prog.cellsOf 77) 0 77 1 = true := by kernel_rfl
theorem info_byteV : (Tryd.prog.info? 5).map (fun i => (i.zero, i.size, i.bytes)) = some (some (.int .u8 0), 1, 1) := by kernel_rfl
set_option maxHeartbeats 1000000 in
theorem copyCheck_usedV (b : Nat) (w : World) (h0 : w.cell? ⟨b, 0, none⟩ = some (.pointer (some ⟨b, 0, none⟩))) :
    Calls Tryd.prog 59 #[.pointer (some ⟨b, 0, none⟩)] w fun e w' => e = .returned (.tuple #[]) ∧ w' = w := by
  obtain ⟨j, hj, _⟩ := Option.map_eq_some_iff.1 bldSizeV
  have hnq := Lib.run_neq_ptr_same (P := Tryd.prog) w ⟨b, 0, none⟩ Tryd.underlying74 hj
  go_enter Tryd.func59, Tryd.ntmps59
  go_wp2
  go_end0
  exact ⟨rfl, rfl⟩
set_option maxHeartbeats 1000000 in
theorem copyCheck_freshV (b : Nat) (w : World) (h0 : w.cell? ⟨b, 0, none⟩ = some (.pointer none)) (hsh : w.shape? b = some (77, 2)) (hfz : w.frozen? ⟨b, 0, none⟩ = false) :
    Calls Tryd.prog 59 #[.pointer (some ⟨b, 0, none⟩)] w fun e w' => e = .returned (.tuple #[]) ∧ w' = w.setCell ⟨b, 0, none⟩ (.pointer (some ⟨b, 0, none⟩)) := by
  obtain ⟨j, hj, hjs⟩ := Option.map_eq_some_iff.1 bldSizeV
  have hne := @run_callFunc_extern Tryd.prog 75 _ Extern.AbiNoEscape.same Tryd.func75 (by kernel_rfl) (by kernel_rfl) (by kernel_rfl) (by kernel_rfl)
  have hno := Lib.run_noEscape (P := Tryd.prog) w (.pointer (some ⟨b, 0, none⟩))
  have hto := Lib.run_to_unsafe (P := Tryd.prog) w ⟨b, 0, none⟩ Tryd.underlying74 Tryd.underlying131 hj (by rw [hjs]; decide) hsh (Nat.zero_lt_succ 1)
  have hfr := Lib.run_from_unsafe (P := Tryd.prog) w ⟨b, 0, none⟩ Tryd.underlying131 Tryd.underlying74 hj hsh bldLiesV
  go_enter Tryd.func59, Tryd.ntmps59
  go_wp2
  go_end0
  exact ⟨rfl, rfl⟩
/-- Bytes were put behind a row: in its block, or in a new one. -/
def ArO (B : Nat) (v : Value) (n : Nat) (xs ys : List Value) (w : World) (e : Ending) (w' : World) : Prop := ∃ v', e = .returned v' ∧ w'.ownsRow B 5 1 v' (n + ys.length) (xs ++ ys) ∧ (∃ o, (w.alloc o).grownBy w' v.ownBlock) ∧ (v'.ownBlock = v.ownBlock ∨ ∃ k, v'.ownBlock = some k ∧ w.heap.size ≤ k)

set_option maxHeartbeats 4000000 in
theorem ar_two (B : Nat) (v : Value) (n : Nat) (xs : List Value) (r : Int) (h0 : 128 ≤ r) (h1 : r ≤ 2047) (w : World) (hown : w.ownsRow B 5 1 v n xs) (hlen : n + 4 ≤ 140737488355328) (hBw : B ≤ w.heap.size) :
    Calls Tryd.prog 76 #[v, .int .i32 r] w (ArO B v n xs [.int .u8 (192 + r / 64), .int .u8 (128 + r % 64)] w) := by
  obtain ⟨i0, hi, hz0, hz1, hz2⟩ := info_parts info_byteV
  go_enter Tryd.func76, Tryd.ntmps76
  go_wp2_with (at_builtin; refine wpList_append_own_at _ rfl _ _ 75 rfl B 5 i0 (.int .u8 0) 1 1 Tryd.underlying75 hi hz0 hz1 hz2 rfl (by decide) _ _ _ rfl (hown.alloc _) ⟨w.heap.size, 0, none⟩ 2 2 [.int .u8 (192 + r / 64), .int .u8 (128 + r % 64)] rfl rfl ?c1 ?c2 ?c3 ?c4 ?c5 ?_)
  case c1 =>
    intro j u hj
    match j, hj with
    | 0, hj => simp at hj; subst hj; simp [Addr.add]
    | 1, hj => simp at hj; subst hj; simp [Addr.add]
    | (j + 2), hj => simp at hj
  case c2 => intro u hu; simp at hu; rcases hu with rfl | rfl <;> rfl
  case c3 => unfold maxLen; omega
  case c4 => omega
  case c5 => simp; omega
  intro v' w2 hown' hgrow _ hat
  go_wp2
  go_ret
  exact ⟨_, rfl, hown', ⟨_, hgrow⟩, hat.imp id (fun e => ⟨_, e, by simp⟩)⟩

set_option maxHeartbeats 4000000 in
theorem ar_low (B : Nat) (v : Value) (n : Nat) (xs : List Value) (r : Int) (h0 : 2048 ≤ r) (h1 : r < 55296) (w : World) (hown : w.ownsRow B 5 1 v n xs) (hlen : n + 4 ≤ 140737488355328) (hBw : B ≤ w.heap.size) :
    Calls Tryd.prog 76 #[v, .int .i32 r] w (ArO B v n xs [.int .u8 (224 + r / 4096), .int .u8 (128 + r / 64 % 64), .int .u8 (128 + r % 64)] w) := by
  obtain ⟨i0, hi, hz0, hz1, hz2⟩ := info_parts info_byteV
  go_enter Tryd.func76, Tryd.ntmps76
  go_wp2_with (at_builtin; refine wpList_append_own_at _ rfl _ _ 75 rfl B 5 i0 (.int .u8 0) 1 1 Tryd.underlying75 hi hz0 hz1 hz2 rfl (by decide) _ _ _ rfl (hown.alloc _) ⟨w.heap.size, 0, none⟩ 3 3 [.int .u8 (224 + r / 4096), .int .u8 (128 + r / 64 % 64), .int .u8 (128 + r % 64)] rfl rfl ?c1 ?c2 ?c3 ?c4 ?c5 ?_)
  case c1 =>
    intro j u hj
    match j, hj with
    | 0, hj => simp at hj; subst hj; simp [Addr.add]
    | 1, hj => simp at hj; subst hj; simp [Addr.add]
    | 2, hj => simp at hj; subst hj; simp [Addr.add]
    | (j + 3), hj => simp at hj
  case c2 => intro u hu; simp at hu; rcases hu with rfl | rfl | rfl <;> rfl
  case c3 => unfold maxLen; omega
  case c4 => omega
  case c5 => simp; omega
  intro v' w2 hown' hgrow _ hat
  go_wp2
  go_ret
  exact ⟨_, rfl, hown', ⟨_, hgrow⟩, hat.imp id (fun e => ⟨_, e, by simp⟩)⟩

set_option maxHeartbeats 4000000 in
theorem ar_high (B : Nat) (v : Value) (n : Nat) (xs : List Value) (r : Int) (h0 : 57343 < r) (h1 : r ≤ 65535) (w : World) (hown : w.ownsRow B 5 1 v n xs) (hlen : n + 4 ≤ 140737488355328) (hBw : B ≤ w.heap.size) :
    Calls Tryd.prog 76 #[v, .int .i32 r] w (ArO B v n xs [.int .u8 (224 + r / 4096), .int .u8 (128 + r / 64 % 64), .int .u8 (128 + r % 64)] w) := by
  obtain ⟨i0, hi, hz0, hz1, hz2⟩ := info_parts info_byteV
  go_enter Tryd.func76, Tryd.ntmps76
  go_wp2_with (at_builtin; refine wpList_append_own_at _ rfl _ _ 75 rfl B 5 i0 (.int .u8 0) 1 1 Tryd.underlying75 hi hz0 hz1 hz2 rfl (by decide) _ _ _ rfl (hown.alloc _) ⟨w.heap.size, 0, none⟩ 3 3 [.int .u8 (224 + r / 4096), .int .u8 (128 + r / 64 % 64), .int .u8 (128 + r % 64)] rfl rfl ?c1 ?c2 ?c3 ?c4 ?c5 ?_)
  case c1 =>
    intro j u hj
    match j, hj with
    | 0, hj => simp at hj; subst hj; simp [Addr.add]
    | 1, hj => simp at hj; subst hj; simp [Addr.add]
    | 2, hj => simp at hj; subst hj; simp [Addr.add]
    | (j + 3), hj => simp at hj
  case c2 => intro u hu; simp at hu; rcases hu with rfl | rfl | rfl <;> rfl
  case c3 => unfold maxLen; omega
  case c4 => omega
  case c5 => simp; omega
  intro v' w2 hown' hgrow _ hat
  go_wp2
  go_ret
  exact ⟨_, rfl, hown', ⟨_, hgrow⟩, hat.imp id (fun e => ⟨_, e, by simp⟩)⟩

set_option maxHeartbeats 4000000 in
theorem ar_four (B : Nat) (v : Value) (n : Nat) (xs : List Value) (r : Int) (h0 : 65536 ≤ r) (h1 : r ≤ 1114111) (w : World) (hown : w.ownsRow B 5 1 v n xs) (hlen : n + 4 ≤ 140737488355328) (hBw : B ≤ w.heap.size) :
    Calls Tryd.prog 76 #[v, .int .i32 r] w (ArO B v n xs [.int .u8 (240 + r / 262144), .int .u8 (128 + r / 4096 % 64), .int .u8 (128 + r / 64 % 64), .int .u8 (128 + r % 64)] w) := by
  obtain ⟨i0, hi, hz0, hz1, hz2⟩ := info_parts info_byteV
  go_enter Tryd.func76, Tryd.ntmps76
  go_wp2_with (at_builtin; refine wpList_append_own_at _ rfl _ _ 75 rfl B 5 i0 (.int .u8 0) 1 1 Tryd.underlying75 hi hz0 hz1 hz2 rfl (by decide) _ _ _ rfl (hown.alloc _) ⟨w.heap.size, 0, none⟩ 4 4 [.int .u8 (240 + r / 262144), .int .u8 (128 + r / 4096 % 64), .int .u8 (128 + r / 64 % 64), .int .u8 (128 + r % 64)] rfl rfl ?c1 ?c2 ?c3 ?c4 ?c5 ?_)
  case c1 =>
    intro j u hj
    match j, hj with
    | 0, hj => simp at hj; subst hj; simp [Addr.add]
    | 1, hj => simp at hj; subst hj; simp [Addr.add]
    | 2, hj => simp at hj; subst hj; simp [Addr.add]
    | 3, hj => simp at hj; subst hj; simp [Addr.add]
    | (j + 4), hj => simp at hj
  case c2 => intro u hu; simp at hu; rcases hu with rfl | rfl | rfl | rfl <;> rfl
  case c3 => unfold maxLen; omega
  case c4 => omega
  case c5 => simp; omega
  intro v' w2 hown' hgrow _ hat
  go_wp2
  go_ret
  exact ⟨_, rfl, hown', ⟨_, hgrow⟩, hat.imp id (fun e => ⟨_, e, by simp⟩)⟩

set_option maxHeartbeats 4000000 in
theorem ar_one (B : Nat) (v : Value) (n : Nat) (xs : List Value) (r : Int) (h0 : 0 ≤ r) (h1 : r ≤ 127) (w : World) (hown : w.ownsRow B 5 1 v n xs) (hlen : n + 4 ≤ 140737488355328) (hBw : B ≤ w.heap.size) :
    Calls Tryd.prog 60 #[v, .int .i32 r] w (ArO B v n xs [.int .u8 r] w) := by
  obtain ⟨i0, hi, hz0, hz1, hz2⟩ := info_parts info_byteV
  go_enter Tryd.func60, Tryd.ntmps60
  go_wp2_with (at_builtin; refine wpList_append_own_at _ rfl _ _ 75 rfl B 5 i0 (.int .u8 0) 1 1 Tryd.underlying75 hi hz0 hz1 hz2 rfl (by decide) _ _ _ rfl (hown.alloc _) ⟨w.heap.size, 0, none⟩ 1 1 [.int .u8 r] rfl rfl ?c1 ?c2 ?c3 ?c4 ?c5 ?_)
  case c1 =>
    intro j u hj
    match j, hj with
    | 0, hj => simp at hj; subst hj; simp [Addr.add]
    | (j + 1), hj => simp at hj
  case c2 => intro u hu; simp at hu; subst hu; rfl
  case c3 => unfold maxLen; omega
  case c4 => omega
  case c5 => simp; omega
  intro v' w2 hown' hgrow _ hat
  go_wp2
  go_ret
  exact ⟨_, rfl, hown', ⟨_, hgrow⟩, hat.imp id (fun e => ⟨_, e, by simp⟩)⟩

theorem rightC_is {c : Int} (h : rightC c = true) : 0 ≤ c ∧ c ≤ 1114111 ∧ (c < 55296 ∨ 57343 < c) := by
  unfold rightC at h
  simp at h
  omega
theorem ar_other (B : Nat) (v : Value) (n : Nat) (xs : List Value) (r : Int) (hc : rightC r = true) (h0 : 128 ≤ r) (w : World) (hown : w.ownsRow B 5 1 v n xs) (hlen : n + 4 ≤ 140737488355328) (hBw : B ≤ w.heap.size) :
    Calls Tryd.prog 76 #[v, .int .i32 r] w (ArO B v n xs (Lib.runeCells r) w) := by
  have hr := rightC_is hc
  by_cases c1 : r ≤ 2047
  · rw [show Lib.runeCells r = [.int .u8 (192 + r / 64), .int .u8 (128 + r % 64)] by simp [Lib.runeCells, Lib.encodeRuneZ_two (by omega) c1]]
    exact ar_two B v n xs r h0 c1 w hown hlen hBw
  by_cases c2 : r < 55296
  · rw [show Lib.runeCells r = [.int .u8 (224 + r / 4096), .int .u8 (128 + r / 64 % 64), .int .u8 (128 + r % 64)] by simp [Lib.runeCells, Lib.encodeRuneZ_three (Or.inl ⟨by omega, c2⟩)]]
    exact ar_low B v n xs r (by omega) c2 w hown hlen hBw
  by_cases c4 : r ≤ 65535
  · rw [show Lib.runeCells r = [.int .u8 (224 + r / 4096), .int .u8 (128 + r / 64 % 64), .int .u8 (128 + r % 64)] by simp [Lib.runeCells, Lib.encodeRuneZ_three (Or.inr ⟨by omega, c4⟩)]]
    exact ar_high B v n xs r (by omega) c4 w hown hlen hBw
  · rw [show Lib.runeCells r = [.int .u8 (240 + r / 262144), .int .u8 (128 + r / 4096 % 64), .int .u8 (128 + r / 64 % 64), .int .u8 (128 + r % 64)] by simp [Lib.runeCells, Lib.encodeRuneZ_four (by omega) hr.2.1]]
    exact ar_four B v n xs r (by omega) hr.2.1 w hown hlen hBw
set_option maxHeartbeats 2000000 in
theorem ar_any (B : Nat) (v : Value) (n : Nat) (xs : List Value) (r : Int) (hc : rightC r = true) (w : World) (hown : w.ownsRow B 5 1 v n xs) (hlen : n + 4 ≤ 140737488355328) (hBw : B ≤ w.heap.size) :
    Calls Tryd.prog 60 #[v, .int .i32 r] w (ArO B v n xs (Lib.runeCells r) w) := by
  have hr := rightC_is hc
  by_cases c : r ≤ 127
  · rw [show Lib.runeCells r = [.int .u8 r] by simp [Lib.runeCells, Lib.encodeRuneZ_one hr.1 c]]
    exact ar_one B v n xs r hr.1 c w hown hlen hBw
  · have HN := hid_of' (ar_other B v n xs r hc (by omega) w hown hlen hBw)
    obtain ⟨h1, h2, _⟩ := hr
    clear hown hc
    go_enter Tryd.func60, Tryd.ntmps60
    go_wp2_with (go_at_call 76; refine HN.out.mono ?_)
    rintro e w1 ⟨v', rfl, h3⟩
    go_wp2
    go_ret
    exact ⟨_, rfl, h3⟩

theorem grown_set (W : World) (b i : Nat) (v : Value) : W.grownBy (W.setCell ⟨b, i, none⟩ v) (some b) := ⟨rfl, rfl, rfl, by simp [World.setCell], fun k _ hk => Below.heap_setCell _ _ _ _ (fun e => hk (by simp [e]))⟩
/-- A Builder, with its slice. -/
def BuV (B b : Nat) (v : Value) (bs : List Value) (w : World) : Prop := B ≤ b ∧ (w.heap[b]? = some (.cells #[.pointer none, v] 77 (0, 0)) ∨ w.heap[b]? = some (.cells #[.pointer (some ⟨b, 0, none⟩), v] 77 (0, 0))) ∧ w.ownsRow B 5 1 v bs.length bs ∧ v.ownBlock ≠ some b
theorem BuV.bld {B b : Nat} {v : Value} {bs : List Value} {w : World} (h : BuV B b v bs w) : Lib.IsBuilder 77 5 B b bs w := by
  obtain ⟨h1, h2 | h2, h3, h4⟩ := h
  · exact .inl ⟨h1, v, h2, h3, h4⟩
  · exact .inr ⟨h1, v, h2, h3, h4⟩
theorem BuV.at {B b : Nat} {v : Value} {bs : List Value} {w : World} (h : BuV B b v bs w) : ∃ cs, w.heap[b]? = some (.cells cs 77 (0, 0)) := by
  obtain ⟨_, h2 | h2, _⟩ := h
  · exact ⟨_, h2⟩
  · exact ⟨_, h2⟩
theorem BuV.lt {B b : Nat} {v : Value} {bs : List Value} {w : World} (h : BuV B b v bs w) : b < w.heap.size := by
  obtain ⟨cs, h2⟩ := h.at
  exact (Array.getElem?_eq_some_iff.1 h2).1
theorem BuV.kept {B b : Nat} {v : Value} {bs : List Value} {w w' : World} {row : Option Nat} (h : BuV B b v bs w) (hg : w.grownBy w' row) (h1 : some b ≠ row) (h2 : row = none ∨ v.ownBlock ≠ row) : BuV B b v bs w' := by
  have hb := hg.block b h.lt h1
  replace h2 : v.ownBlock = none ∨ v.ownBlock ≠ row := by
    rcases h2 with rfl | h2
    · cases v.ownBlock with
      | none => exact .inl rfl
      | some k => exact .inr (by simp)
    · exact .inr h2
  obtain ⟨q1, q2, q3, q4⟩ := h
  exact ⟨q1, by rw [hb]; exact q2, q3.kept hg h2, q4⟩
theorem below_grownV {w w' : World} (h : Below w.heap.size w w') : w.grownBy w' none := ⟨h.os, h.tape, h.output, h.size, fun k hk _ => h.block k hk⟩
theorem BuV.later {B b : Nat} {v : Value} {bs : List Value} {w w' : World} (h : BuV B b v bs w) (hb : Below w.heap.size w w') : BuV B b v bs w' := h.kept (below_grownV hb) (by simp) (.inl rfl)
theorem buv_new (w : World) : BuV w.heap.size w.heap.size (.slice none 0 0) [] (w.alloc (.cells #[.pointer none, .slice none 0 0] 77)) :=
  ⟨Nat.le_refl _, .inl (heap_alloc_last w _), ⟨rfl, .inl ⟨rfl, rfl⟩⟩, by simp [Value.ownBlock]⟩
theorem copyCheck_at {B b : Nat} {v : Value} {bs : List Value} {w : World} (h : BuV B b v bs w) :
    Calls Tryd.prog 59 #[.pointer (some ⟨b, 0, none⟩)] w fun e w' => e = .returned (.tuple #[]) ∧ w'.heap[b]? = some (.cells #[.pointer (some ⟨b, 0, none⟩), v] 77 (0, 0)) ∧ w'.ownsRow B 5 1 v bs.length bs ∧ w.grownBy w' (some b) := by
  obtain ⟨h1, h2 | h2, h3, h4⟩ := h
  · have hB : Lib.BuilderAt 77 5 B b (.pointer none) bs w := ⟨h1, v, h2, h3, h4⟩
    refine (copyCheck_freshV b w hB.cell0 hB.shape hB.frozen0).mono ?_
    rintro e w' ⟨rfl, rfl⟩
    have hg : w.grownBy (w.setCell ⟨b, 0, none⟩ (.pointer (some ⟨b, 0, none⟩))) (some b) := grown_set w _ _ _
    exact ⟨rfl, by simp [World.setCell, Array.getElem?_modify, h2], h3.kept hg (.inr h4), hg⟩
  · have hB : Lib.BuilderAt 77 5 B b (.pointer (some ⟨b, 0, none⟩)) bs w := ⟨h1, v, h2, h3, h4⟩
    refine (copyCheck_usedV b w hB.cell0).mono ?_
    rintro e w' ⟨rfl, rfl⟩
    exact ⟨rfl, h2, h3, ⟨rfl, rfl, rfl, Nat.le_refl _, fun _ _ _ => rfl⟩⟩
/-- A rune was written. -/
def WrO (B b : Nat) (v : Value) (bs : List Value) (r : Int) (w : World) (e : Ending) (w' : World) : Prop := ∃ k v', e = .returned (.tuple #[.int .i64 k, .nilIface]) ∧ BuV B b v' (bs ++ Lib.runeCells r) w' ∧ (v'.ownBlock = v.ownBlock ∨ ∃ j, v'.ownBlock = some j ∧ w.heap.size ≤ j) ∧ Below B w w' ∧ ∀ k, k < w.heap.size → k ≠ b → some k ≠ v.ownBlock → w'.heap[k]? = w.heap[k]?
set_option maxHeartbeats 2000000 in
theorem wRune_at {B b : Nat} {v : Value} {bs : List Value} (r : Int) (hc : rightC r = true) {w : World} (h : BuV B b v bs w) (hlen : bs.length + 4 ≤ 140737488355328) (hBw : B ≤ w.heap.size) :
    Calls Tryd.prog 39 #[.pointer (some ⟨b, 0, none⟩), .int .i32 r] w (WrO B b v bs r w) := by
  have HC := hid_of' (copyCheck_at h)
  have hb0 := h.lt
  obtain ⟨hB, _, hown0, hne⟩ := h
  obtain ⟨ao, cap, rfl⟩ : ∃ ao cap, v = .slice ao bs.length cap := by
    rcases hown0.2 with ⟨hv, h0⟩ | ⟨g, cap, cur, hv, _⟩
    · exact ⟨none, 0, by rw [hv, h0]⟩
    · exact ⟨_, _, hv⟩
  go_enter Tryd.func39, Tryd.ntmps39
  go_wp2_with (go_at_call 59; refine HC.out.mono ?_; clear HC)
  rintro e w1 ⟨rfl, hbk, hown, hg1⟩
  have c0 : w1.cell? ⟨b, 0, none⟩ = some (.pointer (some ⟨b, 0, none⟩)) := by rw [Lib.cell_of_heap hbk]; rfl
  have c1 : w1.cell? ⟨b, 1, none⟩ = some (.slice ao bs.length cap) := by rw [Lib.cell_of_heap hbk]; rfl
  have hs1 := hg1.size
  have HA := hid_of' (ar_any B (.slice ao bs.length cap) bs.length bs r hc w1 hown hlen (by omega))
  go_wp2_with (go_at_call 60; refine HA.out.mono ?_)
  rintro e w2 ⟨v', rfl, hown', ⟨o, hgrow⟩, hat⟩
  have hlt : b < w1.heap.size := (Array.getElem?_eq_some_iff.1 hbk).1
  have hb2 : w2.heap[b]? = some (.cells #[.pointer (some ⟨b, 0, none⟩), .slice ao bs.length cap] 77 (0, 0)) := by
    rw [hgrow.block b (by simp; omega) (fun e => hne e.symm), Below.heap_alloc w1 _ b hlt]
    exact hbk
  have d1 : w2.cell? ⟨b, 1, none⟩ = some (.slice ao bs.length cap) := by rw [Lib.cell_of_heap hb2]; rfl
  have d0 : w2.cell? ⟨b, 0, none⟩ = some (.pointer (some ⟨b, 0, none⟩)) := by rw [Lib.cell_of_heap hb2]; rfl
  have f1 : w2.frozen? ⟨b, 1, none⟩ = false := Lib.frozen_of_heap hb2 1
  obtain ⟨va, vn, vc, rfl⟩ : ∃ a k c, v' = .slice a k c := by
    rcases hown'.2 with ⟨hv, _⟩ | ⟨g, cap, cur, hv, _⟩
    · exact ⟨_, _, _, hv⟩
    · exact ⟨_, _, _, hv⟩
  have hput := Lib.BuilderAt.put (T := 77) (e := 5) hB hb2 (bs' := bs ++ Lib.runeCells r) (by simpa using hown') (by decide)
  have hgs : w2.grownBy (w2.setCell ⟨b, 1, none⟩ (.slice va vn vc)) (some b) := grown_set w2 _ _ _
  have hne2 : (Value.slice va vn vc).ownBlock ≠ some b := Lib.ownBlock_ne hown' hb2 (by decide)
  have hbu : BuV B b (.slice va vn vc) (bs ++ Lib.runeCells r) (w2.setCell ⟨b, 1, none⟩ (.slice va vn vc)) :=
    ⟨hB, .inr (by simp [World.setCell, Array.getElem?_modify, hb2]), (by rw [List.length_append]; exact hown'.kept hgs (.inr hne2)), hne2⟩
  have hl1 := fun k hk => (hown.lt k hk).1
  have hbl : Below B w (w2.setCell ⟨b, 1, none⟩ (.slice va vn vc)) := (((((Below.refl B w).grown hg1 (by omega) (fun j e => by cases e; exact hB)).alloc (by omega) o).grown hgrow (by simp; omega) hl1).setCell (p := ⟨b, 1, none⟩) hB (.slice va vn vc))
  have hkk : ∀ k, k < w.heap.size → k ≠ b → some k ≠ (Value.slice ao bs.length cap).ownBlock → (w2.setCell ⟨b, 1, none⟩ (.slice va vn vc)).heap[k]? = w.heap[k]? := fun k hk h1 h2 => by
    rw [hgs.block k (by have := hgrow.size; simp at this; omega) (by simpa using h1), hgrow.block k (by simp; omega) h2, Below.heap_alloc w1 _ k (by omega), hg1.block k hk (by simpa using h1)]
  have hat2 : (Value.slice va vn vc).ownBlock = (Value.slice ao bs.length cap).ownBlock ∨ ∃ j, (Value.slice va vn vc).ownBlock = some j ∧ w.heap.size ≤ j := hat.imp id (fun ⟨k, e1, e2⟩ => ⟨k, e1, by omega⟩)
  clear hput hown' hgs hat HA
  go_wp2
  go_ret2
  exact ⟨_, _, rfl, hbu, hat2, hbl, hkk⟩

theorem grown_freeze (w : World) (g n : Nat) : w.grownBy (w.drew.freeze ⟨g, 0, none⟩ n) (some g) := by
  have h := Lib.below_freeze (Below.drew (Below.refl 0 w)) (p := ⟨g, 0, none⟩) (Nat.zero_le _) n
  refine ⟨h.os, h.tape, h.output, h.size, fun k hk hne => ?_⟩
  have hk' : k ≠ g := fun e => hne (by rw [e])
  show (w.drew.freeze ⟨g, 0, none⟩ n).heap[k]? = w.drew.heap[k]?
  unfold World.freeze
  split
  · rfl
  · simp only [Array.getElem?_modify]
    rw [if_neg (fun e => hk' e.symm)]
set_option maxHeartbeats 2000000 in
theorem string_full {B b : Nat} {v : Value} {l : List UInt8} {w : World} (h : BuV B b v (Lib.byteCells l) w) (h0 : l ≠ []) :
    Calls Tryd.prog 40 #[.pointer (some ⟨b, 0, none⟩)] w fun e w' => e = .returned (.string ⟨l.toArray⟩) ∧ ∃ g, v.ownBlock = some g ∧ w.grownBy w' (some g) := by
  obtain ⟨p, hbk⟩ : ∃ p, w.heap[b]? = some (.cells #[p, v] 77 (0, 0)) := by
    obtain ⟨_, h2 | h2, _⟩ := h
    · exact ⟨_, h2⟩
    · exact ⟨_, h2⟩
  obtain ⟨_, _, hown, _⟩ := h
  have hl0 : l.length ≠ 0 := by simpa using h0
  rw [Lib.byteCells_length] at hown
  obtain ⟨g, cap, cur, rfl, hg, hnc, hcm, hcs⟩ : ∃ g cap cur, v = .slice (some ⟨g, 0, none⟩) l.length cap ∧ w.heap[g]? = some (.cells cur 5 (0, 0)) ∧ l.length ≤ cap ∧ cap ≤ maxLen ∧ cur.size = cap * 1 := by
    rcases hown.2 with ⟨_, hz⟩ | ⟨g, cap, cur, q1, _, q2, q3, q4, q5, _⟩
    · exact absurd hz hl0
    · exact ⟨g, cap, cur, q1, q2, q3, q4, q5⟩
  have c1 : w.drew.cell? ⟨b, 1, none⟩ = some (.slice (some ⟨g, 0, none⟩) l.length cap) := by
    have hb' : w.drew.heap[b]? = some (.cells #[p, .slice (some ⟨g, 0, none⟩) l.length cap] 77 (0, 0)) := hbk
    rw [Lib.cell_of_heap hb']; rfl
  have hg' : w.drew.heap[g]? = some (.cells cur 5 (0, 0)) := hg
  have hSD : (Builtin.unsafeSliceData_ #[75] 105 #[.slice (some ⟨g, 0, none⟩) l.length cap]).run Tryd.prog w.drew = .ok (.pointer (some ⟨g, 0, none⟩)) w.drew := Lib.run_unsafeSliceData_row _ _ _ _ _ _ (by omega)
  have hUS : (Builtin.unsafeString_ #[105, 3] 9 #[.pointer (some ⟨g, 0, none⟩), .int .i64 l.length]).run Tryd.prog w.drew = .ok (.string ⟨l.toArray⟩) (w.drew.freeze ⟨g, 0, none⟩ l.length) := by
    refine Lib.run_unsafeString_row w.drew _ _ _ 5 Tryd.underlying105 (by kernel_rfl) g cur.size (by simp [World.shape?, hg']) l h0 (by omega) (by unfold maxLen at hcm; omega) fun j x hx => ?_
    exact hown.cells (g := g) rfl j (.int .u8 x.toNat) (by simp [Lib.byteCells, hx])
  have hgr := grown_freeze w g l.length
  have mixed : Tryd.prog.follows .mixedOrders = true := by kernel_rfl
  clear hown hcs hcm hnc hl0
  go_enter Tryd.func40, Tryd.ntmps40
  go_wp2
  go_region_o
  all_goals (go_wp2; go_ret; exact ⟨rfl, g, rfl, hgr⟩)
set_option maxHeartbeats 2000000 in
theorem string_nil {B b : Nat} {w : World} (h : BuV B b (.slice none 0 0) [] w) :
    Calls Tryd.prog 40 #[.pointer (some ⟨b, 0, none⟩)] w fun e w' => e = .returned (.string ⟨#[]⟩) ∧ w.grownBy w' none := by
  obtain ⟨p, hbk⟩ : ∃ p, w.heap[b]? = some (.cells #[p, .slice none 0 0] 77 (0, 0)) := by
    obtain ⟨_, h2 | h2, _⟩ := h
    · exact ⟨_, h2⟩
    · exact ⟨_, h2⟩
  have c1 : w.drew.cell? ⟨b, 1, none⟩ = some (.slice none 0 0) := by
    have hb' : w.drew.heap[b]? = some (.cells #[p, .slice none 0 0] 77 (0, 0)) := hbk
    rw [Lib.cell_of_heap hb']; rfl
  have hSD : (Builtin.unsafeSliceData_ #[75] 105 #[.slice none 0 0]).run Tryd.prog w.drew = .ok (.pointer none) w.drew := rfl
  have hUS : ∀ (W : World) (q : Option Addr), (Builtin.unsafeString_ #[105, 3] 9 #[.pointer q, .int .i64 0]).run Tryd.prog W = .ok (.string .empty) W := fun W q => Lib.run_unsafeString_none W _ _ _ q
  have mixed : Tryd.prog.follows .mixedOrders = true := by kernel_rfl
  clear h
  go_enter Tryd.func40, Tryd.ntmps40
  go_wp2
  go_region_o
  all_goals (go_wp2; go_ret; exact ⟨rfl, ⟨rfl, rfl, rfl, Nat.le_refl _, fun _ _ _ => rfl⟩⟩)
end Go.Proofs.YtdafkakigigdeaaDoor
namespace Go.Proofs.YtdafkakigigdeaaDoor
open Go.RowKit Go.Shelf
set_option maxRecDepth 100000
attribute [local go_sem] Oper.semAt_some

/-- A Builder that holds what is seen of a row, beside blocks of an iterator. -/
def ViI (w : World) (pre : List El) (O : Nat → Prop) (A : World) : Prop := ∃ v, BuV w.heap.size w.heap.size v (Lib.byteCells (encL (vis pre))) A ∧ (∀ r, O r → r ≠ w.heap.size ∧ v.ownBlock ≠ some r) ∧ (vis pre = [] → v = .slice none 0 0) ∧ Below w.heap.size w A
theorem BuV.cellsB {B b : Nat} {v : Value} {bs : List Value} {w : World} (h : BuV B b v bs w) {r : Nat} {o : Obj} (hr : w.heap[r]? = some o) (ho : o.isCells = false) : r ≠ b ∧ v.ownBlock ≠ some r := by
  refine ⟨fun e => ?_, fun e => ?_⟩
  · obtain ⟨cs, h1⟩ := h.at
    rw [e, h1] at hr
    cases hr
    cases ho
  · obtain ⟨_, _, q3, _⟩ := h
    rcases q3.2 with ⟨rfl, _⟩ | ⟨g, cap, cur, rfl, _, q5, _⟩
    · cases e
    · have e2 : g = r := by simpa [Value.ownBlock] using e
      subst e2
      rw [q5] at hr
      cases hr
      cases ho
theorem vis_snoc_hid {pre : List El} {x : El} (h : x.hd > 0) : vis (pre ++ [x]) = vis pre := by rw [vis_app, vis_hid _ h]; simp [vis]
theorem vis_snoc_live {pre : List El} {x : El} (h : ¬ x.hd > 0) : vis (pre ++ [x]) = vis pre ++ [x.ch] := by rw [vis_app, vis_live _ h]; rfl
theorem vis_leV : ∀ l : List El, (vis l).length ≤ l.length
  | [] => Nat.le_refl _
  | e :: l => by
    have := vis_leV l
    by_cases h : e.hd > 0
    · rw [vis_hid _ h, List.length_cons]; omega
    · rw [vis_live _ h, List.length_cons, List.length_cons]; omega
theorem byteCells_app (a b : List UInt8) : Lib.byteCells (a ++ b) = Lib.byteCells a ++ Lib.byteCells b := by simp [Lib.byteCells]
theorem enc_nil {v : List Int} (h : encL v = []) : v = [] := by
  cases v with
  | nil => rfl
  | cons c v =>
    have h1 : encL (c :: v) = Lib.encodeRune c ++ encL v := by simp [encL]
    rw [h1] at h
    have h2 := (List.append_eq_nil_iff.1 h).1
    have h3 := (Lib.runeCells_le c).1
    rw [Lib.runeCells_length, h2] at h3
    simp at h3
theorem string_any {B b : Nat} {v : Value} {l : List Int} {w : World} (h : BuV B b v (Lib.byteCells (encL l)) w) (hz : l = [] → v = .slice none 0 0) :
    Calls Tryd.prog 40 #[.pointer (some ⟨b, 0, none⟩)] w fun e w' => e = .returned (.string ⟨(encL l).toArray⟩) ∧ ∃ row, (row = none ∨ row = v.ownBlock) ∧ w.grownBy w' row := by
  by_cases q : l = []
  · obtain rfl := hz q
    subst q
    exact (string_nil h).mono fun _ _ ⟨h1, h2⟩ => ⟨h1, none, .inl rfl, h2⟩
  · exact (string_full h (fun e => q (enc_nil e))).mono fun _ _ ⟨h1, g, h2, h3⟩ => ⟨h1, some g, .inr h2.symm, h3⟩
theorem byteCells_lenV (a : List UInt8) : (Lib.byteCells a).length = a.length := by simp [Lib.byteCells]

set_option maxHeartbeats 4000000 in
theorem view_ok {mb : Nat} {l : List El} {w : World} (h : MvAt mb l w) (hl : l.length ≤ 1048576) (hc : ∀ e ∈ l, rightC e.ch = true) :
    Calls Tryd.prog 21 #[pv mb] w fun r w' => r = .returned (.string ⟨(encL (vis l)).toArray⟩) ∧ Below w.heap.size w w' := by
  obtain ⟨tb, v0, R, hr, ht⟩ := h
  obtain ⟨t, hroot, htb, hA, hels⟩ := ht.root
  have hmb := hr.lt
  have hm0 : w.cell? ⟨mb, 0, none⟩ = some (.pointer (some ⟨tb, 0, none⟩)) := hr.cell 0
  refine calls_out (n := 9) fun F hF => ?_
  have hdd : ∀ k : Nat, (F.depth.isSome = true → 1 ≤ k) := fun k h => by rw [depth_wide hF] at h; cases h
  have k1 : F.fn 21 := fn_wide hF _
  have k2 : F.fn 37 := fn_wide hF _
  have k3 : F.fn 57 := fn_wide hF _
  have k4 : F.fn 38 := fn_wide hF _
  have k5 : F.fn 39 := fn_wide hF _
  have k6 : F.fn 40 := fn_wide hF _
  have hro := round_wide hF
  have HAl := hid_of' (fun w' => modelAll_in hF 8 (some ⟨mb, 0, none⟩) w')
  have HS := hid_of' (fun (Bm : Nat) (X : World) (hX : Below w.heap.size w X) (hBm : Bm < X.heap.size) (hc : X.cell? ⟨Bm, 0, none⟩ = some (.pointer (some ⟨mb, 0, none⟩))) =>
    mall_it hF 8 (by omega) Bm mb tb (R := R) (S := fun _ => False) t w X hX hBm (Nat.lt_of_lt_of_le hmb hX.size) (Nat.lt_of_lt_of_le htb hX.size) hc ((hX.cell (p := ⟨mb, 0, none⟩) hmb).trans hm0) ((hX.cell (p := ⟨tb, 1, none⟩) htb).trans hroot) hA (fun _ h => h.elim) (by rw [hels]; exact hl))
  have HI := hid_of' (fun (l' : Nat) (e : El) (x : World) => CallsIn.inRound l' (calls_in (n := 6) hF (isLive_any e x)))
  have HW := hid_of' (fun (l' : Nat) (x : World) (v : Value) (bs : List Value) (c : Int) (hc : rightC c = true) (hb : BuV w.heap.size w.heap.size v bs x) (h1 : bs.length + 4 ≤ 140737488355328) (h2 : w.heap.size ≤ x.heap.size) => CallsIn.inRound l' (calls_in (n := 6) hF (wRune_at c hc hb h1 h2)))
  have HG := hid_of' (fun (x : World) (v : Value) (hb : BuV w.heap.size w.heap.size v (Lib.byteCells (encL (vis l))) x) (hz : vis l = [] → v = .slice none 0 0) => calls_in (n := 8) hF (string_any hb hz))
  unfold pv
  clear hF hr ht hm0 hroot
  refine callsIn_of_wp_marks Tryd.func21 rfl k1 ?_ hro
  simp only [Tryd.ntmps21, List.size_toArray, List.length_cons, List.length_nil, Nat.reduceAdd, Nat.reduceSub, Array.replicate_succ, Array.replicate_zero, List.push_toArray, List.append_toArray, List.nil_append, List.cons_append]
  gi_wp2_with ((try refine ⟨hdd _, ?_⟩); gi_at_call 37; refine (HAl.out _).mono ?_; clear HAl; rintro e w' ⟨rfl, rfl⟩)
  have x0 := (buv_new w).later (below_one _ (.cells #[.pointer (some ⟨mb, 0, none⟩)] 45))
  have x1 := Boxed.new (w.alloc (.cells #[.pointer none, .slice none 0 0] 77)) 45 (.pointer (some ⟨mb, 0, none⟩))
  rw [World.size_alloc] at x1
  have hBX := below_two w (.cells #[.pointer none, .slice none 0 0] 77) (.cells #[.pointer (some ⟨mb, 0, none⟩)] 45)
  have hsz : ((w.alloc (.cells #[.pointer none, .slice none 0 0] 77)).alloc (.cells #[.pointer (some ⟨mb, 0, none⟩)] 45)).heap.size = w.heap.size + 2 := by simp
  generalize (w.alloc (.cells #[.pointer none, .slice none 0 0] 77)).alloc (.cells #[.pointer (some ⟨mb, 0, none⟩)] 45) = X at x0 x1 hBX hsz ⊢
  refine wpIn_rangeFunc_itA hro (by omega) (gf := 57) (lb := #[.pointer (some ⟨w.heap.size + 1, 0, none⟩)]) rfl k3 (enters_of Tryd.func57 (by kernel_rfl) rfl)
    (HS.out (w.heap.size + 1) X hBX (by omega) x1.cell) (fun h k g => k (h g)) (fun A A' hg g => g.grown hg (fun _ e => by cases e)) (fun A l' o o' _ hl hcc g => g.grown (grownBy_putObj' A l' o') (fun r e => by cases e; exact .inr (.inr ⟨o, hl, hcc⟩))) (Below.refl _ _) (fun _ => rfl)
    (ViI w) (fun _ _ _ => False) ?bears ?hIx ?h0
    (fun x b => { tmps := #[.pointer (some ⟨mb, 0, none⟩), undef, .string ⟨#[]⟩, .pointer (some ⟨w.heap.size, 0, none⟩), .pointer (some ⟨b, 0, none⟩), .pointer (some ⟨mb, 0, none⟩), .func (.func 57) #[] #[.pointer (some ⟨w.heap.size + 1, 0, none⟩)], .agg (ev x), undef, undef, undef, undef, undef, undef], defers := [] }) (fun x => .cells (ev x) 57)
    (fun x A => (A.alloc (.cells #[.int .i64 0, .int .i64 0, .int .i64 0, .int .i32 0, .int .i64 0] 57)).setRow A.heap.size (ev x)) ?ax ?assign ?body ?done ?stop
  case bears =>
    rintro pre O O' A A' row ⟨v, hb, ho, hnv, hB⟩ hg hr hO
    have hrow : ∀ r, row = some r → r ≠ w.heap.size ∧ v.ownBlock ≠ some r := fun r e => by
      rcases (hr r e).2 with h1 | ⟨o, h1, h2⟩
      · exact ho r h1
      · exact hb.cellsB h1 h2
    refine ⟨v, hb.kept hg (fun e => (hrow _ e.symm).1 rfl) ?_, fun r hr' => ?_, hnv, hB.grown hg hB.size (fun j e => ?_)⟩
    · cases row with
      | none => exact .inl rfl
      | some r => exact .inr (hrow r rfl).2
    · rcases hO r hr' with h1 | ⟨h1, _⟩
      · exact ho r h1
      · refine ⟨fun e => ?_, fun e => ?_⟩
        · have := hb.lt; omega
        · have := (hb.2.2.1.lt r e).2; omega
    · have := (hr j e).1
      rw [hsz] at this
      omega
  case hIx =>
    intro c pre A A' row h
    exact h.elim
  case h0 => exact ⟨_, x0, fun _ h => h.elim, fun _ => rfl, hBX⟩
  case ax =>
    intro x A
    exact ⟨grown_alloc_row, by simp, (row_new A #[.int .i64 0, .int .i64 0, .int .i64 0, .int .i32 0, .int .i64 0] 57).put (ev x)⟩
  case assign =>
    intro l' x W' K hK
    gi_wp2_with (refine wpLIn_storeE (e := x) rfl _ _ rfl rfl rfl (row_new W' _ _) ?_)
    exact hK
  case body =>
    rintro l' pre x O A b ⟨v, hbu, hov, hnv, hB⟩ hpre hO hb2 hb3 hbb
    have hmem : x ∈ l := by
      rw [← hels]
      exact hpre.subset (by simp)
    have hplen : pre.length < l.length := by
      have := hpre.length_le
      rw [hels, List.length_append, List.length_singleton] at this
      exact this
    have rE : RowAt b (ev x) 57 A := hbb
    by_cases hlv : x.hd > 0
    · have HI2 : Hid (∀ y, CallsIn (F.inRound l') 6 Tryd.prog 38 #[.agg (ev x)] y fun r w' => r = .returned (.bool false) ∧ Below y.heap.size y w') := fun y => by
        have := HI.out l' x y
        rw [show decide (x.hd ≤ 0) = false by simp; omega] at this
        exact this
      gi_wp2_with (first | (refine wpLIn_loadE rfl _ rfl rfl rE.in ?_) | ((try refine ⟨hdd _, ?_⟩); gi_at_call 38; refine (HI2.out _).mono ?_; rintro e w2 ⟨rfl, hb4⟩))
      have hBw := bgo hB hb4
      refine ⟨(KeepsFrom.of_grownBy (below_grownV hb4) (fun _ e => by cases e)), fun r hr => ?_, fun _ => KC.of_below hBw, v, ?_, hov, (by rw [vis_snoc_hid (by omega)]; exact hnv), hBw⟩
      · exact hb4.block r (by have := hO r hr; omega)
      · rw [vis_snoc_hid (by omega)]; exact hbu.later hb4
    · have HI2 : Hid (∀ y, CallsIn (F.inRound l') 6 Tryd.prog 38 #[.agg (ev x)] y fun r w' => r = .returned (.bool true) ∧ Below y.heap.size y w') := fun y => by
        have := HI.out l' x y
        rw [show decide (x.hd ≤ 0) = true by simp; omega] at this
        exact this
      have hvl := vis_leV pre
      have hel := encL_le (vis pre)
      have hbl : (Lib.byteCells (encL (vis pre))).length + 4 ≤ 140737488355328 := by rw [byteCells_lenV]; omega
      gi_wp2_with (first | (refine wpLIn_loadE rfl _ rfl rfl rE.in ?_) | ((try refine ⟨hdd _, ?_⟩); gi_at_call 38; refine (HI2.out _).mono ?_; rintro e w2 ⟨rfl, hb4⟩; have c3 : w2.cell? ⟨b, 3, none⟩ = some (.int .i32 x.ch) := (rE.later hb4).cell 3) | ((try refine ⟨hdd _, ?_⟩); gi_at_call 39; refine (HW.out l' _ v _ x.ch (hc x hmem) (hbu.later hb4) hbl (Nat.le_trans hB.size hb4.size)).mono ?_; rintro e w3 ⟨kk, v', rfl, hbu3, hat3, hb5, hkp3⟩))
      have hBw := bgo hB hb4
      have hBx : Below w.heap.size w w3 := hBw.trans hb5
      have hs4 := hb4.size
      refine ⟨(KeepsFrom.of_grownBy (below_grownV hb4) (fun _ e => by cases e)).trans ⟨hb5.size, fun k o _ hk ho => ?_⟩, fun r hr => ?_, fun _ => KC.of_below hBx, v', ?_, fun r hr => ?_, (fun e => by rw [vis_snoc_live (by omega)] at e; simp at e), hBx⟩
      · have hz := (hbu.later hb4).cellsB hk ho
        rw [hkp3 k (Array.getElem?_eq_some_iff.1 hk).1 hz.1 (fun e => hz.2 e.symm)]
        exact hk
      · have hz := hov r hr
        have hy := hO r hr
        rw [hkp3 r (by omega) hz.1 (fun e => hz.2 e.symm)]
        exact hb4.block r (by omega)
      · rw [vis_snoc_live (by omega), encL_app, encL_one, byteCells_app, Lib.byteCells_encodeRune]
        exact hbu3
      · have hz := hov r hr
        have hy := hO r hr
        refine ⟨hz.1, fun e => ?_⟩
        rcases hat3 with h1 | ⟨j, h1, h2⟩
        · exact hz.2 (h1.symm.trans e)
        · have : j = r := by simpa using h1.symm.trans e
          omega
  case done =>
    rintro D O W2 hD ⟨v, hbu, _, hnv, hB⟩ hK
    rw [hels] at hbu hnv
    have hDv := hbu.cellsB hK rfl
    gi_wp2_with ((try refine ⟨hdd _, ?_⟩); gi_at_call 40; refine (HG.out _ _ hbu hnv).mono ?_; rintro e w3 ⟨rfl, row, hrow, hgr⟩)
    have hK3 : w3.heap[D]? = some (.deferred (some [])) := by
      rw [hgr.block D (Array.getElem?_eq_some_iff.1 hK).1 (fun e => ?_)]
      · exact hK
      · rcases hrow with h1 | h1
        · rw [h1] at e; cases e
        · exact hDv.2 (h1.symm.trans e.symm)
    have hB3 : Below w.heap.size w w3 := hB.grown hgr hB.size (fun j e => by
      rcases hrow with h1 | h1
      · rw [h1] at e; cases e
      · exact (hbu.2.2.1.lt j (h1.symm.trans e)).1)
    refine ⟨by simp, .inl ⟨_, _, rfl, run_takeDeferred hK3, ?_⟩⟩
    exact ⟨_, results_tmp rfl _ _ _, rfl, hB3.grown (grownBy_putObj' w3 D _) hB3.size (fun j e => by cases e; omega)⟩
  case stop =>
    rintro D c pre W _ _ h _
    exact h.elim
end Go.Proofs.YtdafkakigigdeaaDoor
namespace Go.Proofs.YtdafkakigigdeaaDoor
open Go.RowKit
set_option maxRecDepth 100000

section
variable {P : Program} {Q : Exit → Act → World → Prop}

/-- How many of the changes are surely done, and how many can be, when an operation comes up. -/
def loB (ops : Array Oper) (cs : List Nat) (i : Nat) : Nat := cs.countP fun c => ancB ops 24 c i
def hiB (ops : Array Oper) (cs : List Nat) (i : Nat) : Nat := cs.countP fun c => !(c == i) && !(ancB ops 24 i c)
/-- What holds while the head comes up. -/
structure HeadS (l : List Oper) (n : Nat) (a : Act) (R : Nat → Value → World → Prop) (F : Nat → Bool) (cs : List Nat) (G : Nat → World → Prop) (listed : Array Bool) (vals : Nat → Value) (b : Act) (x : World) : Prop where
  grow : G (cs.countP fun c => listed.getD c false) x
  size : b.tmps.size = a.tmps.size
  defers : b.defers = a.defers
  slots : ∀ (j : Nat) (oj : Oper) (d : Tmp), l[j]? = some oj → oj.dst = some d → listed.getD j false = true → b.tmps[d]? = some (vals j)
  others : ∀ d : Tmp, (∀ (j : Nat) (oj : Oper), j < n → l[j]? = some oj → oj.dst ≠ some d) → b.tmps[d]? = a.tmps[d]?
  rel : ∀ j, j < n → listed.getD j false = true → R j (vals j) x
  fresh : ∀ j, j < n → F j = true → listed.getD j false = true → ∃ g, vals j = .pointer (some ⟨g, 0, none⟩) ∧ g < x.heap.size
  apart : ∀ i j, i < n → j < n → i ≠ j → F i = true → F j = true → listed.getD i false = true → listed.getD j false = true → vals i ≠ vals j
  down : ∀ (k : Nat) (ok : Oper), l.toArray[k]? = some ok → listed.getD k false = true → ∀ e ∈ ok.after, Region.binds .any e = true → listed.getD e.on false = true
/-- What an operation of the head leaves. -/
def CameS (cs : List Nat) (k : Nat) (G : Nat → World → Prop) (Gc : World → World → Prop) (R : Nat → Value → World → Prop) (F : Nat → Bool) (i : Nat) (dst : Option Tmp) (b : Act) (x : World) (b' : Act) (x' : World) : Prop :=
  ∃ v, b' = b.put dst v ∧ (i ∉ cs → Below x.heap.size x x') ∧ (i ∈ cs → Gc x x' ∧ G (k + 1) x' ∧ x.heap.size ≤ x'.heap.size) ∧ R i v x' ∧ (F i = true → ∃ g, v = .pointer (some ⟨g, 0, none⟩) ∧ x.heap.size ≤ g ∧ g < x'.heap.size)
theorem cameSB {cs : List Nat} {k : Nat} {G : Nat → World → Prop} {Gc : World → World → Prop} {R : Nat → Value → World → Prop} {F : Nat → Bool} {i : Nat} {dst : Option Tmp} {b : Act} {x : World} {b' : Act} {x' : World} (v : Value) (h1 : b' = b.put dst v) (h0 : i ∉ cs) (h2 : Below x.heap.size x x') (h3 : R i v x') (h4 : F i = true → ∃ g, v = .pointer (some ⟨g, 0, none⟩) ∧ x.heap.size ≤ g ∧ g < x'.heap.size) : CameS cs k G Gc R F i dst b x b' x' := ⟨v, h1, fun _ => h2, fun e => absurd e h0, h3, h4⟩
theorem cameSX {cs : List Nat} {k : Nat} {G : Nat → World → Prop} {Gc : World → World → Prop} {R : Nat → Value → World → Prop} {F : Nat → Bool} {i : Nat} {dst : Option Tmp} {b : Act} {x : World} {b' : Act} {x' : World} (v : Value) (h1 : b' = b.put dst v) (h0 : i ∈ cs) (h2 : Gc x x' ∧ G (k + 1) x' ∧ x.heap.size ≤ x'.heap.size) (h3 : R i v x') (h4 : F i = false) : CameS cs k G Gc R F i dst b x b' x' := ⟨v, h1, fun e => absurd h0 e, fun _ => h2, h3, fun e => by rw [h4] at e; cases e⟩
theorem count_up {listed listed' : Array Bool} {i : Nat} (hs : ∀ j, listed'.getD j false = if j = i then true else listed.getD j false) (hu : listed.getD i false = false) : ∀ {cs : List Nat}, cs.Nodup → (cs.countP fun c => listed'.getD c false) = (cs.countP fun c => listed.getD c false) + if i ∈ cs then 1 else 0
  | [], _ => by simp
  | c :: cs, h => by
    obtain ⟨h1, h2⟩ := List.nodup_cons.1 h
    have ih := count_up hs hu h2
    rw [List.countP_cons, List.countP_cons, ih, hs c]
    by_cases e : c = i
    · subst e
      rw [if_neg h1, if_pos rfl, hu]
      simp
    · rw [if_neg e]
      have e2 : (i ∈ c :: cs) ↔ i ∈ cs := by rw [List.mem_cons]; exact ⟨fun q => q.resolve_left (fun q => e q.symm), .inr⟩
      simp only [e2]
      omega
theorem count_all {listed : Array Bool} {cs : List Nat} (h : ∀ c ∈ cs, listed.getD c false = true) : (cs.countP fun c => listed.getD c false) = cs.length := List.countP_eq_length.2 h
theorem count_none {listed : Array Bool} {cs : List Nat} (h : ∀ c, listed.getD c false = false) : (cs.countP fun c => listed.getD c false) = 0 := List.countP_eq_zero.2 fun c _ => by rw [h c]; decide
theorem lo_le {ops : Array Oper} {listed : Array Bool} {cs : List Nat} {i : Nat} {o : Oper} (down : ∀ (k : Nat) (ok : Oper), ops[k]? = some ok → listed.getD k false = true → ∀ e ∈ ok.after, Region.binds .any e = true → listed.getD e.on false = true) (ho : ops[i]? = some o) (hall : ∀ e ∈ o.after, Region.binds .any e = true → listed.getD e.on false = true) : loB ops cs i ≤ cs.countP fun c => listed.getD c false :=
  List.countP_mono_left fun c _ h => anc_listed down 24 c i o ho hall h
theorem hi_ge {ops : Array Oper} {listed : Array Bool} {cs : List Nat} {i : Nat} (down : ∀ (k : Nat) (ok : Oper), ops[k]? = some ok → listed.getD k false = true → ∀ e ∈ ok.after, Region.binds .any e = true → listed.getD e.on false = true) (hu : listed.getD i false = false) : (cs.countP fun c => listed.getD c false) ≤ hiB ops cs i :=
  List.countP_mono_left fun c _ h => by
    have h1 : ¬ c = i := fun e => by rw [e, hu] at h; cases h
    have h2 : ancB ops 24 i c = false := by
      cases q : ancB ops 24 i c with
      | false => rfl
      | true =>
        cases ho : ops[c]? with
        | none => simp [ancB, ho] at q
        | some oc =>
          have := anc_listed down 24 i c oc ho (fun e he hb => down c oc ho h e he hb) q
          rw [hu] at this
          cases this
    simp [h1, h2]

theorem wp_region_seq {id : Nat} {a : Act} {X : World} {l : List Oper} (n : Nat) (hm : P.follows .mixedOrders = true) (gv : Nat → Option Bool) (hok : regOkG l.toArray a.tmps.size gv = true) (ht : tailB l.toArray n = true) (hn : n ≤ l.length)
    (R : Nat → Value → World → Prop) (F : Nat → Bool) (hgv : ∀ j v x b, gv j = some b → R j v x → v = .bool b) (cs : List Nat) (hcs : ∀ c ∈ cs, c < n) (hnd : cs.Nodup) (G : Nat → World → Prop) (Gc : World → World → Prop) (hGB : ∀ k x x', G k x → Below x.heap.size x x' → G k x') (hG0 : ∀ x, Below X.heap.size X x → G 0 x)
    (stable : ∀ i v x x', R i v x → Below x.heap.size x x' → R i v x') (stableC : ∀ i v x x', R i v x → Gc x x' → R i v x')
    (step : ∀ (i : Nat) (o : Oper), i < n → l[i]? = some o → ∀ (b : Act) (x : World) (vals : Nat → Value) (k : Nat), G k x → loB l.toArray cs i ≤ k → k ≤ hiB l.toArray cs i →
      (∀ (e : Edge), e ∈ o.after → Region.binds .any e = true → ∀ (oj : Oper) (d : Tmp), l[e.on]? = some oj → oj.dst = some d → b.tmps[d]? = some (vals e.on) ∧ R e.on (vals e.on) x) →
      (∀ d : Tmp, writesB l.toArray d = false → b.tmps[d]? = a.tmps[d]?) →
      o.wp P b x (CameS cs k G Gc R F i o.dst b x) Q)
    (rest : ∀ (vals : Nat → Value) (x : World), G cs.length x → (∀ j, j < n → R j (vals j) x) → (∀ i j, i < n → j < n → i ≠ j → F i = true → F j = true → vals i ≠ vals j) →
      wpList P l.toArray Q (l.drop n) ⟨putAll vals (l.take n) 0 a.tmps, a.defers⟩ x) :
    (Code.region id l.toArray true).wp P Q a X := by
  have hsz : l.toArray.size = l.length := by simp
  refine wp_region_any hm (wpAny_inv (fun listed b x => listed.size = l.length ∧ ((∃ vals, (∀ k, n ≤ k → k < l.length → listed.getD k false = false) ∧ HeadS l n a R F cs G listed vals b x) ∨ (∃ m, n ≤ m ∧ m ≤ l.length ∧ (∀ j, j < m → listed.getD j false = true) ∧ (∀ j, m ≤ j → j < l.length → listed.getD j false = false) ∧ wpList P l.toArray Q (l.drop m) b x))) ?_ ?_ _ _ _ _ (by rw [left_start]; exact Nat.le_refl _) ?_)
  · rintro listed b x i ⟨hs, hI⟩ hi
    obtain ⟨hun, o, ho, hall⟩ := mem_ready.1 hi
    have hol : l[i]? = some o := by simpa using ho
    have hil : i < l.length := (List.getElem?_eq_some_iff.1 hol).1
    have hun' : listed.getD i false = false := by
      have hx : i < listed.size := by omega
      simpa [hx] using hun
    have set_at : ∀ j, (listed.setIfInBounds i true).getD j false = if j = i then true else listed.getD j false := fun j => by
      by_cases e : j = i
      · subst e; rw [if_pos rfl]; have hx : j < listed.size := by omega
        simp [hx]
      · rw [if_neg e, getD_set_ne false (fun h => e h.symm)]
    have go_tail : ∀ m, n ≤ m → m ≤ l.length → (∀ j, j < m → listed.getD j false = true) → (∀ j, m ≤ j → j < l.length → listed.getD j false = false) → n ≤ i → wpList P l.toArray Q (l.drop m) b x →
        wpOp P l.toArray Q i (fun b' x' => (listed.setIfInBounds i true).size = l.length ∧ ((∃ vals, (∀ k, n ≤ k → k < l.length → (listed.setIfInBounds i true).getD k false = false) ∧ HeadS l n a R F cs G (listed.setIfInBounds i true) vals b' x') ∨ (∃ m, n ≤ m ∧ m ≤ l.length ∧ (∀ j, j < m → (listed.setIfInBounds i true).getD j false = true) ∧ (∀ j, m ≤ j → j < l.length → (listed.setIfInBounds i true).getD j false = false) ∧ wpList P l.toArray Q (l.drop m) b' x'))) b x := by
      intro m hnm hml h1 h2 hni h
      have hw := tail_waits ht ho hni hall (fun k' hk' hl j hj => h1 j (by
        rcases Nat.lt_or_ge k' m with e | e
        · omega
        · rcases Nat.lt_or_ge k' l.length with e' | e'
          · rw [h2 k' e e'] at hl; cases hl
          · rw [Array.getD_eq_getD_getElem?, Array.getElem?_eq_none (by omega)] at hl; cases hl)) (fun e _ j hj => h1 j (by omega))
      have him : i = m := by
        rcases Nat.lt_trichotomy i m with e | e | e
        · rw [h1 i e] at hun'; cases hun'
        · exact e
        · have := hw m e
          rw [h2 m (Nat.le_refl _) (by omega)] at this; cases this
      subst him
      refine tail_step rfl hol (fun b' x' h' => ⟨by simpa using hs, .inr ⟨i + 1, by omega, by omega, fun j hj => ?_, fun j hj hjl => ?_, h'⟩⟩) h
      · rw [set_at]
        by_cases e : j = i
        · rw [if_pos e]
        · rw [if_neg e]; exact h1 j (by omega)
      · rw [set_at, if_neg (by omega)]; exact h2 j (by omega) hjl
    rcases hI with ⟨vals, htl, hJ⟩ | ⟨m, hnm, hml, h1, h2, h⟩
    · by_cases hin : i < n
      · have h := step i o hin hol b x vals _ hJ.grow (lo_le hJ.down ho hall) (hi_ge hJ.down hun') (fun e he hb oj d h1 h2 => by
          have hl := hall e he hb
          have hlt : e.on < n := Nat.lt_trans ((regOkG_at hok i o ho).2.1 e he hb) hin
          exact ⟨hJ.slots e.on oj d h1 h2 hl, hJ.rel e.on hlt hl⟩) (fun d hd => hJ.others d (fun j oj _ hj he => by
            have : writesB l.toArray d = true := Array.any_eq_true'.2 ⟨oj, by simpa using List.mem_of_getElem? hj, by simp [he]⟩
            rw [this] at hd; cases hd))
        unfold wpOp
        simp only [ho]
        have hw : Region.wanted o (yielded l.toArray b.tmps) = true := by
          rcases (regOkG_at hok i o ho).1 with h0 | ⟨j, v, oj, d, e, h1, h2, h3, h4, h5, h6, h7⟩
          · simp [Region.wanted, h0]
          · have hl := hall e h5 h6
            have hlt : e.on < n := Nat.lt_trans ((regOkG_at hok i o ho).2.1 e h5 h6) hin
            rw [h7] at hl hlt
            have hj' : l[j]? = some oj := by simpa using h2
            have hs := hJ.slots j oj d hj' h3 hl
            have hv := hgv j _ _ v h4 (hJ.rel j hlt hl)
            rw [hv] at hs
            simp [Region.wanted, h1, yielded, hj', h3, hs]
        rw [if_pos hw]
        refine .inl (Oper.wp_mono ?_ h)
        rintro b' x' ⟨v, rfl, hb, hgc, hR, hf⟩
        have hsz2 : x.heap.size ≤ x'.heap.size := by
          by_cases e : i ∈ cs
          · exact (hgc e).2.2
          · exact (hb e).size
        refine ⟨by simpa using hs, .inl ⟨upd vals i v, fun k hk hkl => by rw [set_at, if_neg (by omega)]; exact htl k hk hkl, ?_⟩⟩
        have up_self : upd vals i v i = v := if_pos rfl
        have up_ne : ∀ {j}, j ≠ i → upd vals i v j = vals j := fun h => if_neg h
        have frp : ∀ j, j < n → j ≠ i → F j = true → (listed.setIfInBounds i true).getD j false = true → ∃ g, vals j = .pointer (some ⟨g, 0, none⟩) ∧ g < x.heap.size := fun j hj hji hF hl => by
          rw [set_at, if_neg hji] at hl
          exact hJ.fresh j hj hF hl
        refine ⟨?_, ?_, ?_, ?_, ?_, ?_, ?_, ?_, ?_⟩
        · rw [count_up set_at hun' hnd]
          by_cases e : i ∈ cs
          · rw [if_pos e]
            exact (hgc e).2.1
          · rw [if_neg e]
            exact hGB _ _ _ hJ.grow (hb e)
        · cases hdst : o.dst with
          | none => exact hJ.size
          | some d => simpa [Act.put] using hJ.size
        · cases hdst : o.dst with
          | none => exact hJ.defers
          | some d => simpa [Act.put] using hJ.defers
        · intro j oj d hj hjd hl
          by_cases hij : j = i
          · subst hij
            obtain rfl := Option.some.inj (hol.symm.trans hj)
            rw [hjd, up_self]
            have hlt := ((regOkG_at hok j o ho).2.2 d hjd).1
            have hlt' : d < b.tmps.size := by rw [hJ.size]; exact hlt
            simp [Act.put, hlt']
          · rw [set_at, if_neg hij] at hl
            have hold := hJ.slots j oj d hj hjd hl
            rw [up_ne hij]
            cases hdst : o.dst with
            | none => simpa [Act.put] using hold
            | some d' =>
              have hne : d' ≠ d := fun e => by
                subst e
                have hoj : l.toArray[j]? = some oj := by simpa using hj
                rcases Nat.lt_trichotomy i j with h | h | h
                · exact ((regOkG_at hok j oj hoj).2.2 d' hjd).2 i o h ho hdst
                · exact hij h.symm
                · exact ((regOkG_at hok i o ho).2.2 d' hdst).2 j oj h hoj hjd
              simp [Act.put, Array.getElem?_setIfInBounds_ne hne, hold]
        · intro d hnd
          have hold := hJ.others d hnd
          cases hdst : o.dst with
          | none => simpa [Act.put] using hold
          | some d' =>
            have hne : d' ≠ d := fun e => hnd i o hin hol (by rw [hdst, e])
            simp [Act.put, Array.getElem?_setIfInBounds_ne hne, hold]
        · intro j hj hl
          by_cases hij : j = i
          · subst hij; rw [up_self]; exact hR
          · rw [set_at, if_neg hij] at hl
            rw [up_ne hij]
            by_cases e : i ∈ cs
            · exact stableC j _ _ _ (hJ.rel j hj hl) (hgc e).1
            · exact stable j _ _ _ (hJ.rel j hj hl) (hb e)
        · intro j hj hF hl
          by_cases hij : j = i
          · subst hij
            obtain ⟨g, e1, _, e3⟩ := hf hF
            exact ⟨g, by rw [up_self]; exact e1, e3⟩
          · obtain ⟨g, e1, e2⟩ := frp j hj hij hF hl
            exact ⟨g, by rw [up_ne hij]; exact e1, Nat.lt_of_lt_of_le e2 hsz2⟩
        · intro j k hj hk hjk hFj hFk hlj hlk
          by_cases hji : j = i
          · have hki : k ≠ i := fun e => hjk (hji.trans e.symm)
            obtain ⟨g, e1, e2⟩ := frp k hk hki hFk hlk
            obtain ⟨g', e3, e4, _⟩ := hf (hji ▸ hFj)
            rw [hji, up_self, up_ne hki, e1, e3]
            intro e
            cases e
            omega
          · by_cases hki : k = i
            · obtain ⟨g, e1, e2⟩ := frp j hj hji hFj hlj
              obtain ⟨g', e3, e4, _⟩ := hf (hki ▸ hFk)
              rw [hki, up_self, up_ne hji, e1, e3]
              intro e
              cases e
              omega
            · rw [set_at, if_neg hji] at hlj
              rw [set_at, if_neg hki] at hlk
              rw [up_ne hji, up_ne hki]
              exact hJ.apart j k hj hk hjk hFj hFk hlj hlk
        · intro k ok hk hl e he hbd
          rw [set_at] at hl ⊢
          by_cases hei : e.on = i
          · rw [if_pos hei]
          · rw [if_neg hei]
            by_cases hki : k = i
            · subst hki
              obtain rfl := Option.some.inj (ho.symm.trans hk)
              exact hall e he hbd
            · rw [if_neg hki] at hl
              exact hJ.down k ok hk hl e he hbd
      · have hni : n ≤ i := by omega
        have hw := tail_waits ht ho hni hall (fun k' hk' hl j hj => by
          rcases Nat.lt_or_ge k' l.length with e' | e'
          · rw [htl k' hk' e'] at hl; cases hl
          · rw [Array.getD_eq_getD_getElem?, Array.getElem?_eq_none (by omega)] at hl; cases hl) (fun _ hA j hj => anc_listed hJ.down 24 j i o ho hall (hA j hj))
        have hhead : ∀ j, j < n → listed.getD j false = true := fun j hj => hw j (by omega)
        refine go_tail n (Nat.le_refl _) hn hhead (fun j hj hjl => htl j hj hjl) hni ?_
        have hb : b = ⟨putAll vals (l.take n) 0 a.tmps, a.defers⟩ := by
          have : putAll vals (l.take n) 0 a.tmps = b.tmps := putAll_is (l.take n) 0 _ (fun j oj d h1 h2 => by
            have hjn : j < n := by have := (List.getElem?_eq_some_iff.1 h1).1; simp at this; omega
            rw [List.getElem?_take_of_lt hjn] at h1
            rw [Nat.zero_add]; exact hJ.slots j oj d h1 h2 (hhead j hjn)) hJ.size.symm fun d => by
            by_cases e : ∃ (j : Nat) (oj : Oper), j < n ∧ l[j]? = some oj ∧ oj.dst = some d
            · obtain ⟨j, oj, hj, h1, h2⟩ := e
              exact .inr ⟨j, oj, by rw [List.getElem?_take_of_lt hj]; exact h1, h2⟩
            · exact .inl (hJ.others d fun j oj hj h1 h2 => e ⟨j, oj, hj, h1, h2⟩).symm
          rw [this, ← hJ.defers]
        rw [hb]
        exact rest vals x (count_all (fun c hc => hhead c (hcs c hc)) ▸ hJ.grow) (fun j hj => hJ.rel j hj (hhead j hj)) (fun i j hi hj hij h1 h2 => hJ.apart i j hi hj hij h1 h2 (hhead i hi) (hhead j hj))
    · have hni : n ≤ i := by
        rcases Nat.lt_or_ge i m with e | e
        · rw [h1 i e] at hun'; cases hun'
        · omega
      exact go_tail m hnm hml h1 h2 hni h
  · rintro listed b x ⟨hs, hI⟩ h0
    have hall : ∀ i, i < l.length → listed.getD i false = true := fun i hi => ready_nil hok (by omega) h0 i (by omega)
    rcases hI with ⟨vals, htl, hJ⟩ | ⟨m, hnm, hml, h1, h2, h⟩
    · have hnl : n = l.length := by
        rcases Nat.lt_or_ge n l.length with e | e
        · have := htl n (Nat.le_refl _) e
          rw [hall n e] at this; cases this
        · omega
      have hb : b = ⟨putAll vals (l.take n) 0 a.tmps, a.defers⟩ := by
        have : putAll vals (l.take n) 0 a.tmps = b.tmps := putAll_is (l.take n) 0 _ (fun j oj d h1 h2 => by
          have hjn : j < n := by have := (List.getElem?_eq_some_iff.1 h1).1; simp at this; omega
          rw [List.getElem?_take_of_lt hjn] at h1
          rw [Nat.zero_add]; exact hJ.slots j oj d h1 h2 (hall j (by omega))) hJ.size.symm fun d => by
          by_cases e : ∃ (j : Nat) (oj : Oper), j < n ∧ l[j]? = some oj ∧ oj.dst = some d
          · obtain ⟨j, oj, hj, h1, h2⟩ := e
            exact .inr ⟨j, oj, by rw [List.getElem?_take_of_lt hj]; exact h1, h2⟩
          · exact .inl (hJ.others d fun j oj hj h1 h2 => e ⟨j, oj, hj, h1, h2⟩).symm
        rw [this, ← hJ.defers]
      have hr := rest vals x (count_all (fun c hc => hall c (by have := hcs c hc; omega)) ▸ hJ.grow) (fun j hj => hJ.rel j hj (hall j (by omega))) (fun i j hi hj hij h1 h2 => hJ.apart i j hi hj hij h1 h2 (hall i (by omega)) (hall j (by omega)))
      rw [← hb, hnl, List.drop_length] at hr
      exact hr
    · have hml' : m = l.length := by
        rcases Nat.lt_or_ge m l.length with e | e
        · have := h2 m (Nat.le_refl _) e
          rw [hall m e] at this; cases this
        · omega
      rw [hml', List.drop_length] at h
      exact h
  · refine ⟨by simp, .inl ⟨fun _ => undef, fun k _ _ => repl_getD _ _, ⟨(count_none (fun c => repl_getD _ _)).symm ▸ hG0 _ (Below.refl _ _).drew, rfl, rfl, fun j oj d _ _ h => absurd ((repl_getD _ _).symm.trans h) (by decide), fun _ _ => rfl, fun j _ h => absurd ((repl_getD _ _).symm.trans h) (by decide), fun j _ _ h => absurd ((repl_getD _ _).symm.trans h) (by decide), fun i j _ _ _ _ _ h _ => absurd ((repl_getD _ _).symm.trans h) (by decide), fun k _ _ h => absurd ((repl_getD _ _).symm.trans h) (by decide)⟩⟩⟩
end
end Go.Proofs.YtdafkakigigdeaaDoor
namespace Go.Proofs.YtdafkakigigdeaaDoor
open Go.RowKit
set_option maxRecDepth 100000

theorem eq_I (a b c : Int) (w : World) : (Op.equalIn 10000 53 (.agg (idc a b c)) (.agg (idc a b c))).run Tryd.prog w = .ok true w := by
  unfold idc
  simp [go_sem]
theorem name_ok (r : Int) (w : World) : Calls Tryd.prog 23 #[.int .i64 r] w fun e w' => e = .returned (.agg (idc 4 r 1)) ∧ Below w.heap.size w w' := by
  go_enter Tryd.func23, Tryd.ntmps23
  go_wp2
  exact bodyPost_ret (v := .agg (idc 4 r 1)) (by simp [results, go_sem, idc]) rfl ⟨rfl, below_one w _⟩
theorem copyE_ok {w : World} {v : Value} {l : List El} (h : SlE w v l) (hn : l.length ≤ 1000000) :
    Calls Tryd.prog 46 #[v] w fun r w' => ∃ u, r = .returned u ∧ OwnE w.heap.size u l w' ∧ Below w.heap.size w w' := by
  have HA := hid_of' (h.later (below_one w (.cells #[] 57)))
  obtain ⟨a0, c0, rfl⟩ := h.form
  go_enter Tryd.func46, Tryd.ntmps46
  go_wp2_with (at_builtin; refine wpL_appE (xs := []) (l := l) rfl _ _ rfl rfl rfl (own_empty w) HA.out (by simpa using (show l.length ≤ 1099511627776 by omega)) (by simp) ?_; intro v1 w1 o1 hg1)
  go_ret
  exact ⟨_, rfl, o1, (below_one w (.cells #[] 57)).grown hg1 (by simp) (fun k hk => ((own_empty w).lt k hk).1)⟩
set_option maxHeartbeats 2000000 in
theorem cut_ok {w : World} {g o_ c : Nat} {l : List El} (h : ElsAt g o_ l w) (hlc : l.length ≤ c) (hc : c ≤ 9223372036854775807) (p : Nat) (hp : p < l.length) (hn : l.length ≤ 1000000) :
    Calls Tryd.prog 25 #[.slice (some ⟨g, o_, none⟩) l.length c, .int .i64 (p : Int), .int .i64 1] w fun r w' => ∃ u, r = .returned u ∧ OwnE w.heap.size u (l.take p ++ l.drop (p + 1)) w' ∧ Below w.heap.size w w' := by
  have e1 : (l.take p).length = p := by rw [List.length_take]; omega
  have e2 : (l.drop (p + 1)).length = l.length - (p + 1) := List.length_drop
  have s1 : SlE w (.slice (some ⟨g, o_, none⟩) p c) (l.take p) := .inr ⟨g, o_, c, by rw [e1], h.take p⟩
  have s2 : SlE w (.slice (if c = p + 1 then some ⟨g, o_, none⟩ else some ⟨g, o_ + (p + 1) * 5, none⟩) (l.length - (p + 1)) (c - (p + 1))) (l.drop (p + 1)) := by
    by_cases q : c = p + 1
    · have e3 : l.drop (p + 1) = [] := List.drop_of_length_le (by omega)
      rw [if_pos q]
      exact .inl ⟨e3, _, _, by rw [show l.length - (p + 1) = 0 by omega]⟩
    · rw [if_neg q]
      exact .inr ⟨g, _, _, by rw [e2], h.drop (p + 1)⟩
  have c5 : (0 : Int) ≤ (p : Int) + 1 := by omega
  have HC := hid_of' (fun (x : World) (hx : Below w.heap.size w x) => copyE_ok (s1.later hx) (by omega))
  have hlen : (l.take p).length + (l.drop (p + 1)).length ≤ 1099511627776 := by omega
  have c1 : (p : Int) ≤ (c : Int) := by omega
  have c0 : (0 : Int) ≤ (p : Int) := by omega
  have c3 : IntKind.i64.wrap ((p : Int) + 1) = (p : Int) + 1 := by rw [IntWalk.i64_left, wrapIs (by omega) (by omega)]
  have c2 : (p : Int) + 1 ≤ (l.length : Int) := by omega
  clear e1 e2 s1
  go_enter Tryd.func25, Tryd.ntmps25
  go_upto_region 1 with fail
  refine wp_region_tail 9 (by kernel_rfl) (fun _ => none) (by kernel_rfl) (by kernel_rfl) (by decide) (fun i v x => match i with
    | 0 => v = .slice (some ⟨g, o_, none⟩) l.length c
    | 1 => v = .int .i64 (p : Int)
    | 2 => v = .slice (some ⟨g, o_, none⟩) p c
    | 3 => OwnE w.heap.size v (l.take p) x
    | 4 => v = .slice (some ⟨g, o_, none⟩) l.length c
    | 5 => v = .int .i64 (p : Int)
    | 6 => v = .int .i64 1
    | 7 => v = .int .i64 ((p : Int) + 1)
    | 8 => SlE w v (l.drop (p + 1))
    | _ => True) (fun _ => false) (fun _ _ _ _ h => by cases h) ?_ ?_ ?_
  · intro i v x x' hR hb
    match i, hR with
    | 0, h => exact h
    | 1, h => exact h
    | 2, h => exact h
    | 3, h => exact OwnE.later h hb
    | 4, h => exact h
    | 5, h => exact h
    | 6, h => exact h
    | 7, h => exact h
    | 8, h => exact h
    | m + 9, h => exact h
  · intro i o hi ho q x vals hX hdep hoth
    have t0 : q.tmps[0]? = some (.slice (some ⟨g, o_, none⟩) l.length c) := by rw [hoth 0 (by kernel_rfl)]; rfl
    have t1 : q.tmps[1]? = some (.int .i64 (p : Int)) := by rw [hoth 1 (by kernel_rfl)]; rfl
    have t2 : q.tmps[2]? = some (.int .i64 1) := by rw [hoth 2 (by kernel_rfl)]; rfl
    match i, hi, ho with
    | 0, _, ho =>
      simp only [List.getElem?_cons_zero, Option.some.injEq] at ho
      subst ho
      unfold Oper.wp
      simp [execOp, go_sem, t0]
      exact came _ rfl (Below.refl _ _) rfl (fun h => absurd h (by decide))
    | 1, _, ho =>
      simp only [List.getElem?_cons_succ, List.getElem?_cons_zero, Option.some.injEq] at ho
      subst ho
      unfold Oper.wp
      simp [execOp, go_sem, t1]
      exact came _ rfl (Below.refl _ _) rfl (fun h => absurd h (by decide))
    | 2, _, ho =>
      simp only [List.getElem?_cons_succ, List.getElem?_cons_zero, Option.some.injEq] at ho
      subst ho
      obtain ⟨u0, e0⟩ := hdep ⟨0, .data⟩ (by simp) rfl _ 7 rfl rfl
      rw [show vals 0 = .slice (some ⟨g, o_, none⟩) l.length c from e0] at u0
      obtain ⟨u1, e1⟩ := hdep ⟨1, .data⟩ (by simp) rfl _ 8 rfl rfl
      rw [show vals 1 = .int .i64 (p : Int) from e1] at u1
      unfold Oper.wp
      simp [execOp, go_sem, u0, u1, c1, c0]
      exact came _ rfl (Below.refl _ _) rfl (fun h => absurd h (by decide))
    | 3, _, ho =>
      simp only [List.getElem?_cons_succ, List.getElem?_cons_zero, Option.some.injEq] at ho
      subst ho
      obtain ⟨u2, e2⟩ := hdep ⟨2, .data⟩ (by simp) rfl _ 9 rfl rfl
      rw [show vals 2 = .slice (some ⟨g, o_, none⟩) p c from e2] at u2
      unfold Oper.wp
      simp [go_sem, u2]
      refine (HC.out x hX).mono ?_
      rintro r x1 ⟨q, rfl, ho9, hb1⟩
      exact came _ rfl hb1 (OwnE.lower ho9 hX.size) (fun h => absurd h (by decide))
    | 4, _, ho =>
      simp only [List.getElem?_cons_succ, List.getElem?_cons_zero, Option.some.injEq] at ho
      subst ho
      unfold Oper.wp
      simp [execOp, go_sem, t0]
      exact came _ rfl (Below.refl _ _) rfl (fun h => absurd h (by decide))
    | 5, _, ho =>
      simp only [List.getElem?_cons_succ, List.getElem?_cons_zero, Option.some.injEq] at ho
      subst ho
      unfold Oper.wp
      simp [execOp, go_sem, t1]
      exact came _ rfl (Below.refl _ _) rfl (fun h => absurd h (by decide))
    | 6, _, ho =>
      simp only [List.getElem?_cons_succ, List.getElem?_cons_zero, Option.some.injEq] at ho
      subst ho
      unfold Oper.wp
      simp [execOp, go_sem, t2]
      exact came _ rfl (Below.refl _ _) rfl (fun h => absurd h (by decide))
    | 7, _, ho =>
      simp only [List.getElem?_cons_succ, List.getElem?_cons_zero, Option.some.injEq] at ho
      subst ho
      obtain ⟨u5, e5⟩ := hdep ⟨5, .data⟩ (by simp) rfl _ 12 rfl rfl
      rw [show vals 5 = .int .i64 (p : Int) from e5] at u5
      obtain ⟨u6, e6⟩ := hdep ⟨6, .data⟩ (by simp) rfl _ 13 rfl rfl
      rw [show vals 6 = .int .i64 1 from e6] at u6
      unfold Oper.wp
      simp [execOp, go_sem, u5, u6, c3]
      exact came _ rfl (Below.refl _ _) rfl (fun h => absurd h (by decide))
    | 8, _, ho =>
      simp only [List.getElem?_cons_succ, List.getElem?_cons_zero, Option.some.injEq] at ho
      subst ho
      obtain ⟨u4, e4⟩ := hdep ⟨4, .data⟩ (by simp) rfl _ 11 rfl rfl
      rw [show vals 4 = .slice (some ⟨g, o_, none⟩) l.length c from e4] at u4
      obtain ⟨u7, e7⟩ := hdep ⟨7, .data⟩ (by simp) rfl _ 14 rfl rfl
      rw [show vals 7 = .int .i64 ((p : Int) + 1) from e7] at u7
      unfold Oper.wp
      simp [execOp, go_sem, u4, u7, c2, c5]
      exact came _ rfl (Below.refl _ _) s2 (fun h => absurd h (by decide))
    | m + 9, hi, _ => exact absurd hi (by omega)
  · intro vals x hX hRv _
    have q3 : OwnE w.heap.size (vals 3) (l.take p) x := hRv 3 (by decide)
    have q8 : SlE w (vals 8) (l.drop (p + 1)) := hRv 8 (by decide)
    obtain ⟨a8, c8, e8⟩ := q8.form
    rw [e8] at q8
    obtain ⟨a3, c4, e3⟩ := q3.form
    rw [e3] at q3
    simp only [List.take, List.drop, putAll, e8, e3]
    clear hRv e8 e3
    try simp only [List.setIfInBounds_toArray, List.set_cons_succ, List.set_cons_zero]
    go_wp2_with (at_builtin; refine wpL_appE rfl _ _ rfl rfl rfl q3 (q8.later hX) hlen hX.size ?_; intro v1 w1 o1 hg1)
    go_ret
    exact ⟨_, rfl, o1, hX.grown hg1 hX.size (fun k hk => (q3.lt k hk).1)⟩

/-- What an operation and its inverse make of a row. -/
def undL (l : List El) (o : Xo) : List El := stepL (stepL l o ⟨4, 2, 1⟩) (invO o).1 ⟨4, 2, 1⟩
theorem add_back (l : List El) (i : Nat) (d f : Int) (h : d + f = 0) : addE (addE l i d) i f = l := by
  refine List.ext_getElem? fun k => ?_
  rw [addE_at, addE_at]
  by_cases q : k = i
  · rw [if_pos q, if_pos q]
    cases l[k]? with
    | none => rfl
    | some e => cases e; simp [El.add]; omega
  · rw [if_neg q, if_neg q]
theorem invO_ins {o : Xo} (h : o.k = 1) : invO o = (⟨2, o.p, 0, o.r⟩, true) := by unfold invO; rw [if_pos h]
theorem invO_is {o : Xo} (h : o.k = 1 ∨ o.k = 2 ∨ o.k = 3) : ∃ k, invO o = (⟨k, o.p, 0, o.r⟩, true) ∧ (k = 2 ∨ k = 3) := by
  unfold invO
  rcases h with h | h | h
  · exact ⟨2, by rw [if_pos h], .inl rfl⟩
  · exact ⟨3, by rw [if_neg (by omega), if_neg (by omega), if_pos h], .inr rfl⟩
  · exact ⟨2, by rw [if_neg (by omega), if_pos h], .inl rfl⟩
theorem inv_valid {o : Xo} {l : List El} {i : Idn} (h : validO o l.length = true) : validO (invO o).1 (stepL l o i).length = true := by
  obtain ⟨h0, h1⟩ := validO_place h
  have hr := validO_right h
  obtain ⟨k, e, hk⟩ := invO_is (rightO_kind hr)
  have hrr : 0 ≤ o.r ∧ o.r < 8 := by
    unfold rightO at hr
    simp at hr
    exact hr.1
  rw [e, step_len h]
  refine validO_of ?_ h0 ?_
  · unfold rightO
    rcases hk with rfl | rfl <;> simp [hrr]
  · refine .inl ?_
    show o.p < _
    split <;> omega
theorem und_ins {l : List El} {o : Xo} (h : validO o l.length = true) (hk : o.k = 1) : undL l o = insE l o.p.toNat ⟨4, 2, 1, o.c, 1⟩ := by
  obtain ⟨h0, h1⟩ := validO_place h
  unfold undL
  rw [stepL_ins _ _ hk, invO_ins hk]
  rw [stepL_add _ _ (show ¬ (2 : Int) = 1 by decide)]
  refine List.ext_getElem? fun k => ?_
  show (addE (insE l o.p.toNat _) o.p.toNat 1)[k]? = _
  rw [addE_at, insE_at (by omega), insE_at (by omega)]
  by_cases q : k = o.p.toNat
  · rw [if_pos q, if_neg (by omega), if_pos q, if_neg (by omega), if_pos q]
    rfl
  · rw [if_neg q]
    repeat' split
    all_goals first | rfl | omega
theorem und_else {l : List El} {o : Xo} (hk : ¬ o.k = 1) (h : o.k = 2 ∨ o.k = 3) : undL l o = l := by
  unfold undL
  rw [stepL_add _ _ hk]
  rcases h with h | h
  · have e : invO o = (⟨3, o.p, 0, o.r⟩, true) := by unfold invO; rw [if_neg hk, if_neg (by omega), if_pos h]
    rw [e, stepL_add _ _ (show ¬ (3 : Int) = 1 by decide)]
    show addE (addE l o.p.toNat (byO o)) o.p.toNat (byO ⟨3, o.p, 0, o.r⟩) = l
    exact add_back _ _ _ _ (by unfold byO; rw [if_neg (by omega), if_pos rfl]; decide)
  · have e : invO o = (⟨2, o.p, 0, o.r⟩, true) := by unfold invO; rw [if_neg hk, if_pos h]
    rw [e, stepL_add _ _ (show ¬ (2 : Int) = 1 by decide)]
    show addE (addE l o.p.toNat (byO o)) o.p.toNat (byO ⟨2, o.p, 0, o.r⟩) = l
    exact add_back _ _ _ _ (by unfold byO; rw [if_pos h, if_neg (show ¬ (2 : Int) = 3 by decide)]; decide)
theorem vis_und {l : List El} {o : Xo} (h : validO o l.length = true) (hk : o.k = 1 ∨ o.k = 2 ∨ o.k = 3) : vis (undL l o) = vis l := by
  by_cases k : o.k = 1
  · rw [und_ins h k]
    unfold insE
    rw [vis_app, vis_hid _ (show (1 : Int) > 0 by decide), ← vis_app, List.take_append_drop]
  · rw [und_else k (by omega)]
theorem und_cut {l : List El} {o : Xo} (h : validO o l.length = true) (hk : o.k = 1) : (undL l o).take o.p.toNat ++ (undL l o).drop (o.p.toNat + 1) = l := by
  obtain ⟨h0, h1⟩ := validO_place h
  rw [und_ins h hk]
  unfold insE
  have hl : (l.take o.p.toNat).length = o.p.toNat := by rw [List.length_take]; omega
  rw [List.take_left' hl, List.drop_append, List.drop_of_length_le (by omega), hl, show o.p.toNat + 1 - o.p.toNat = 1 by omega]
  simp
end Go.Proofs.YtdafkakigigdeaaDoor
namespace Go.Proofs.YtdafkakigigdeaaDoor
open Go.RowKit
set_option maxRecDepth 100000

theorem strEqI (a : ByteArray) (w : World) : (binOp .eql 9 (.string a) (.string a)).run Tryd.prog w = .ok (.bool true) w := by simp [binOp, Op.stringOp]
theorem k2_rowI {g : Nat} (w : World) (c : Array Value) : K2 g g w (w.setRow g c) := ⟨rfl, rfl, rfl, by simp, fun k _ h _ => setRow_other w g k c h⟩
theorem OwnE.blkI {base x : Nat} {v : Value} {l : List El} {w w' : World} (h : OwnE base v l w) (k : K2 x x w w') (hx : x < base) : OwnE base v l w' := by
  obtain ⟨h1, h2⟩ := h
  refine ⟨h1, ?_⟩
  rcases h2 with h | ⟨g, cap, cur, rfl, q2, q3, q4⟩
  · exact .inl h
  · have hgx : ¬ g = x := by omega
    exact .inr ⟨g, cap, cur, rfl, q2, (k.block _ (Array.getElem?_eq_some_iff.1 q3).1 hgx hgx).trans q3, q4⟩
theorem und_len {l : List El} {o : Xo} (h : validO o l.length = true) : (undL l o).length ≤ l.length + 1 := by
  obtain ⟨h0, h1⟩ := validO_place h
  by_cases k : o.k = 1
  · rw [und_ins h k, insE_len (by omega)]
    omega
  · rw [und_else k (by have := rightO_kind (validO_right h); omega)]
    omega

set_option maxHeartbeats 8000000 in
theorem xformInverse_all {W : World} {v : Value} {l0 : List El} {a0 : Xo} (hv : SlE W v l0) (hin : ∀ e ∈ l0, e.In) (hml : l0.length ≤ 9223372036854775807) (ha0 : a0.In) :
    Calls Tryd.prog 5 #[v, .agg (ov a0)] W fun r w' => r = .returned (.bool true) ∧ Below W.heap.size W w' := by
  obtain ⟨va, vc, rfl⟩ := hv.form
  have HW := hid_of' wakes7_ok
  have r0 := row_new W (ov a0) 37
  have hB := below_one W (.cells (ov a0) 37)
  go_enter Tryd.func5, Tryd.ntmps5
  go_upto_region 1 with fail
  change Code.wp _ _ _ _ (W.alloc (.cells (ov a0) 37))
  generalize W.alloc (.cells (ov a0) 37) = W1 at r0 hB ⊢
  obtain ⟨gA, hgA⟩ : ∃ gA, W.heap.size = gA := ⟨_, rfl⟩
  have HRw := hid_of' (row7_ok (hv.later hB) hin hml)
  rw [hgA] at r0 ⊢
  have hlt0 := r0.lt
  go_upto_region 2 with (go_at_call 6; refine HRw.out.mono ?_; clear HRw; rintro r w2 ⟨u, out, k, rfl, hO, hR, hk, hb2⟩; obtain ⟨ua, uc, hu⟩ := hO.sl.form; subst hu)
  replace hB : Below W.heap.size W w2 := bgo hB hb2
  replace r0 := r0.later hb2
  have hol := hR.len
  clear hb2 hv hin hml
  have HF : Hid (∀ x, Calls Tryd.prog 18 #[.agg (ov a0), .int .i64 (out.length : Int), .int .i64 2] x (FitO out.length 2 x)) := fun x => fit_ok a0 ha0 out.length 2 (by omega) (by decide) x
  go_upto_region 3 with (first | (refine wpL_loadO (e := a0) rfl (.tmp 3) rfl rfl r0.in ?_; go_simp) | (go_at_call 18; refine (HF.out _).mono ?_; clear HF; rintro r w3 ⟨xa, pa, rfl, va1, va2, va3, hb3⟩) | (refine wpL_storeO (e := xa) rfl (.tmp 3) _ rfl rfl rfl (r0.later hb3) ?_))
  have rA := (r0.later hb3).put (ov xa)
  have hb4 : Below W.heap.size W (w3.setRow gA (ov xa)) := below_row (bgo hB hb3) (by omega) _
  have hS4 : SlE (w3.setRow gA (ov xa)) (.slice ua out.length uc) out := ((OwnE.later hO hb3).blkI (k2_rowI w3 (ov xa)) hlt0).sl
  generalize w3.setRow gA (ov xa) = w4 at rA hb4 hS4 ⊢
  clear hO r0 hb3 hB w2 w3 hlt0 hgA W1
  cases pa with
  | false =>
    go_wp2_with (go_at_call 17; refine (HW.out _).mono ?_; rintro r w9 ⟨rfl, hb9⟩)
    go_ret
    exact ⟨rfl, bgo hb4 hb9⟩
  | true =>
    have hva := va1 rfl
    have hpa := validO_place hva
    obtain ⟨kx, exi, hkx⟩ := invO_is va3
    have hvi := inv_valid (i := ⟨4, 2, 1⟩) hva
    have HI := hid_of' (fun x => inverse_any xa x)
    have HU : Hid (stepL (stepL out xa ⟨4, 2, 1⟩) (invO xa).1 ⟨4, 2, 1⟩ = undL out xa) := rfl
    have HVU := hid_of' (vis_und hva va3)
    have hul := und_len hva
    rw [exi] at HI hvi HU
    have hxk : ¬ (⟨kx, xa.p, 0, xa.r⟩ : Xo).k = 1 := by show ¬ kx = 1; omega
    generalize (⟨kx, xa.p, 0, xa.r⟩ : Xo) = xi at HI hvi HU hxk
    clear exi hkx va1
    go_upto_region 6 with (first | (refine wpL_loadO (e := xa) rfl (.tmp 3) rfl rfl rA.in ?_; go_simp) | (go_at_call 19; refine (HI.out _).mono ?_; clear HI; rintro r w5 ⟨rfl, hb5⟩) | (refine wpL_storeO (e := xi) rfl (.tmp 7) _ rfl rfl rfl (row_new w5 _ _) ?_))
    have rB := (row_new w5 #[.int .i64 0, .int .i64 0, .int .i32 0, .int .i64 0] 37).put (ov xi)
    have hbn : Below w4.heap.size w4 ((w5.alloc (.cells #[.int .i64 0, .int .i64 0, .int .i32 0, .int .i64 0] 37)).setRow w5.heap.size (ov xi)) := bgo hb5 (below_row (below_one w5 _) (Nat.le_refl _) _)
    generalize (w5.alloc (.cells #[.int .i64 0, .int .i64 0, .int .i32 0, .int .i64 0] 37)).setRow w5.heap.size (ov xi) = w6 at rB hbn ⊢
    generalize w5.heap.size = gB at rB ⊢
    have hb6 := bgo hb4 hbn
    have hS6 := hS4.later hbn
    replace rA := rA.later hbn
    clear hb5 hbn hS4 hb4 w5
    have hgd : ∀ e ∈ out, rightC e.ch = true := fun e he => (hR.ok.good e he).2.1
    have HO := hid_of' (of_mo hS6 (by omega) hR.ok (by decide))
    have HV1 := hid_of' (fun (x : World) (mb : Nat) (h : MvAt mb out x) => view_ok h (by omega) hgd)
    unfold pv at HO HV1
    go_upto_region 12 with (first | (go_at_call 20; refine HO.out.mono ?_; clear HO; rintro r w7 ⟨mb, tb, kb, R, rfl, g1, g2, g3, hM7, hb7⟩) | (go_at_call 21; refine (HV1.out _ _ hM7.mv).mono ?_; clear HV1; rintro r w8 ⟨rfl, hb8⟩))
    have hM8 := hM7.later hb8
    replace hb8 := bgo hb7 hb8
    clear hM7 hb7 g3
    have hid4 : (⟨4, 2, 1⟩ : Idn).In := ⟨in64_small (by decide) (by decide), in64_small (by decide) (by decide), in64_small (by decide) (by decide)⟩
    have hfr : xa.k = 1 → ∀ e ∈ out, e.id ≠ ⟨4, 2, 1⟩ := fun _ e he q => by
      have h3 := (hR.ep e he).1
      have h4 : e.ep = 4 := congrArg Idn.a q
      omega
    have hl1 : (stepL out xa ⟨4, 2, 1⟩).length ≤ out.length + 1 := by rw [step_len hva]; split <;> omega
    have hR1 := hR.ok.step (by decide) hva hid4 hfr
    have HA1 := hid_of' (fun (x : World) (h : Mo mb tb kb 1000000 R out x) => apply_mo h (by omega) hR.ok (by decide) xa ⟨4, 2, 1⟩ hva hid4 hfr (by omega))
    have HA2 := hid_of' (fun (x : World) (h : Mo mb tb kb (1000000 + out.length + 1) R (stepL out xa ⟨4, 2, 1⟩) x) => apply_mo h (by omega) hR1 (by decide) xi ⟨4, 2, 1⟩ hvi hid4 (fun q => absurd q hxk) (by omega))
    have hR2 := hR1.step (by decide) hvi hid4 (fun q => absurd q hxk)
    rw [HU.out] at HA2 hR2
    unfold pv at HA1 HA2
    clear HU hvi hR1 hfr
    refine wp_region_seq 12 (by kernel_rfl) (fun j => if j = 5 then some false else none) (by kernel_rfl) (by kernel_rfl) (by decide) (fun i v x => match i with
      | 0 => v = .pointer (some ⟨mb, 0, none⟩)
      | 1 => v = .agg (ov xa)
      | 2 => v = .agg (idc 4 2 1)
      | 3 => v = .nilIface
      | 4 => v = .bool false
      | 5 => v = .bool false
      | 6 => v = .pointer (some ⟨mb, 0, none⟩)
      | 7 => v = .agg (ov xi)
      | 8 => v = .agg (idc 4 2 1)
      | 9 => v = .nilIface
      | 10 => v = .bool false
      | 11 => v = .bool false
      | _ => True) (fun _ => false) ?_ [3, 9] (by decide) (by decide) (fun k x => Below w6.heap.size w6 x ∧ (k = 0 → Mo mb tb kb 1000000 R out x) ∧ (k = 1 → Mo mb tb kb (1000000 + out.length + 1) R (stepL out xa ⟨4, 2, 1⟩) x) ∧ (k = 2 → Mo mb tb kb (1000000 + out.length + 1 + (stepL out xa ⟨4, 2, 1⟩).length + 1) R (undL out xa) x)) (fun _ _ => True) (fun _ _ _ h hb => ⟨bgo h.1 hb, fun e => (h.2.1 e).later hb, fun e => (h.2.2.1 e).later hb, fun e => (h.2.2.2 e).later hb⟩) (fun _ h => ⟨bgo hb8 h, fun _ => hM8.later h, fun e => absurd e (by decide), fun e => absurd e (by decide)⟩) ?_ ?_ ?_ ?_
    · intro j v x b hj hR
      by_cases e5 : j = 5
      · subst e5; simp at hj; subst hj; exact hR
      simp [e5] at hj
    · intro i v x x' hR hb
      match i, hR with
      | 0, h => exact h
      | 1, h => exact h
      | 2, h => exact h
      | 3, h => exact h
      | 4, h => exact h
      | 5, h => exact h
      | 6, h => exact h
      | 7, h => exact h
      | 8, h => exact h
      | 9, h => exact h
      | 10, h => exact h
      | 11, h => exact h
      | m + 12, h => exact h
    · intro i v x x' hR hb
      match i, hR with
      | 0, h => exact h
      | 1, h => exact h
      | 2, h => exact h
      | 3, h => exact h
      | 4, h => exact h
      | 5, h => exact h
      | 6, h => exact h
      | 7, h => exact h
      | 8, h => exact h
      | 9, h => exact h
      | 10, h => exact h
      | 11, h => exact h
      | m + 12, h => exact h
    · intro i o hi ho q x vals kk hG hlo hhi hdep hoth
      have t3 : q.tmps[3]? = some (.pointer (some ⟨gA, 0, none⟩)) := by rw [hoth 3 (by kernel_rfl)]; rfl
      have t7 : q.tmps[7]? = some (.pointer (some ⟨gB, 0, none⟩)) := by rw [hoth 7 (by kernel_rfl)]; rfl
      have t9 : q.tmps[9]? = some (.pointer (some ⟨mb, 0, none⟩)) := by rw [hoth 9 (by kernel_rfl)]; rfl
      match i, hi, ho, hlo, hhi with
      | 0, _, ho, hlo, hhi =>
        simp only [List.getElem?_cons_zero, Option.some.injEq] at ho
        subst ho
        unfold Oper.wp
        simp [execOp, go_sem, t9]
        exact cameSB _ rfl (by decide) (Below.refl _ _) rfl (fun h => absurd h (by decide))
      | 1, _, ho, hlo, hhi =>
        simp only [List.getElem?_cons_succ, List.getElem?_cons_zero, Option.some.injEq] at ho
        subst ho
        exact opw_loadO _ rfl (by simp [Act.eval, t3]) (rA.in.later hG.1) (cameSB _ rfl (by decide) (Below.refl _ _) rfl (fun h => absurd h (by decide)))
      | 2, _, ho, hlo, hhi =>
        simp only [List.getElem?_cons_succ, List.getElem?_cons_zero, Option.some.injEq] at ho
        subst ho
        unfold Oper.wp
        simp [go_sem, ]
        refine (name_ok 2 x).mono ?_
        rintro r x1 ⟨rfl, hb1⟩
        exact cameSB _ rfl (by decide) hb1 rfl (fun h => absurd h (by decide))
      | 3, _, ho, hlo, hhi =>
        simp only [List.getElem?_cons_succ, List.getElem?_cons_zero, Option.some.injEq] at ho
        subst ho
        obtain ⟨u0, e0⟩ := hdep ⟨0, .data⟩ (by simp) rfl _ 45 rfl rfl
        rw [show vals 0 = .pointer (some ⟨mb, 0, none⟩) from e0] at u0
        obtain ⟨u1, e1⟩ := hdep ⟨1, .data⟩ (by simp) rfl _ 46 rfl rfl
        rw [show vals 1 = .agg (ov xa) from e1] at u1
        obtain ⟨u2, e2⟩ := hdep ⟨2, .data⟩ (by simp) rfl _ 47 rfl rfl
        rw [show vals 2 = .agg (idc 4 2 1) from e2] at u2
        have hk0 : kk = 0 := Nat.le_antisymm (Nat.le_trans hhi (Nat.le_of_eq (by kernel_rfl))) (Nat.le_trans (Nat.le_of_eq (by kernel_rfl)) hlo)
        unfold Oper.wp
        simp [go_sem, u0, u1, u2]
        refine (HA1.out x (hG.2.1 hk0)).mono ?_
        rintro r x1 ⟨rfl, hM1, hk1⟩
        exact cameSX _ rfl (by decide) ⟨trivial, ⟨K2.below hG.1 hk1 g1 g2 hG.1.size, fun h => absurd h (by omega), fun _ => hM1, fun h => absurd h (by omega)⟩, hk1.size⟩ rfl rfl
      | 4, _, ho, hlo, hhi =>
        simp only [List.getElem?_cons_succ, List.getElem?_cons_zero, Option.some.injEq] at ho
        subst ho
        obtain ⟨u3, e3⟩ := hdep ⟨3, .data⟩ (by simp) rfl _ 48 rfl rfl
        rw [show vals 3 = .nilIface from e3] at u3
        unfold Oper.wp
        simp [execOp, go_sem, u3]
        exact cameSB _ rfl (by decide) (Below.refl _ _) rfl (fun h => absurd h (by decide))
      | 5, _, ho, hlo, hhi =>
        simp only [List.getElem?_cons_succ, List.getElem?_cons_zero, Option.some.injEq] at ho
        subst ho
        obtain ⟨u4, e4⟩ := hdep ⟨4, .data⟩ (by simp) rfl _ 49 rfl rfl
        rw [show vals 4 = .bool false from e4] at u4
        unfold Oper.wp
        simp [execOp, go_sem, u4]
        exact cameSB _ rfl (by decide) (Below.refl _ _) rfl (fun h => absurd h (by decide))
      | 6, _, ho, hlo, hhi =>
        simp only [List.getElem?_cons_succ, List.getElem?_cons_zero, Option.some.injEq] at ho
        subst ho
        unfold Oper.wp
        simp [execOp, go_sem, t9]
        exact cameSB _ rfl (by decide) (Below.refl _ _) rfl (fun h => absurd h (by decide))
      | 7, _, ho, hlo, hhi =>
        simp only [List.getElem?_cons_succ, List.getElem?_cons_zero, Option.some.injEq] at ho
        subst ho
        exact opw_loadO _ rfl (by simp [Act.eval, t7]) (rB.in.later hG.1) (cameSB _ rfl (by decide) (Below.refl _ _) rfl (fun h => absurd h (by decide)))
      | 8, _, ho, hlo, hhi =>
        simp only [List.getElem?_cons_succ, List.getElem?_cons_zero, Option.some.injEq] at ho
        subst ho
        unfold Oper.wp
        simp [go_sem, ]
        refine (name_ok 2 x).mono ?_
        rintro r x1 ⟨rfl, hb1⟩
        exact cameSB _ rfl (by decide) hb1 rfl (fun h => absurd h (by decide))
      | 9, _, ho, hlo, hhi =>
        simp only [List.getElem?_cons_succ, List.getElem?_cons_zero, Option.some.injEq] at ho
        subst ho
        obtain ⟨u6, e6⟩ := hdep ⟨6, .data⟩ (by simp) rfl _ 51 rfl rfl
        rw [show vals 6 = .pointer (some ⟨mb, 0, none⟩) from e6] at u6
        obtain ⟨u7, e7⟩ := hdep ⟨7, .data⟩ (by simp) rfl _ 52 rfl rfl
        rw [show vals 7 = .agg (ov xi) from e7] at u7
        obtain ⟨u8, e8⟩ := hdep ⟨8, .data⟩ (by simp) rfl _ 53 rfl rfl
        rw [show vals 8 = .agg (idc 4 2 1) from e8] at u8
        have hk0 : kk = 1 := Nat.le_antisymm (Nat.le_trans hhi (Nat.le_of_eq (by kernel_rfl))) (Nat.le_trans (Nat.le_of_eq (by kernel_rfl)) hlo)
        unfold Oper.wp
        simp [go_sem, u6, u7, u8]
        refine (HA2.out x (hG.2.2.1 hk0)).mono ?_
        rintro r x1 ⟨rfl, hM1, hk1⟩
        exact cameSX _ rfl (by decide) ⟨trivial, ⟨K2.below hG.1 hk1 g1 g2 hG.1.size, fun h => absurd h (by omega), fun h => absurd h (by omega), fun _ => hM1⟩, hk1.size⟩ rfl rfl
      | 10, _, ho, hlo, hhi =>
        simp only [List.getElem?_cons_succ, List.getElem?_cons_zero, Option.some.injEq] at ho
        subst ho
        obtain ⟨u9, e9⟩ := hdep ⟨9, .data⟩ (by simp) rfl _ 54 rfl rfl
        rw [show vals 9 = .nilIface from e9] at u9
        unfold Oper.wp
        simp [execOp, go_sem, u9]
        exact cameSB _ rfl (by decide) (Below.refl _ _) rfl (fun h => absurd h (by decide))
      | 11, _, ho, hlo, hhi =>
        simp only [List.getElem?_cons_succ, List.getElem?_cons_zero, Option.some.injEq] at ho
        subst ho
        obtain ⟨u5, e5⟩ := hdep ⟨5, .data⟩ (by simp) rfl _ 50 rfl rfl
        rw [show vals 5 = .bool false from e5] at u5
        obtain ⟨u10, e10⟩ := hdep ⟨10, .data⟩ (by simp) rfl _ 55 rfl rfl
        rw [show vals 10 = .bool false from e10] at u10
        unfold Oper.wp
        simp [execOp, go_sem, u5, u10]
        exact cameSB _ rfl (by decide) (Below.refl _ _) rfl (fun h => absurd h (by decide))
      | m + 12, hi, _, _, _ => exact absurd hi (by omega)
    · intro vals x hG hRv _
      have q11 : vals 11 = .bool false := hRv 11 (by decide)
      have hBx : Below w6.heap.size w6 x := hG.1
      have hMx := hG.2.2.2 rfl
      simp only [List.take, List.drop, putAll, q11]
      clear hRv q11 hG HA1 HA2 hM8 hb8
      try simp only [List.setIfInBounds_toArray, List.set_cons_succ, List.set_cons_zero]
      have HE := hid_of' (elements_ok hMx.mv (by omega))
      have hgd2 : ∀ e ∈ undL out xa, rightC e.ch = true := fun e he => (hR2.good e he).2.1
      have HV2 := hid_of' (fun (y : World) (h : Below x.heap.size x y) => view_ok (hMx.mv.later h) (by omega) hgd2)
      rw [HVU.out] at HV2
      unfold pv at HE HV2
      clear hgd2 HVU
      go_upto_region 15 with (go_at_call 24; refine HE.out.mono ?_; clear HE; rintro r w9 ⟨uq, rfl, hoq, hb9⟩; obtain ⟨aq, cq, hq9⟩ := hoq.form; subst hq9)
      have rA9 := (rA.later hBx).later hb9
      have cA : w9.cell? ⟨gA, 0, none⟩ = some (.int .i64 xa.k) := rA9.cell 0
      by_cases k1 : xa.k = 1
      · have e1 : (xa.k == 1) = true := by rw [k1]; rfl
        go_upto_region 16 with fail
        clear e1 cA
        have hcut := hid_of' (und_cut hva k1)
        have hins := und_ins hva k1
        obtain ⟨P, hP⟩ : ∃ P : Nat, xa.p = (P : Int) := ⟨xa.p.toNat, by omega⟩
        have hPt : xa.p.toNat = P := by omega
        have hPo : P ≤ out.length := by omega
        rw [hPt] at hins hcut
        have hlu : (undL out xa).length = out.length + 1 := by rw [hins, insE_len hPo]
        have hel : (undL out xa)[P]? = some ⟨4, 2, 1, xa.c, 1⟩ := by rw [hins, insE_at hPo, if_neg (by omega), if_pos rfl]
        obtain ⟨g, c, hgg, hvq, hEl, hlc, hcm⟩ := hoq.room (by intro e; rw [e] at hlu; simp at hlu)
        simp only [Value.slice.injEq] at hvq
        obtain ⟨rfl, _, rfl⟩ := hvq
        have hce := hEl P _ hel
        rw [Nat.zero_add] at hce
        have d1 : ∀ s : Wld w9, (wOf s).cell? ⟨gA, 1, none⟩ = some (.int .i64 (P : Int)) := fun s => by rw [← hP]; exact rA9.cls 1 _ rfl s
        have d4 : ∀ s : Wld w9, (wOf s).cell? ⟨g, P * 5 + 4, none⟩ = some (.int .i64 1) := fun s => (hce.cls _ ⟨s, rfl⟩).2 4 _ rfl
        have hq := eq_I 4 2 1
        have LU := hid_of' (And.intro hlu hins)
        obtain ⟨N, hN⟩ : ∃ N, (undL out xa).length = N := ⟨_, rfl⟩
        rw [hN] at hlu hlc hoq ⊢
        have hs : (out.length : Int) + 1 = (N : Int) := by omega
        have u1 : (P : Int) < (N : Int) := by omega
        have u3 : (out.length : Int) ≤ 60 := by omega
        have HN := hid_of' hN
        clear hlu hins hPt hel hN
        have hB : Below x.heap.size x w9 := hb9
        refine wp_region_cls (by kernel_rfl) (by kernel_rfl) ?_
        repeat (first | go_big_quiet_skip | (go_big_quiet_want; first | (refine quiet_load_in _ _ rfl rfl (id_at hce).cls Tryd.underlying53 rfl (id_size 4 2 1) ?_; simp only [Act.put, List.setIfInBounds_toArray, List.set_cons_succ, List.set_cons_zero]; go_big_quiet_on) | (go_big_quiet_op; first | go_big_quiet_on | go_big_quiet_call ((go_at_call 23; exact cls_of (name_ok 2 _))))))
        refine wpQuiet_nil ?_
        rintro w1 ⟨s1, e1⟩
        have hb1 := wOf_below s1
        rw [← e1] at hb1
        clear e1 s1
        replace rA9 := rA9.later hb1
        replace hEl := hEl.later hb1
        replace hB := bgo hB hb1
        clear hb1
        have cP : w1.cell? ⟨gA, 1, none⟩ = some (.int .i64 (P : Int)) := by rw [← hP]; exact rA9.cell 1
        have HC := hid_of' (cut_ok hEl (by rw [HN.out]; exact hlc) hcm P (by rw [HN.out]; omega) (by omega))
        rw [hcut.out, HN.out] at HC
        clear d1 d4 hce hq u1 u3 hs
        go_upto_region 19 with (go_at_call 25; refine HC.out.mono ?_; clear HC; rintro r wc ⟨uc2, rfl, hoc, hbc⟩; obtain ⟨ac, cc, hqc⟩ := hoc.form; subst hqc)
        have SN := hoc.sl
        have hbN := bgo hB hbc
        clear hoc hoq hEl cP rA9
        go_wp2_with (first | (go_at_call 21; (with_reducible refine (HV2.out _ hbN).mono ?_); rintro r wv ⟨rfl, hbv⟩; have HQ := hid_of' (elements_eq (SN.later hbv) (hS6.later (bgo (bgo hBx hbN) hbv)) (by omega)); have hq := strEqI ⟨(encL (vis out)).toArray⟩) | (go_at_call 13; refine HQ.out.mono ?_; rintro r we ⟨rfl, hbe⟩) | (go_at_call 17; refine (HW.out _).mono ?_; rintro r wf ⟨rfl, hbf⟩))
        go_ret
        exact ⟨rfl, bgo (bgo (bgo (bgo (bgo hb6 hBx) hbN) hbv) hbe) hbf⟩
      · have e1 : (xa.k == 1) = false := ne_beq k1
        have hsame := und_else (l := out) k1 (by omega)
        have SN : SlE w9 (.slice aq (undL out xa).length cq) out := by
          have := hoq.sl
          rw [hsame] at this ⊢
          exact this
        have hbN : Below x.heap.size x w9 := hb9
        clear hsame
        go_wp2_with (first | (go_at_call 21; (with_reducible refine (HV2.out _ hbN).mono ?_); rintro r wv ⟨rfl, hbv⟩; have HQ := hid_of' (elements_eq (SN.later hbv) (hS6.later (bgo (bgo hBx hbN) hbv)) (by omega)); have hq := strEqI ⟨(encL (vis out)).toArray⟩) | (go_at_call 13; refine HQ.out.mono ?_; rintro r we ⟨rfl, hbe⟩) | (go_at_call 17; refine (HW.out _).mono ?_; rintro r wf ⟨rfl, hbf⟩))
        go_ret
        exact ⟨rfl, bgo (bgo (bgo (bgo (bgo hb6 hBx) hbN) hbv) hbe) hbf⟩
end Go.Proofs.YtdafkakigigdeaaDoor
