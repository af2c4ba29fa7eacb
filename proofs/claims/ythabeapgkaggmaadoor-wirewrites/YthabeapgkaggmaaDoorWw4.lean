
/-
  barrowlaw02.WireWrites: a drawn region of two calls, one behind the other.
-/
import Derived.Test.YthabeapgkaggmaaDoorWw3
import Derived.Test.YthabeapgkaggmaaDoorInvGU
import Derived.Test.YthabeapgkaggmaaDoorOpenI
import Derived.Test.YthabeapgkaggmaaDoorLists
namespace Go.Proofs.YthabeapgkaggmaaDoor
open Go.RowKit Go.Extern.Stop Go.Stop Go.Extern
set_option maxRecDepth 100000

theorem rep_getD (n j : Nat) : (Array.replicate n false).getD j false = false := by
  simp only [Array.getD_eq_getD_getElem?, Array.getElem?_replicate]
  split <;> rfl
/-- The region, as it comes up: its fourth operation changes what was there, and behind it the eighth. -/
structure RJ2 (A B C : World → Prop) (listed : Array Bool) (x : World) : Prop where
  a : listed.getD 3 false = false → A x
  b : listed.getD 3 false = true → listed.getD 7 false = false → B x
  c : listed.getD 7 false = true → C x
  d : listed.getD 7 false = true → listed.getD 3 false = true
theorem RJ2.at0 {A B C : World → Prop} {listed : Array Bool} {x : World} (h : RJ2 A B C listed x) (h3 : listed.getD 3 false = false) : A x := h.a h3
theorem RJ2.same {A B C : World → Prop} {listed : Array Bool} {x : World} (h : RJ2 A B C listed x) (i : Nat) (h3 : i ≠ 3) (h7 : i ≠ 7) : RJ2 A B C (listed.setIfInBounds i true) x := by
  have e3 := getD_set_ne (listed := listed) false h3
  have e7 := getD_set_ne (listed := listed) false h7
  refine ⟨fun k => h.a ?_, fun k m => h.b ?_ ?_, fun k => h.c ?_, fun k => ?_⟩
  · rw [e3] at k; exact k
  · rw [e3] at k; exact k
  · rw [e7] at m; exact m
  · rw [e7] at k; exact k
  · rw [e7] at k; rw [e3]; exact h.d k
theorem set_at {listed : Array Bool} {i : Nat} (hs : i < listed.size) : (listed.setIfInBounds i true).getD i false = true := by
  simp [Array.getD_eq_getD_getElem?, hs]
theorem RJ2.first {A B C : World → Prop} {listed : Array Bool} {x x' : World} (h : RJ2 A B C listed x) (h3 : listed.getD 3 false = false) (hs : 3 < listed.size) (hB : B x') : RJ2 A B C (listed.setIfInBounds 3 true) x' := by
  have e7 := getD_set_ne (listed := listed) (i := 3) (j := 7) false (by decide)
  have e3 := set_at hs
  refine ⟨fun k => ?_, fun _ _ => hB, fun k => ?_, fun k => e3⟩
  · rw [e3] at k; cases k
  · rw [e7] at k; have := h.d k; rw [h3] at this; cases this
theorem RJ2.second {A B C : World → Prop} {listed : Array Bool} {x x' : World} (_h : RJ2 A B C listed x) (h3 : listed.getD 3 false = true) (hs : 7 < listed.size) (hC : C x') : RJ2 A B C (listed.setIfInBounds 7 true) x' := by
  have e3 := getD_set_ne (listed := listed) (i := 7) (j := 3) false (by decide)
  have e7 := set_at hs
  refine ⟨fun k => ?_, fun _ k => ?_, fun _ => hC, fun k => ?_⟩
  · rw [e3, h3] at k; cases k
  · rw [e7] at k; cases k
  · rw [e3]; exact h3
theorem RJ2.any {A B C D : World → Prop} {listed : Array Bool} {x : World} (h : RJ2 A B C listed x) (hA : ∀ x, A x → D x) (hB : ∀ x, B x → D x) (hC : ∀ x, C x → D x) : D x := by
  cases h3 : listed.getD 3 false with
  | false => exact hA _ (h.a h3)
  | true =>
    cases h7 : listed.getD 7 false with
    | false => exact hB _ (h.b h3 h7)
    | true => exact hC _ (h.c h7)

/-- An Item's cells. -/
def itv (k n : Int) (s : ByteArray) (b : UInt8) : Array Value := #[.int .i64 k, .int .i64 n, .string s, .int .u8 (b.toNat : Int)]
theorem itv_size (k n : Int) (s : ByteArray) (b : UInt8) : (Tryd.prog.info? 29).map (·.size) = some (itv k n s b).size := (by kernel_rfl : (Tryd.prog.info? 29).map (·.size) = some 4)
section
variable {ops : Array Oper} {rest : List Oper} {o : Oper} {a : Act} {w : World} {Q : Exit → Act → World → Prop}
theorem wpL_ldIt (hgd : o.guard = none) (x : Operand) (ho : o.op = .load 29 x) {b off : Nat} (hx : a.eval x = .pointer (some ⟨b, off, none⟩)) {k n : Int} {s : ByteArray} {c : UInt8} (h : CsIn b off (itv k n s c) w)
    (K : wpList Tryd.prog ops Q rest (a.put o.dst (.agg (itv k n s c))) w) : wpList Tryd.prog ops Q (o :: rest) a w :=
  wpList_plain hgd fun _ hK => by
    unfold Oper.wp execOp
    simp only [ho, hx, Instr.loadAt, Instr.sureAddr, Sem.run_bind, Sem.run_pure, Result.andThen_ok, run_loadVar_in h Tryd.underlying29 rfl (itv_size k n s c)]
    exact hK _ _ K
theorem wpL_stIt (hgd : o.guard = none) (x y : Operand) (ho : o.op = .store 29 x y) {z : Array Value} {t : TypeId} (hx : a.eval x = .pointer (some ⟨w.heap.size, 0, none⟩)) {k n : Int} {s : ByteArray} {c : UInt8} (hy : a.eval y = .agg (itv k n s c)) (hz : z.size = 4)
    (K : wpList Tryd.prog ops Q rest (a.put o.dst undef) (w.alloc (.cells (itv k n s c) t))) : wpList Tryd.prog ops Q (o :: rest) a (w.alloc (.cells z t)) := by
  refine wpList_store_row hgd 29 x y ho _ (itv k n s c) hx hy t z (heap_alloc_last _ _ _) (itv_size k n s c) hz (by simp [itv, Value.oneCell']) ?_
  rw [World.setRow_alloc_new]
  exact K
end
theorem ItAt.cs {w : World} {g o : Nat} {x : Itm} (h : ItAt w g o x) : CsIn g o (itv x.kind x.n x.s x.b) w := by
  refine ⟨World.block_lt_of_cell? _ _ h.1, fun j v hv => ?_⟩
  obtain ⟨h0, h1, h2, h3⟩ := h
  match j with
  | 0 =>
    obtain rfl : Value.int .i64 x.kind = v := by simpa [itv] using hv
    exact h0
  | 1 =>
    obtain rfl : Value.int .i64 x.n = v := by simpa [itv] using hv
    exact h1
  | 2 =>
    obtain rfl : Value.string x.s = v := by simpa [itv] using hv
    exact h2
  | 3 =>
    obtain rfl : Value.int .u8 (x.b.toNat : Int) = v := by simpa [itv] using hv
    exact h3
  | j + 4 => simp [itv] at hv
theorem conv_v {w : World} {v : Value} {bs : List UInt8} (h : SlB w v bs) : (convert 25 9 v).run Tryd.prog w = .ok (.string ⟨bs.toArray⟩) w := by
  obtain ⟨a, c, rfl⟩ := h.form
  exact conv_all h
theorem opw_strB {K : Act → World → Prop} {o : Oper} {A : Act} {w : World} {Q : Exit → Act → World → Prop} (x : Operand) (ho : o.op = .convert 25 9 x) {v : Value} {s : ByteArray} (hx : A.eval x = v) (hrun : (convert 25 9 v).run Tryd.prog w = .ok (.string s) w)
    (k : K (A.put o.dst (.string s)) w) : o.wp Tryd.prog A w K Q := by
  unfold Oper.wp execOp
  simp only [ho, hx, Sem.run_bind, hrun, Result.andThen]
  exact k
theorem rw_sl {v : Value} {bs : List UInt8} {w : World} (h : Rw 5 1 v bs.length (Lib.byteCells bs) w) : SlB w v bs := BsAt.sl (K := fun _ => True) ⟨h, fun _ _ => trivial⟩
end Go.Proofs.YthabeapgkaggmaaDoor
