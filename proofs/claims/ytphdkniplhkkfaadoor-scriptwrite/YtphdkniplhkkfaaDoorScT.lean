
/-
  Package script: strconv.Itoa, rows of strings of one's own.
-/
import Derived.Test.YtphdkniplhkkfaaDoorScJ
import Derived.Test.YtphdkniplhkkfaaDoorSq13
import Derived.Test.YtphdkniplhkkfaaDoorScSh
import Derived.Lib.ItoaLen
namespace Go.Proofs.YtphdkniplhkkfaaDoor
open Go.RowKit Go.Extern.Stop Go.Stop Go.Extern
open Go.Lib (itoa itoa_length_le TabIs pow10Tab)
set_option maxRecDepth 100000

theorem below_growN (w : World) (k : Nat) (os : Array Obj) : Below w.heap.size w (Sort.grow (w.drewN k) os) :=
  ⟨rfl, rfl, rfl, by show w.heap.size ≤ (w.heap ++ os).size; rw [Array.size_append]; omega, fun _ hj => Sort.heap_grow_old (w.drewN k) os hj⟩
/-- A number, written. -/
def itB (n : Int) : ByteArray := ⟨(itoa n).toArray⟩
def TabOk (w : World) : Prop := ∀ x, Below w.heap.size w x → TabIs Tryd.prog x "internal/strconv.uint64pow10" .u64 pow10Tab
theorem TabOk.later {w w' : World} (h : TabOk w) (hb : Below w.heap.size w w') : TabOk w' := fun x hx => h x (bgo hb hx)
theorem itoa_is (n : Int) (h0 : 0 ≤ n) (h1 : n ≤ 100000) {w : World} (ht : TabOk w) :
    Calls Tryd.prog 26 #[.int .i64 n] w fun e w' => e = .returned (.string (itB n)) ∧ Below w.heap.size w w' := by
  refine (Tryd.strconv_Itoa n (by omega) (by omega) w (ht w (Below.refl _ _))).mono ?_
  rintro e w' ⟨rfl, k, os, rfl⟩
  exact ⟨rfl, below_growN w k os⟩
theorem itB_size (n : Int) (h0 : 0 ≤ n) (h1 : n ≤ 100000) : (itB n).size ≤ 21 := by
  have := itoa_length_le n (by omega) (by omega)
  unfold itB
  show (itoa n).toArray.size ≤ 21
  rw [List.size_toArray]
  exact this
theorem nameB_size (k : Int) : (nameB k).size ≤ 20 := by
  unfold nameB
  split
  · next h =>
    obtain ⟨n, rfl⟩ : ∃ n : Nat, k = (n : Int) := ⟨k.toNat, by omega⟩
    have hn : n < 14 := by omega
    rw [Int.toNat_natCast]
    match n, hn with
    | 0, _ => decide
    | 1, _ => decide
    | 2, _ => decide
    | 3, _ => decide
    | 4, _ => decide
    | 5, _ => decide
    | 6, _ => decide
    | 7, _ => decide
    | 8, _ => decide
    | 9, _ => decide
    | 10, _ => decide
    | 11, _ => decide
    | 12, _ => decide
    | 13, _ => decide
    | n + 14, h => omega
  · decide
theorem info_s : (Tryd.prog.info? 9).map (fun i => (i.zero, i.size, i.bytes)) = some (some (.string .empty), 1, 16) := by kernel_rfl
theorem wpL_appS {ops : Array Oper} {rest : List Oper} {o : Oper} {A : Act} {w : World} {Q : Exit → Act → World → Prop} (hgd : o.guard = none) (s x : Operand) (ho : o.op = .call { callee := .builtin .append, args := #[s, x], argTypes := #[44, 44] })
    {u v : Value} {l m : List ByteArray} (hs : A.eval s = v) (hx : A.eval x = u) (hv : RwS v l w) (hu : So 1 u m.length (m.map Value.string) w) (hl : l.length + m.length ≤ 100000)
    (k : ∀ v' w', RwS v' (l ++ m) w' → w.grownBy w' v.ownBlock → At' w v v' → wpList Tryd.prog ops Q rest (A.put o.dst v') w') : wpList Tryd.prog ops Q (o :: rest) A w := by
  obtain ⟨i0, hi, h1, h2, h3⟩ := info_parts info_s
  refine wpL_app (P := Tryd.prog) hgd s x 44 ho 9 i0 _ 1 16 Tryd.underlying44 hi h1 h2 h3 rfl hs hx hv hu (fun u hu => by obtain ⟨z, _, rfl⟩ := List.mem_map.1 hu; rfl) (by unfold maxLen; omega) (by omega) fun v' w' q1 q2 q3 => k v' w' ?_ q2 q3
  unfold RwS
  rw [List.length_append, List.map_append]
  exact q1
theorem RwS.later {v : Value} {xs : List ByteArray} {w w' : World} (h : RwS v xs w) (hb : Below w.heap.size w w') : RwS v xs w' := Rw.later h hb
/-- Four strings, put into a new row. -/
theorem rwS_new (w : World) (a b c d : ByteArray) : RwS (.slice (some ⟨w.heap.size, 0, none⟩) 4 4) [a, b, c, d] (w.alloc (.cells #[.string a, .string b, .string c, .string d] 9)) := by
  refine ⟨rfl, .inr ⟨w.heap.size, 4, #[.string a, .string b, .string c, .string d], rfl, RowAt.new w _ _, Nat.le_refl _, by unfold maxLen; omega, Nat.le_refl _, rfl⟩⟩
theorem so_s1 (w : World) (a : ByteArray) : So 1 (.slice (some ⟨w.heap.size, 0, none⟩) 1 1) [a].length ([a].map Value.string) (w.alloc (.cells #[.string a] 9)) := so_new w 9 1 #[.string a] rfl _ rfl
end Go.Proofs.YtphdkniplhkkfaaDoor
