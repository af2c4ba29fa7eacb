
/-
  barrowlaw14.does.
-/
import Derived.Test.YtgkbgojgpomcdaaDoorUt22
import Derived.Test.YtgkbgojgpomcdaaDoorUt23
import Derived.Test.YtgkbgojgpomcdaaDoorUt24
import Derived.Test.YtgkbgojgpomcdaaDoorUnOq
namespace Go.Proofs.YtgkbgojgpomcdaaDoor
open Go.RowKit Go.Extern.Stop Go.Stop Go.Extern
set_option maxRecDepth 100000

theorem last_ex {α : Type} {l : List α} (h : l ≠ []) : ∃ n x, l.length = n + 1 ∧ l[n]? = some x := by
  have hp : 0 < l.length := List.length_pos_iff.2 h
  exact ⟨l.length - 1, l[l.length - 1]'(by omega), by omega, List.getElem?_eq_getElem _⟩
/-- Any call. -/
theorem does_all {N P Bs Br : Nat} {d u : List (List Xg)} {vd vu vd' vu' : Value} {F F' : Nat → Prop} {w : World} (h : PrAt N P Bs Br d u vd vu vd' vu' F F' w) {ad : Nat → Addr} (hLa : ∀ x, Below N w x → Laid ad x) {o : Uop} {W : World} (ho : o.Ok W) (hL : ∀ x, Below N w x → SlD x o.v o.l) :
    Calls Tryd.prog 10 #[.pointer (some ⟨P, 0, none⟩), .agg (uov o)] w fun e w' => DoQ (d.length + u.length) N P Bs Br w e w' := by
  have hlt := wiN_lt (n := o.dd) (m := 6) (by decide)
  unfold uov
  rcases (by omega : wiN o.dd 6 = 0 ∨ wiN o.dd 6 = 1 ∨ wiN o.dd 6 = 2 ∨ wiN o.dd 6 = 3 ∨ wiN o.dd 6 = 4 ∨ wiN o.dd 6 = 5) with hm | hm | hm | hm | hm | hm
  · by_cases he : o.l.take 20 = []
    · exact does_done_none h o.dd ho.dd o.rd hLa hL ho.cap he hm
    · exact does_done_some h o.dd ho.dd o.rd hLa hL ho.cap he hm
  · by_cases he : d = []
    · exact does_undo_no h o.dd ho.dd o.rd hLa hL ho.cap he hm
    · obtain ⟨n, l, hn, hl⟩ := last_ex he
      exact does_undo_yes h o.dd ho.dd o.rd hLa hL ho.cap hn hl hm
  · by_cases he : u = []
    · exact does_redo_no h o.dd ho.dd o.rd hLa hL ho.cap he hm
    · obtain ⟨n, l, hn, hl⟩ := last_ex he
      exact does_redo_yes h o.dd ho.dd o.rd hLa hL ho.cap hn hl hm
  · cases hr : o.rd
    · by_cases he : d = []
      · exact does_peekUndo_no h o.dd ho.dd hLa hL ho.cap he hm
      · obtain ⟨n, l, hn, hl⟩ := last_ex he
        exact does_peekUndo_yes h o.dd ho.dd hLa hL ho.cap hn hl hm
    · by_cases he : u = []
      · exact does_peekRedo_no h o.dd ho.dd hLa hL ho.cap he hm
      · obtain ⟨n, l, hn, hl⟩ := last_ex he
        exact does_peekRedo_yes h o.dd ho.dd hLa hL ho.cap hn hl hm
  · exact does_clear h o.dd ho.dd o.rd hLa hL ho.cap hm
  · exact does_same h o.dd ho.dd o.rd hLa hL ho.cap hm
theorem uo_size (e : Uop) : (Tryd.prog.info? 35).map (·.size) = some (uov e).size := (by kernel_rfl : (Tryd.prog.info? 35).map (·.size) = some 3)
theorem wpL_loadU {ops : Array Oper} {rest : List Oper} {o : Oper} {A : Act} {w : World} {Q : Exit → Act → World → Prop} (hgd : o.guard = none) (x : Operand) (ho : o.op = .load 35 x) {b off : Nat} (hx : A.eval x = .pointer (some ⟨b, off, none⟩)) {p : Uop} (h : CsIn b off (uov p) w)
    (k : wpList Tryd.prog ops Q rest (A.put o.dst (.agg (uov p))) w) : wpList Tryd.prog ops Q (o :: rest) A w := wpList_plain hgd fun _ hK => by
  unfold Oper.wp execOp
  simp only [ho, hx, Instr.loadAt, Instr.sureAddr, Sem.run_bind, Sem.run_pure, Result.andThen_ok, run_loadVar_in h Tryd.underlying35 rfl (uo_size p)]
  exact hK _ _ k
theorem SlU.form {w : World} {v : Value} {l : List Uop} (h : SlU w v l) : ∃ a c, v = .slice a l.length c := by
  rcases h with ⟨rfl, a, c, rfl⟩ | ⟨g, o_, c, rfl, _⟩
  · exact ⟨a, c, rfl⟩
  · exact ⟨_, c, rfl⟩
theorem SlU.some' {w : World} {a : Option Addr} {n c : Nat} {l : List Uop} (h : SlU w (.slice a n c) l) (h0 : l ≠ []) : n = l.length ∧ ∃ g o_, a = Option.some ⟨g, o_, none⟩ ∧ ∀ i e, l[i]? = some e → CsIn g (o_ + i * 3) (uov e) w := by
  rcases h with ⟨h, _⟩ | ⟨g, o_, c', hv, hc⟩
  · exact absurd h h0
  · simp only [Value.slice.injEq] at hv
    exact ⟨hv.2.1, g, o_, hv.1, hc⟩
/-- A new pair. -/
theorem pair_new {W w1 : World} (h : SkAt 68 W.heap.size (.slice none 0 0) (.slice none 0 0) (fun k => k = W.heap.size) [] [] w1) (_hb : Below W.heap.size W w1) :
    PrAt W.heap.size (w1.heap.size + 1) W.heap.size w1.heap.size [] [] (.slice none 0 0) (.slice none 0 0) (.slice none 0 0) (.slice none 0 0) (fun k => k = W.heap.size) (fun k => k = w1.heap.size) ((w1.alloc (.cells #[.slice none 0 0, .slice none 0 0] 29)).alloc (.cells #[.pointer (some ⟨W.heap.size, 0, none⟩), .pointer (some ⟨w1.heap.size, 0, none⟩)] 31)) := by
  have hl := h.lt _ rfl
  have b1 := below_one w1 (.cells #[.slice none 0 0, .slice none 0 0] 29)
  have b2 := below_one (w1.alloc (.cells #[.slice none 0 0, .slice none 0 0] 29)) (.cells #[.pointer (some ⟨W.heap.size, 0, none⟩), .pointer (some ⟨w1.heap.size, 0, none⟩)] 31)
  have r1 := row_new w1 #[.slice none 0 0, .slice none 0 0] 29
  have r2 := row_new (w1.alloc (.cells #[.slice none 0 0, .slice none 0 0] 29)) #[.pointer (some ⟨W.heap.size, 0, none⟩), .pointer (some ⟨w1.heap.size, 0, none⟩)] 31
  rw [World.size_alloc] at r2
  have hr : SkAt 29 w1.heap.size (.slice none 0 0) (.slice none 0 0) (fun k => k = w1.heap.size) [] [] (w1.alloc (.cells #[.slice none 0 0, .slice none 0 0] 29)) := ⟨r1, ERow.nil _ _, ERow.nil _ _, fun k hk => (by cases hk), by simp, by simp, rfl, fun k hk => (by cases hk), fun k hk => (by cases hk), fun k hk => by subst hk; simp⟩
  exact ⟨r2, (h.later b1).later b2, hr.later b2, fun k h1 h2 => by omega, by omega, by omega, by omega, fun k hk => by omega, fun k hk => by omega⟩
end Go.Proofs.YtgkbgojgpomcdaaDoor
