
/-
  barrowlaw14.does; UndoExact.
-/
import Derived.Test.YtgkbgojgpomcdaaDoorUn22
import Derived.Test.YtgkbgojgpomcdaaDoorUn23
import Derived.Test.YtgkbgojgpomcdaaDoorUn24
import Derived.Test.YtgkbgojgpomcdaaDoorUnOq
namespace Go.Proofs.YtgkbgojgpomcdaaDoor
open Go.RowKit Go.Extern.Stop Go.Stop Go.Extern
set_option maxRecDepth 100000

theorem last_ex {α : Type} {l : List α} (h : l ≠ []) : ∃ n x, l.length = n + 1 ∧ l[n]? = some x := by
  have hp : 0 < l.length := List.length_pos_iff.2 h
  exact ⟨l.length - 1, l[l.length - 1]'(by omega), by omega, List.getElem?_eq_getElem _⟩
/-- Any call. -/
theorem does_all {N P Bs Br : Nat} {d u : List (List Xg)} {vd vu vd' vu' : Value} {F F' : Nat → Prop} {w : World} (h : PrAt N P Bs Br d u vd vu vd' vu' F F' w) {ad : Nat → Addr} (hLa : ∀ x, Below N w x → Laid ad x) {o : Uop} {W : World} (ho : o.Ok W) (hL : ∀ x, Below N w x → SlD x o.v o.l) :
    Calls Tryd.prog 10 #[.pointer (some ⟨P, 0, none⟩), .agg (uov o)] w fun e w' => DoQ N P Bs Br w e w' := by
  have hlt := wiN_lt (n := o.dd) (m := 6) (by decide)
  unfold uov
  rcases (by omega : wiN o.dd 6 = 0 ∨ wiN o.dd 6 = 1 ∨ wiN o.dd 6 = 2 ∨ wiN o.dd 6 = 3 ∨ wiN o.dd 6 = 4 ∨ wiN o.dd 6 = 5) with hm | hm | hm | hm | hm | hm
  · by_cases he : o.l.take 20 = []
    · exact does_done_none h o.dd ho.dd o.rd hLa hL ho.cap he hm
    · exact does_done_some h o.dd ho.dd o.rd hLa hL ho.cap he hm
  · by_cases he : d = []
    · exact does_undo_no h o.dd ho.dd o.rd hLa hL ho.cap he hm
    · obtain ⟨n, l, hn, hl⟩ := last_ex he
      exact does_undo_yes h o.dd ho.dd o.rd hLa hL ho.cap hn hl hm
  · by_cases he : u = []
    · exact does_redo_no h o.dd ho.dd o.rd hLa hL ho.cap he hm
    · obtain ⟨n, l, hn, hl⟩ := last_ex he
      exact does_redo_yes h o.dd ho.dd o.rd hLa hL ho.cap hn hl hm
  · cases hr : o.rd
    · by_cases he : d = []
      · exact does_peekUndo_no h o.dd ho.dd hLa hL ho.cap he hm
      · obtain ⟨n, l, hn, hl⟩ := last_ex he
        exact does_peekUndo_yes h o.dd ho.dd hLa hL ho.cap hn hl hm
    · by_cases he : u = []
      · exact does_peekRedo_no h o.dd ho.dd hLa hL ho.cap he hm
      · obtain ⟨n, l, hn, hl⟩ := last_ex he
        exact does_peekRedo_yes h o.dd ho.dd hLa hL ho.cap hn hl hm
  · exact does_clear h o.dd ho.dd o.rd hLa hL ho.cap hm
  · exact does_same h o.dd ho.dd o.rd hLa hL ho.cap hm
theorem uo_size (e : Uop) : (Tryd.prog.info? 35).map (·.size) = some (uov e).size := (by kernel_rfl : (Tryd.prog.info? 35).map (·.size) = some 3)
theorem wpL_loadU {ops : Array Oper} {rest : List Oper} {o : Oper} {A : Act} {w : World} {Q : Exit → Act → World → Prop} (hgd : o.guard = none) (x : Operand) (ho : o.op = .load 35 x) {b off : Nat} (hx : A.eval x = .pointer (some ⟨b, off, none⟩)) {p : Uop} (h : CsIn b off (uov p) w)
    (k : wpList Tryd.prog ops Q rest (A.put o.dst (.agg (uov p))) w) : wpList Tryd.prog ops Q (o :: rest) A w := wpList_plain hgd fun _ hK => by
  unfold Oper.wp execOp
  simp only [ho, hx, Instr.loadAt, Instr.sureAddr, Sem.run_bind, Sem.run_pure, Result.andThen_ok, run_loadVar_in h Tryd.underlying35 rfl (uo_size p)]
  exact hK _ _ k
theorem SlU.form {w : World} {v : Value} {l : List Uop} (h : SlU w v l) : ∃ a c, v = .slice a l.length c := by
  rcases h with ⟨rfl, a, c, rfl⟩ | ⟨g, o_, c, rfl, _⟩
  · exact ⟨a, c, rfl⟩
  · exact ⟨_, c, rfl⟩
theorem SlU.some' {w : World} {a : Option Addr} {n c : Nat} {l : List Uop} (h : SlU w (.slice a n c) l) (h0 : l ≠ []) : n = l.length ∧ ∃ g o_, a = Option.some ⟨g, o_, none⟩ ∧ ∀ i e, l[i]? = some e → CsIn g (o_ + i * 3) (uov e) w := by
  rcases h with ⟨h, _⟩ | ⟨g, o_, c', hv, hc⟩
  · exact absurd h h0
  · simp only [Value.slice.injEq] at hv
    exact ⟨hv.2.1, g, o_, hv.1, hc⟩
/-- A new pair. -/
theorem pair_new {W w1 : World} (h : SkAt 68 W.heap.size (.slice none 0 0) (.slice none 0 0) (fun k => k = W.heap.size) [] [] w1) (_hb : Below W.heap.size W w1) :
    PrAt W.heap.size (w1.heap.size + 1) W.heap.size w1.heap.size [] [] (.slice none 0 0) (.slice none 0 0) (.slice none 0 0) (.slice none 0 0) (fun k => k = W.heap.size) (fun k => k = w1.heap.size) ((w1.alloc (.cells #[.slice none 0 0, .slice none 0 0] 29)).alloc (.cells #[.pointer (some ⟨W.heap.size, 0, none⟩), .pointer (some ⟨w1.heap.size, 0, none⟩)] 31)) := by
  have hl := h.lt _ rfl
  have b1 := below_one w1 (.cells #[.slice none 0 0, .slice none 0 0] 29)
  have b2 := below_one (w1.alloc (.cells #[.slice none 0 0, .slice none 0 0] 29)) (.cells #[.pointer (some ⟨W.heap.size, 0, none⟩), .pointer (some ⟨w1.heap.size, 0, none⟩)] 31)
  have r1 := row_new w1 #[.slice none 0 0, .slice none 0 0] 29
  have r2 := row_new (w1.alloc (.cells #[.slice none 0 0, .slice none 0 0] 29)) #[.pointer (some ⟨W.heap.size, 0, none⟩), .pointer (some ⟨w1.heap.size, 0, none⟩)] 31
  rw [World.size_alloc] at r2
  have hr : SkAt 29 w1.heap.size (.slice none 0 0) (.slice none 0 0) (fun k => k = w1.heap.size) [] [] (w1.alloc (.cells #[.slice none 0 0, .slice none 0 0] 29)) := ⟨r1, ERow.nil _ _, ERow.nil _ _, fun k hk => (by cases hk), by simp, by simp, rfl, fun k hk => (by cases hk), fun k hk => (by cases hk), fun k hk => by subst hk; simp⟩
  exact ⟨r2, (h.later b1).later b2, hr.later b2, fun k h1 h2 => by omega, by omega, by omega, by omega, fun k hk => by omega, fun k hk => by omega⟩
set_option maxHeartbeats 8000000 in
theorem undoExact_all {ad : Nat → Addr} {W : World} {v : Value} {l : List Uop} (L : Laid ad W) (h : SlU W v l ∧ ∀ x ∈ l, x.Ok W) :
    Calls Tryd.prog 3 #[v] W fun e w' => e = .returned (.bool true) ∧ Below W.heap.size W w' := by
  obtain ⟨a, c, rfl⟩ := h.1.form
  have H := hid_of' h
  have HL := hid_of' L
  have HN := hid_of' (new_ok W)
  have HW := hid_of' wakes14_ok
  clear h L
  go_enter Tryd.func3, Tryd.ntmps3
  go_upto_region 6 with (go_at_call 9; refine HN.out.mono ?_; rintro e w1 ⟨rfl, hg1, hb1⟩; clear HN; have H1 := hid_of' (And.intro hg1 hb1); clear hg1 hb1)
  have hP := pair_new H1.out.1 H1.out.2
  have hb3 : Below W.heap.size W ((w1.alloc (.cells #[.slice none 0 0, .slice none 0 0] 29)).alloc (.cells #[.pointer (some ⟨W.heap.size, 0, none⟩), .pointer (some ⟨w1.heap.size, 0, none⟩)] 31)) := bgo H1.out.2 (bgo (below_one w1 _) (below_one _ _))
  have HP := hid_of' (And.intro hP hb3)
  clear hP hb3
  generalize hBs : W.heap.size = Bs at HP ⊢
  generalize hBr : w1.heap.size = Br at HP ⊢
  generalize hPp : Br + 1 = P at HP ⊢
  generalize (w1.alloc (.cells #[.slice none 0 0, .slice none 0 0] 29)).alloc (.cells #[.pointer (some ⟨Bs, 0, none⟩), .pointer (some ⟨Br, 0, none⟩)] 31) = W3 at HP ⊢
  have HBs := hid_of' hBs
  clear hBr hPp H1 hBs
  go_loopw [5] (fun iv wr => ∃ (i : Nat), iv = .int .i64 (i : Int) ∧ i ≤ 200 ∧ (∃ d u vd vu vd' vu' F F', PrAt Bs P Bs Br d u vd vu vd' vu' F F' wr) ∧ Below Bs W wr) (fun iv _ => 200 - (intOf iv).toNat)
  case atStart => exact ⟨0, rfl, by omega, ⟨_, _, _, _, _, _, _, _, HP.out.1⟩, HP.out.2⟩
  case round =>
    obtain ⟨i, rfl, hi, ⟨d, u, vd, vu, vd', vu', F, F', hP⟩, hB⟩ := hrel
    by_cases hil : i < l.length ∧ i < 200
    · obtain ⟨h1, h2⟩ := hil
      have hi1 : (i : Int) < (l.length : Int) := by omega
      have hi2 : (i : Int) < 200 := by omega
      obtain ⟨o, ho⟩ : ∃ o, l[i]? = some o := ⟨_, List.getElem?_eq_getElem h1⟩
      obtain ⟨_, g, o_, rfl, hc⟩ := H.out.1.some' (by rintro rfl; simp at h1)
      have hok := H.out.2 o (List.mem_of_getElem? ho)
      have hBw : Below W.heap.size W wr := HBs.out.symm ▸ hB
      have hcs := (hc i o ho).later hBw
      have HDo := hid_of' (does_all hP (ad := ad) (fun x hx => HL.out.below (hBw.trans (HBs.out ▸ hx))) hok (fun x hx => hok.sl.later (hBw.trans (HBs.out ▸ hx))))
      have HB := hid_of' hB
      clear hc ho hok hBw hP hB
      go_upto_region 10 with (first | (refine wpL_loadU rfl _ rfl rfl hcs ?_) | (go_at_call 10; (with_reducible refine HDo.out.mono ?_); rintro e w4 ⟨rfl, ⟨d4, u4, vd4, vu4, vd5, vu5, F4, F5, hP4⟩, hb4⟩; clear HDo))
      have HDp := hid_of' (depth_is hP4.s)
      have H4 := hid_of' (And.intro hP4 (HB.out.trans hb4))
      obtain ⟨ad', cd', hvd, _⟩ := hP4.r.rd.form
      obtain ⟨au', cu', hvu, _⟩ := hP4.r.ru.form
      subst hvd hvu
      clear hP4 hb4 hcs
      go_upto_region 11 with (go_at_call 11; refine HDp.out.mono ?_; rintro e w5 ⟨rfl, hb5⟩; clear HDp)
      have hP5 := H4.out.1.later hb5
      have p1 : w5.cell? ⟨P, 1, none⟩ = some (.pointer (some ⟨Br, 0, none⟩)) := hP5.lies.cellIs 1 rfl
      have q0 : w5.cell? ⟨Br, 0, none⟩ = some (.slice ad' d4.length cd') := hP5.r.lies.cellIs 0 rfl
      have q1 : w5.cell? ⟨Br, 1, none⟩ = some (.slice au' u4.length cu') := hP5.r.lies.cellIs 1 rfl
      have H5 := hid_of' (And.intro hP5 (H4.out.2.trans (hb5.mono H4.out.1.size)))
      clear hP5 hb5 H4
      go_wp2
      go_roundw
      case rel => exact ⟨i + 1, by go_num, by omega, ⟨_, _, _, _, _, _, _, _, H5.out.1⟩, H5.out.2⟩
      case measure => simp [intOf]; omega
    · have HS := hid_of' (same_ok hP)
      have HB := hid_of' (And.intro hB hP.size)
      clear hP hB
      by_cases h1 : i < l.length
      · have hi1 : (i : Int) < (l.length : Int) := by omega
        have hi2 : ¬ (i : Int) < 200 := by omega
        clear hil
        go_wp2_with (first | (go_at_call 12; (with_reducible refine HS.out.mono ?_); rintro e w6 ⟨rfl, hb6⟩; clear HS; have H6 := hid_of' hb6; clear hb6) | (go_at_call 13; refine (HW.out _).mono ?_; rintro e w7 ⟨rfl, hb7⟩))
        go_ret
        exact ⟨rfl, HBs.out.symm ▸ HB.out.1.trans ((bgo H6.out hb7).mono HB.out.2)⟩
      · have hi1 : ¬ (i : Int) < (l.length : Int) := by omega
        clear hil
        go_wp2_with (first | (go_at_call 12; (with_reducible refine HS.out.mono ?_); rintro e w6 ⟨rfl, hb6⟩; clear HS; have H6 := hid_of' hb6; clear hb6) | (go_at_call 13; refine (HW.out _).mono ?_; rintro e w7 ⟨rfl, hb7⟩))
        go_ret
        exact ⟨rfl, HBs.out.symm ▸ HB.out.1.trans ((bgo H6.out hb7).mono HB.out.2)⟩
end Go.Proofs.YtgkbgojgpomcdaaDoor
