
/-
  The document's side: New, is.
-/
import Derived.Test.YtdojjhhnciaegaaDoorZb28
namespace Go.Proofs.YtdojjhhnciaegaaDoor
open Go.RowKit Go.Extern.Stop Go.Stop Go.Extern
set_option maxRecDepth 100000

/-- No refusal. -/
def nov0 : Value := .agg (nov 0 none 0 0 none 0 0)
theorem refNew_ok (m : Int) (h0 : 0 ≤ m) (h1 : m ≤ 4096) (w : World) :
    Calls Tryd.prog 6 #[.int .i64 m] w fun e w' => e = .returned (.tuple #[.pointer (some ⟨w.heap.size + 1, 0, none⟩), nov0]) ∧ RgAt (w.heap.size + 1) (.slice none 0 0) (bg0 m) (fun _ => False) w' ∧ Below w.heap.size w w' := by
  have hm0 : ¬ m < 0 := by omega
  have hm1 : ¬ 4096 < m := by omega
  have rN := (row_new w #[.int .i64 0, .slice none 0 0, .slice none 0 0] 32).later (below_one _ (.cells #[.int .i64 m, .int .i64 1, .slice none 0 0, .int .i64 0, .int .i64 0, .int .i64 0, .int .i64 0] 47))
  have rB := row_new2 w (.cells #[.int .i64 0, .slice none 0 0, .slice none 0 0] 32) #[.int .i64 m, .int .i64 1, .slice none 0 0, .int .i64 0, .int .i64 0, .int .i64 0, .int .i64 0] 47
  have hb1 := below_two w (.cells #[.int .i64 0, .slice none 0 0, .slice none 0 0] 32) (.cells #[.int .i64 m, .int .i64 1, .slice none 0 0, .int .i64 0, .int .i64 0, .int .i64 0, .int .i64 0] 47)
  have H := hid_of' (And.intro rN (And.intro rB hb1))
  have HM := hid_of' (And.intro h0 h1)
  clear rN rB hb1 h0 h1
  go_enter Tryd.func6, Tryd.ntmps6
  go_wp2_with (refine wpL_storeNo rfl _ _ rfl rfl (code := 0) (a := none) (n := 0) (c := 0) (a' := none) (n' := 0) (c' := 0) rfl H.out.1 ?_)
  refine bodyPost_ret (v := .tuple #[.pointer (some ⟨w.heap.size + 1, 0, none⟩), nov0]) (results_pn (fn := Tryd.f6) (p := 2) (q := 3) (g := w.heap.size) rfl rfl (H.out.1.put _) rfl) rfl ⟨rfl, ⟨?_, PRow.nil _ _, HM.out.2, HM.out.1⟩, below_row H.out.2.2 (Nat.le_refl _) _⟩
  rw [show wrap64 ((bg0 m).last + 1) = 1 by show wrap64 (0 + 1) = 1; unfold wrap64; omega]
  exact H.out.2.1.other w.heap.size (nov 0 none 0 0 none 0 0) (by omega)
set_option maxHeartbeats 1000000 in
theorem refNew_no (m : Int) (h : m < 0 ∨ 4096 < m) (w : World) :
    Calls Tryd.prog 6 #[.int .i64 m] w fun e w' => ∃ v, e = .returned (.tuple #[.pointer none, v]) ∧ NoR w.heap.size (some (bNew, m, 0)) v w' ∧ Below w.heap.size w w' := by
  have rN := row_new w #[.int .i64 0, .slice none 0 0, .slice none 0 0] 32
  have hb1 := below_one w (.cells #[.int .i64 0, .slice none 0 0, .slice none 0 0] 32)
  have hs1 : (w.alloc (.cells #[.int .i64 0, .slice none 0 0, .slice none 0 0] 32)).heap.size = w.heap.size + 1 := World.size_alloc _ _
  have HS : Hid (∀ x, Calls Tryd.prog 16 #[.string bBag, .string bNew, .int .i64 m, .int .i64 1] x fun e w' => ∃ v, e = .returned v ∧ NoR x.heap.size (some (bNew, m, 0)) v w' ∧ Below x.heap.size x w') := fun x => say_is bNew m 0 x
  go_enter Tryd.func6, Tryd.ntmps6
  go_upto_region 1 with fail
  generalize w.alloc (.cells #[.int .i64 0, .slice none 0 0, .slice none 0 0] 32) = w1 at rN hb1 hs1 ⊢
  have H := hid_of' (And.intro rN hb1)
  clear rN hb1
  have key : (m < 0 ∧ decide (m < 0) = true) ∨ (¬ m < 0 ∧ 4096 < m) := by
    rcases h with h | h
    · exact .inl ⟨h, decide_eq_true h⟩
    · exact .inr ⟨by omega, h⟩
  clear h
  rcases key with ⟨k1, k2⟩ | ⟨k1, k2⟩
  all_goals
    go_wp2_with (first | (go_at_call 16; refine (HS.out _).mono ?_; rintro e w2 ⟨u, rfl, ⟨g1, g2, rfl, h2, h3, h4, h5⟩, hb2⟩; have HN := hid_of' (And.intro h2 (And.intro h3 (And.intro h4 (And.intro h5 hb2)))); clear h2 h3 h4 h5 hb2) | (refine wpL_storeNo rfl _ _ rfl rfl (code := ((0 : Nat) : Int) + 1) (a := some ⟨g2, 0, none⟩) (n := 1) (c := 1) (a' := some ⟨g1, 0, none⟩) (n' := 1) (c' := 1) rfl (H.out.1.later HN.out.2.2.2.2) ?_))
    have hg1 := HN.out.1
    have hg2 := HN.out.2.1
    have cR := Ch.row (S := fun s => s = w.heap.size) (Ch.refl _ w2) (.inl rfl) (nov (((0 : Nat) : Int) + 1) (some ⟨g2, 0, none⟩) 1 1 (some ⟨g1, 0, none⟩) 1 1)
    exact bodyPost_ret (v := .tuple #[.pointer none, .agg (nov (((0 : Nat) : Int) + 1) (some ⟨g2, 0, none⟩) 1 1 (some ⟨g1, 0, none⟩) 1 1)]) (results_pn (fn := Tryd.f6) (p := 2) (q := 3) (g := w.heap.size) rfl rfl ((H.out.1.later HN.out.2.2.2.2).put _) rfl) rfl ⟨_, rfl, ⟨g1, g2, rfl, by omega, by omega, HN.out.2.2.1.ch cR (by omega), HN.out.2.2.2.1.ch cR (by omega)⟩, below_row (bgo H.out.2 HN.out.2.2.2.2) (Nat.le_refl _) _⟩
theorem results_n {fn : Func} {p : Tmp} {tmps : Array Value} {w : World} {g : Nat} {cs : Array Value} (h : fn.results = #[.cell p 32]) (hp : tmps.getD p undef = .pointer (some ⟨g, 0, none⟩)) (hg : RowAt g cs 32 w) (hs : cs.size = 3) :
    (results fn tmps).run Tryd.prog w = .ok (.agg cs) w := results_cell_row h tmps w g _ _ _ _ hp hg Tryd.underlying32 rfl (by rw [hs]; exact no_size)
theorem RgAt.slice {B : Nat} {v : Value} {g : Bg} {K : Nat → Prop} {w : World} (h : RgAt B v g K w) : ∃ a c, v = .slice a g.l.length c := by
  obtain ⟨a, c, h1, _, _⟩ := h.row.form
  exact ⟨a, c, h1⟩
set_option maxHeartbeats 1000000 in
theorem refIs_in {B : Nat} {v : Value} {g : Bg} {K : Nat → Prop} {w : World} (h : RgAt B v g K w) (c : ByteArray) {n : Nat} (hn : n < g.l.length) :
    Calls Tryd.prog 62 #[.pointer (some ⟨B, 0, none⟩), .string c, .int .i64 (n : Int)] w fun e w' => e = .returned nov0 ∧ Below w.heap.size w w' := by
  obtain ⟨a9, c9, rfl⟩ := h.slice
  have rN := row_new w #[.int .i64 0, .slice none 0 0, .slice none 0 0] 32
  have hb1 := below_one w (.cells #[.int .i64 0, .slice none 0 0, .slice none 0 0] 32)
  have c2 : (w.alloc (.cells #[.int .i64 0, .slice none 0 0, .slice none 0 0] 32)).cell? ⟨B, 2, none⟩ = some (.slice a9 g.l.length c9) := (h.lies.later hb1).cellIs 2 rfl
  go_enter Tryd.func62, Tryd.ntmps62
  go_upto_region 1 with fail
  generalize w.alloc (.cells #[.int .i64 0, .slice none 0 0, .slice none 0 0] 32) = w1 at rN hb1 c2 ⊢
  have H := hid_of' (And.intro rN hb1)
  clear rN hb1 h
  have k1 : ¬ (g.l.length : Int) ≤ (n : Int) := by omega
  have k2 : ¬ (n : Int) < 0 := by omega
  go_wp2_with (refine wpL_storeNo rfl _ _ rfl rfl (code := 0) (a := none) (n := 0) (c := 0) (a' := none) (n' := 0) (c' := 0) rfl H.out.1 ?_)
  exact bodyPost_ret (v := nov0) (results_n (fn := Tryd.f62) (p := 6) (g := w.heap.size) rfl rfl (H.out.1.put _) rfl) rfl ⟨rfl, below_row H.out.2 (Nat.le_refl _) _⟩
set_option maxHeartbeats 1000000 in
theorem refIs_out {B : Nat} {v : Value} {g : Bg} {K : Nat → Prop} {w : World} (h : RgAt B v g K w) (c : ByteArray) {i : Int} (hi : i < 0 ∨ (g.l.length : Int) ≤ i) :
    Calls Tryd.prog 62 #[.pointer (some ⟨B, 0, none⟩), .string c, .int .i64 i] w fun e w' => ∃ u, e = .returned u ∧ NoR w.heap.size (some (c, i, 1)) u w' ∧ Below w.heap.size w w' := by
  obtain ⟨a9, c9, rfl⟩ := h.slice
  have rN := row_new w #[.int .i64 0, .slice none 0 0, .slice none 0 0] 32
  have hb1 := below_one w (.cells #[.int .i64 0, .slice none 0 0, .slice none 0 0] 32)
  have hs1 : (w.alloc (.cells #[.int .i64 0, .slice none 0 0, .slice none 0 0] 32)).heap.size = w.heap.size + 1 := World.size_alloc _ _
  have c2 : (w.alloc (.cells #[.int .i64 0, .slice none 0 0, .slice none 0 0] 32)).cell? ⟨B, 2, none⟩ = some (.slice a9 g.l.length c9) := (h.lies.later hb1).cellIs 2 rfl
  have HS : Hid (∀ x, Calls Tryd.prog 16 #[.string bBag, .string c, .int .i64 i, .int .i64 2] x fun e w' => ∃ v, e = .returned v ∧ NoR x.heap.size (some (c, i, 1)) v w' ∧ Below x.heap.size x w') := fun x => say_is c i 1 x
  go_enter Tryd.func62, Tryd.ntmps62
  go_upto_region 1 with fail
  generalize w.alloc (.cells #[.int .i64 0, .slice none 0 0, .slice none 0 0] 32) = w1 at rN hb1 hs1 c2 ⊢
  have H := hid_of' (And.intro rN hb1)
  clear rN hb1 h
  have key : (i < 0 ∧ decide (i < 0) = true) ∨ (¬ i < 0 ∧ (g.l.length : Int) ≤ i) := by
    rcases hi with h | h
    · exact .inl ⟨h, decide_eq_true h⟩
    · exact .inr ⟨by omega, h⟩
  clear hi
  rcases key with ⟨k1, k2⟩ | ⟨k1, k2⟩
  all_goals
    go_wp2_with (first | (go_at_call 16; refine (HS.out _).mono ?_; rintro e w2 ⟨u, rfl, ⟨g1, g2, rfl, h2, h3, h4, h5⟩, hb2⟩; have HN := hid_of' (And.intro h2 (And.intro h3 (And.intro h4 (And.intro h5 hb2)))); clear h2 h3 h4 h5 hb2) | (refine wpL_storeNo rfl _ _ rfl rfl (code := ((1 : Nat) : Int) + 1) (a := some ⟨g2, 0, none⟩) (n := 1) (c := 1) (a' := some ⟨g1, 0, none⟩) (n' := 1) (c' := 1) rfl (H.out.1.later HN.out.2.2.2.2) ?_))
    have hg1 := HN.out.1
    have hg2 := HN.out.2.1
    have cR := Ch.row (S := fun s => s = w.heap.size) (Ch.refl _ w2) (.inl rfl) (nov (((1 : Nat) : Int) + 1) (some ⟨g2, 0, none⟩) 1 1 (some ⟨g1, 0, none⟩) 1 1)
    exact bodyPost_ret (v := .agg (nov (((1 : Nat) : Int) + 1) (some ⟨g2, 0, none⟩) 1 1 (some ⟨g1, 0, none⟩) 1 1)) (results_n (fn := Tryd.f62) (p := 6) (g := w.heap.size) rfl rfl ((H.out.1.later HN.out.2.2.2.2).put _) rfl) rfl ⟨_, rfl, ⟨g1, g2, rfl, by omega, by omega, HN.out.2.2.1.ch cR (by omega), HN.out.2.2.2.1.ch cR (by omega)⟩, below_row (bgo H.out.2 HN.out.2.2.2.2) (Nat.le_refl _) _⟩
end Go.Proofs.YtdojjhhnciaegaaDoor
