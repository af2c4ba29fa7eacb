
/-
  Package bag, the small functions: isMost, areEnds, isRight, New, isFull, isPlace, Len, own.
-/
import Derived.Test.YtbjbihgfkcnmbaaDoorBg0
namespace Go.Proofs.YtbjbihgfkcnmbaaDoor
open Go.RowKit Go.Extern.Stop Go.Stop Go.Extern
set_option maxRecDepth 100000

theorem pcv_one (p : Pc) (hp : p.b.oneCell' = true) : (pcv p).all (·.oneCell') = true := by
  obtain ⟨s, f, t, b⟩ := p
  cases b <;> first | (simp [pcv, Value.oneCell']; done) | (simp [Value.oneCell'] at hp)
section
variable {ops : Array Oper} {rest : List Oper} {o : Oper} {A : Act} {w : World} {Q : Exit → Act → World → Prop}
theorem opw_loadP {K : Act → World → Prop} (x : Operand) (ho : o.op = .load 56 x) {b off : Nat} (hx : A.eval x = .pointer (some ⟨b, off, none⟩)) {p : Pc} (h : CsIn b off (pcv p) w)
    (k : K (A.put o.dst (.agg (pcv p))) w) : o.wp Tryd.prog A w K Q := by
  unfold Oper.wp execOp
  simp only [ho, hx, Instr.loadAt, Instr.sureAddr, Sem.run_bind, Sem.run_pure, Result.andThen_ok, run_loadVar_in h Tryd.underlying56 rfl (p_size p)]
  exact k
theorem wpL_loadP (hgd : o.guard = none) (x : Operand) (ho : o.op = .load 56 x) {b off : Nat} (hx : A.eval x = .pointer (some ⟨b, off, none⟩)) {p : Pc} (h : CsIn b off (pcv p) w)
    (k : wpList Tryd.prog ops Q rest (A.put o.dst (.agg (pcv p))) w) : wpList Tryd.prog ops Q (o :: rest) A w := wpList_plain hgd fun _ hK => opw_loadP x ho hx h (hK _ _ k)
theorem wpL_storeP (hgd : o.guard = none) (x y : Operand) (ho : o.op = .store 56 x y) {g off : Nat} (hx : A.eval x = .pointer (some ⟨g, off, none⟩)) {p : Pc} (hy : A.eval y = .agg (pcv p)) (hp : p.b.oneCell' = true) (ht : w.there g off 4)
    (k : wpList Tryd.prog ops Q rest (A.put o.dst undef) (w.setCells g off (pcv p).toList)) : wpList Tryd.prog ops Q (o :: rest) A w :=
  wpList_store_mid hgd _ x y ho g off (pcv p) hx hy ht (p_size p) (pcv_one p hp) k
theorem wpL_storePr (hgd : o.guard = none) (x y : Operand) (ho : o.op = .store 56 x y) {g : Nat} (hx : A.eval x = .pointer (some ⟨g, 0, none⟩)) {p q : Pc} (hy : A.eval y = .agg (pcv p)) (hp : p.b.oneCell' = true) (h : RowAt g (pcv q) 56 w)
    (k : wpList Tryd.prog ops Q rest (A.put o.dst undef) (w.setRow g (pcv p))) : wpList Tryd.prog ops Q (o :: rest) A w :=
  wpList_store_row hgd _ x y ho g (pcv p) hx hy _ _ h (p_size p) rfl (pcv_one p hp) k
end
/-- No parcel. -/
def pc0 : Pc := ⟨0, 0, 0, .slice none 0 0⟩

theorem newF {ad : Nat → Addr} (la ca : ByteArray) (at_ : Int) (k : Nat) (w : World) :
    Calls Tryd.prog 30 #[.string la, .string ca, .int .i64 at_, .iface 156 (.pointer (some (ad k)))] w fun e w' => e = .returned (.iface 96 (.pointer (some ⟨w.heap.size, 0, none⟩))) ∧ FaultAt ad w.heap.size la ca (place at_) k w' ∧ Below w.heap.size w w' := by
  have HP : Hid (max at_ (-1) = place at_) := by unfold Hid place; split <;> omega
  go_enter Tryd.func30, Tryd.ntmps30
  go_wp2
  go_ret
  refine ⟨rfl, ?_, below_one _ _⟩
  rw [← HP.out]
  exact heap_alloc_last w _

/-- The reasons that package bag names: ErrArg, ErrRange, ErrRoom. -/
def Lb (ad : Nat → Addr) (w : World) : Prop := ∀ k, k = 0 ∨ k = 1 ∨ k = 12 → w.cell? ⟨gix k, 0, none⟩ = some (.iface 156 (.pointer (some (ad k))))
theorem Laid.lb {ad : Nat → Addr} {w : World} (L : Laid ad w) : Lb ad w := fun k hk => L.var k (by omega)
theorem Lb.below {ad : Nat → Addr} {w w' : World} (L : Lb ad w) (hb : Below w.heap.size w w') : Lb ad w' := fun k hk => by
  have := L k hk
  rw [hb.cell (World.block_lt_of_cell? _ _ this)]
  exact this
/-- What is refused: the call, the place, the reason. -/
abbrev Rf := Option (ByteArray × Int × Nat)
/-- 'bag' -/
def bBag : ByteArray := ⟨#[98, 97, 103]⟩
/-- The error that says so; its block is new. -/
def ErrR (ad : Nat → Addr) (M : Nat) (o : Rf) (v : Value) (w : World) : Prop := match o with
  | none => v = .nilIface
  | some (c, a, k) => ∃ b, v = .iface 96 (.pointer (some ⟨b, 0, none⟩)) ∧ M ≤ b ∧ k < 13 ∧ FaultAt ad b bBag c (place a) k w
/-- The document's refusal. -/
def NoR (M : Nat) (o : Rf) (v : Value) (w : World) : Prop := match o with
  | none => v = .agg (nov 0 none 0 0 none 0 0)
  | some (c, a, k) => ∃ g g', v = .agg (nov ((k : Int) + 1) (some ⟨g', 0, none⟩) 1 1 (some ⟨g, 0, none⟩) 1 1) ∧ M ≤ g ∧ M ≤ g' ∧ CsIn g' 0 #[.string bBag, .string c, .int .i64 (place a)] w ∧ CsIn g 0 #[.int .i64 ((k : Int) + 1)] w
theorem ErrR.ch {ad : Nat → Addr} {M : Nat} {o : Rf} {v : Value} {S : Nat → Prop} {w w' : World} (h : ErrR ad M o v w) (c : Ch S w w') (hS : ∀ s, M ≤ s → ¬ S s) : ErrR ad M o v w' := by
  match o, h with
  | none, h => exact h
  | some (_, _, _), ⟨b, h1, h2, h3, h4⟩ => exact ⟨b, h1, h2, h3, RowAt.ch h4 c (hS b h2)⟩
theorem NoR.ch {M : Nat} {o : Rf} {v : Value} {S : Nat → Prop} {w w' : World} (h : NoR M o v w) (c : Ch S w w') (hS : ∀ s, M ≤ s → ¬ S s) : NoR M o v w' := by
  match o, h with
  | none, h => exact h
  | some (_, _, _), ⟨g, g', h1, h2, h3, h4, h5⟩ => exact ⟨g, g', h1, h2, h3, h4.ch c (hS g' h3), h5.ch c (hS g h2)⟩
theorem ErrR.later {ad : Nat → Addr} {M : Nat} {o : Rf} {v : Value} {w w' : World} (h : ErrR ad M o v w) (hb : Below w.heap.size w w') : ErrR ad M o v w' := h.ch (S := fun _ => False) (Ch.of hb) (fun _ _ q => q)
theorem NoR.later {M : Nat} {o : Rf} {v : Value} {w w' : World} (h : NoR M o v w) (hb : Below w.heap.size w w') : NoR M o v w' := h.ch (S := fun _ => False) (Ch.of hb) (fun _ _ q => q)
/-- An error held against the document's refusal of the same. -/
theorem refused_is {ad : Nat → Addr} {M M' : Nat} {o : Rf} {v u : Value} {w : World} (L : Laid ad w) (h : ErrR ad M o v w) (h' : NoR M' o u w) :
    Calls Tryd.prog 10 #[v, u] w fun e w' => e = .returned (.bool true) ∧ Below w.heap.size w w' := by
  match o, h, h' with
  | none, h, h' => rw [h, h']; exact refused_none _ _ _ _ _ _ _
  | some (c, a, k), ⟨b, h1, _, h3, h4⟩, ⟨g, g', e1, _, _, e4, e5⟩ => rw [h1, e1]; exact refused_some L h4 h3 e4 e5

theorem isMost_yes (m : Int) (h0 : 0 ≤ m) (h1 : m ≤ 4096) (w : World) : Calls Tryd.prog 29 #[.int .i64 m] w fun e w' => e = .returned (.bool true) ∧ w' = w := by
  go_enter Tryd.func29, Tryd.ntmps29
  go_wp2
  go_ret
  exact ⟨rfl, rfl⟩
theorem isMost_no (m : Int) (h : m < 0 ∨ 4096 < m) (w : World) : Calls Tryd.prog 29 #[.int .i64 m] w fun e w' => e = .returned (.bool false) ∧ w' = w := by
  by_cases h0 : m < 0
  · clear h
    go_enter Tryd.func29, Tryd.ntmps29
    go_wp2
    go_ret
    exact ⟨rfl, rfl⟩
  · have h1 : ¬ m ≤ 4096 := by omega
    clear h
    go_enter Tryd.func29, Tryd.ntmps29
    go_wp2
    go_ret
    exact ⟨rfl, rfl⟩
def repB (r : Int) : Bool := decide (0 ≤ r) && decide (r < 8)
theorem isRep_is (r : Int) (w : World) : Calls Tryd.prog 69 #[.int .i64 r] w fun e w' => e = .returned (.bool (repB r)) ∧ w' = w := by
  unfold repB
  by_cases h0 : 0 ≤ r
  · by_cases h1 : r < 8
    · rw [decide_eq_true h0, decide_eq_true h1]
      go_enter Tryd.func69, Tryd.ntmps69
      go_wp2
      go_ret
      exact ⟨rfl, rfl⟩
    · rw [decide_eq_true h0, decide_eq_false h1]
      go_enter Tryd.func69, Tryd.ntmps69
      go_wp2
      go_ret
      exact ⟨rfl, rfl⟩
  · rw [decide_eq_false h0]
    go_enter Tryd.func69, Tryd.ntmps69
    go_wp2
    go_ret
    exact ⟨rfl, rfl⟩
def endsB (f t : Int) : Bool := (repB f && repB t) && (f != t)
set_option maxHeartbeats 400000 in
theorem areEnds_is (f t : Int) (w : World) : Calls Tryd.prog 55 #[.int .i64 f, .int .i64 t] w fun e w' => e = .returned (.bool (endsB f t)) ∧ w' = w := by
  have hf := isRep_is f w
  have ht := isRep_is t w
  unfold endsB
  cases h1 : repB f
  · rw [h1] at hf
    have H := hid_of' hf
    clear hf ht h1
    go_enter Tryd.func55, Tryd.ntmps55
    go_wp2_with (go_at_call 69; refine H.out.mono ?_; rintro e w1 ⟨rfl, h0⟩; obtain rfl := h0.symm)
    go_ret
    exact ⟨rfl, rfl⟩
  · cases h2 : repB t
    · rw [h1] at hf
      rw [h2] at ht
      have H := hid_of' (And.intro hf ht)
      clear hf ht h1 h2
      go_enter Tryd.func55, Tryd.ntmps55
      go_wp2_with (go_at_call 69; (first | (with_reducible refine H.out.1.mono ?_) | (with_reducible refine H.out.2.mono ?_)); rintro e w1 ⟨rfl, h0⟩; obtain rfl := h0.symm)
      go_ret
      exact ⟨rfl, rfl⟩
    · rw [h1] at hf
      rw [h2] at ht
      have H := hid_of' (And.intro hf ht)
      clear hf ht h1 h2
      cases h3 : (f != t)
      · go_enter Tryd.func55, Tryd.ntmps55
        go_wp2_with (go_at_call 69; (first | (with_reducible refine H.out.1.mono ?_) | (with_reducible refine H.out.2.mono ?_)); rintro e w1 ⟨rfl, h0⟩; obtain rfl := h0.symm)
        go_ret
        exact ⟨rfl, rfl⟩
      · go_enter Tryd.func55, Tryd.ntmps55
        go_wp2_with (go_at_call 69; (first | (with_reducible refine H.out.1.mono ?_) | (with_reducible refine H.out.2.mono ?_)); rintro e w1 ⟨rfl, h0⟩; obtain rfl := h0.symm)
        go_ret
        exact ⟨rfl, rfl⟩
/-- 'New' -/
def bNew : ByteArray := ⟨#[78, 101, 119]⟩
/-- A new Bag. -/
def bg0 (m : Int) : Bg := ⟨m, 0, 0, 0, 0, 0, []⟩
theorem new_ok (m : Int) (h0 : 0 ≤ m) (h1 : m ≤ 4096) (w : World) :
    Calls Tryd.prog 8 #[.int .i64 m] w fun e w' => e = .returned (.tuple #[.pointer (some ⟨w.heap.size, 0, none⟩), .nilIface]) ∧ BgAt w.heap.size (.slice none 0 0) (bg0 m) (fun _ => False) w' ∧ Below w.heap.size w w' := by
  have H := hid_of' (And.intro h0 h1)
  have HM := hid_of' (isMost_yes m h0 h1 w)
  clear h0 h1
  go_enter Tryd.func8, Tryd.ntmps8
  go_wp2_with (go_at_call 29; refine HM.out.mono ?_; rintro e w1 ⟨rfl, h0⟩; obtain rfl := h0.symm)
  go_ret2
  exact ⟨rfl, ⟨row_new _ _ _, PRow.nil _ _, H.out.1, H.out.2, H.out.1⟩, below_one _ _⟩
theorem new_no {ad : Nat → Addr} (m : Int) (h : m < 0 ∨ 4096 < m) (w : World) (L : Lb ad w) :
    Calls Tryd.prog 8 #[.int .i64 m] w fun e w' => ∃ v, e = .returned (.tuple #[.pointer none, v]) ∧ ErrR ad w.heap.size (some (bNew, m, 0)) v w' ∧ Below w.heap.size w w' := by
  have HM := hid_of' (isMost_no m h w)
  have HF := hid_of' (newF (ad := ad) bBag bNew m 0 w)
  have LV : w.cell? ⟨0, 0, none⟩ = some (.iface 156 (.pointer (some (ad 0)))) := L 0 (by decide)
  clear h L
  go_enter Tryd.func8, Tryd.ntmps8
  go_wp2_with (first | (go_at_call 29; refine HM.out.mono ?_; rintro e w1 ⟨rfl, h0⟩; obtain rfl := h0.symm) | (go_at_call 30; refine HF.out.mono ?_; rintro r w1 ⟨rfl, hf, hb1⟩))
  go_ret2
  exact ⟨_, rfl, ⟨_, rfl, Nat.le_refl _, by decide, hf⟩, hb1⟩

theorem BgAt.slice {B : Nat} {v : Value} {g : Bg} {K : Nat → Prop} {w : World} (h : BgAt B v g K w) : ∃ a c, v = .slice a g.l.length c := by
  obtain ⟨a, c, h1, _⟩ := h.row.form
  exact ⟨a, c, h1⟩
theorem len_is {B : Nat} {v : Value} {g : Bg} {K : Nat → Prop} {w : World} (h : BgAt B v g K w) :
    Calls Tryd.prog 13 #[.pointer (some ⟨B, 0, none⟩)] w fun e w' => e = .returned (.int .i64 (g.l.length : Int)) ∧ w' = w := by
  obtain ⟨a, c, rfl⟩ := h.slice
  have c1 := h.lies.cellIs 1 rfl
  clear h
  go_enter Tryd.func13, Tryd.ntmps13
  go_wp2
  go_ret
  exact ⟨rfl, rfl⟩
theorem isPlace_yes {B : Nat} {v : Value} {g : Bg} {K : Nat → Prop} {w : World} (h : BgAt B v g K w) (i : Nat) (hi : i < g.l.length) :
    Calls Tryd.prog 58 #[.pointer (some ⟨B, 0, none⟩), .int .i64 (i : Int)] w fun e w' => e = .returned (.bool true) ∧ w' = w := by
  obtain ⟨a, c, rfl⟩ := h.slice
  have c1 := h.lies.cellIs 1 rfl
  clear h
  go_enter Tryd.func58, Tryd.ntmps58
  go_wp2
  go_ret
  exact ⟨rfl, rfl⟩
theorem isPlace_no {B : Nat} {v : Value} {g : Bg} {K : Nat → Prop} {w : World} (h : BgAt B v g K w) (i : Int) (hi : i < 0 ∨ (g.l.length : Int) ≤ i) :
    Calls Tryd.prog 58 #[.pointer (some ⟨B, 0, none⟩), .int .i64 i] w fun e w' => e = .returned (.bool false) ∧ w' = w := by
  obtain ⟨a, c, rfl⟩ := h.slice
  have c1 := h.lies.cellIs 1 rfl
  clear h
  by_cases h0 : i < 0
  · clear hi
    go_enter Tryd.func58, Tryd.ntmps58
    go_wp2
    go_ret
    exact ⟨rfl, rfl⟩
  · have h1 : ¬ i < (g.l.length : Int) := by omega
    clear hi
    go_enter Tryd.func58, Tryd.ntmps58
    go_wp2
    go_ret
    exact ⟨rfl, rfl⟩
theorem isFull_is {B : Nat} {v : Value} {g : Bg} {K : Nat → Prop} {w : World} (h : BgAt B v g K w) :
    Calls Tryd.prog 56 #[.pointer (some ⟨B, 0, none⟩)] w fun e w' => e = .returned (.bool (decide (g.most ≤ (g.l.length : Int)))) ∧ Below w.heap.size w w' := by
  obtain ⟨a, c, rfl⟩ := h.slice
  have c0 := h.lies.cls 0 _ rfl
  have c1 := h.lies.cls 1 _ rfl
  have hB := Below.refl w.heap.size w
  clear h
  go_enter Tryd.func56, Tryd.ntmps56
  go_upto_region 1 with fail
  refine wp_region_cls (by kernel_rfl) (by kernel_rfl) ?_
  repeat (first | go_big_quiet_skip | (go_big_quiet_want; first | (go_big_quiet_op; first | go_big_quiet_on | go_big_quiet_call ((fail)))))
  refine wpQuiet_nil ?_
  rintro w1 ⟨s1, e1⟩
  have hb1 := wOf_below s1
  rw [← e1] at hb1
  clear e1 s1
  replace hB := bgo hB hb1
  clear hb1
  go_wp2
  go_ret
  exact ⟨rfl, hB⟩
end Go.Proofs.YtbjbihgfkcnmbaaDoor
