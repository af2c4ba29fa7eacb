
/-
  Package bag, the small functions: isMost, areEnds, isRight, New, isFull, isPlace, Len, own. Package bag: own, Look, Counts, Clear.
-/
import Derived.Test.YtdojjhhnciaegaaDoorZb15
namespace Go.Proofs.YtdojjhhnciaegaaDoor
open Go.RowKit Go.Extern.Stop Go.Stop Go.Extern
set_option maxRecDepth 100000

theorem pcv_one (p : Pc) (hp : p.b.oneCell' = true) : (pcv p).all (·.oneCell') = true := by
  obtain ⟨s, f, t, b⟩ := p
  cases b <;> first | (simp [pcv, Value.oneCell']; done) | (simp [Value.oneCell'] at hp)
section
variable {ops : Array Oper} {rest : List Oper} {o : Oper} {A : Act} {w : World} {Q : Exit → Act → World → Prop}
theorem opw_loadP {K : Act → World → Prop} (x : Operand) (ho : o.op = .load 65 x) {b off : Nat} (hx : A.eval x = .pointer (some ⟨b, off, none⟩)) {p : Pc} (h : CsIn b off (pcv p) w)
    (k : K (A.put o.dst (.agg (pcv p))) w) : o.wp Tryd.prog A w K Q := by
  unfold Oper.wp execOp
  simp only [ho, hx, Instr.loadAt, Instr.sureAddr, Sem.run_bind, Sem.run_pure, Result.andThen_ok, run_loadVar_in h Tryd.underlying65 rfl (p_size p)]
  exact k
theorem wpL_loadP (hgd : o.guard = none) (x : Operand) (ho : o.op = .load 65 x) {b off : Nat} (hx : A.eval x = .pointer (some ⟨b, off, none⟩)) {p : Pc} (h : CsIn b off (pcv p) w)
    (k : wpList Tryd.prog ops Q rest (A.put o.dst (.agg (pcv p))) w) : wpList Tryd.prog ops Q (o :: rest) A w := wpList_plain hgd fun _ hK => opw_loadP x ho hx h (hK _ _ k)
theorem wpL_storeP (hgd : o.guard = none) (x y : Operand) (ho : o.op = .store 65 x y) {g off : Nat} (hx : A.eval x = .pointer (some ⟨g, off, none⟩)) {p : Pc} (hy : A.eval y = .agg (pcv p)) (hp : p.b.oneCell' = true) (ht : w.there g off 4)
    (k : wpList Tryd.prog ops Q rest (A.put o.dst undef) (w.setCells g off (pcv p).toList)) : wpList Tryd.prog ops Q (o :: rest) A w :=
  wpList_store_mid hgd _ x y ho g off (pcv p) hx hy ht (p_size p) (pcv_one p hp) k
theorem wpL_storePr (hgd : o.guard = none) (x y : Operand) (ho : o.op = .store 65 x y) {g : Nat} (hx : A.eval x = .pointer (some ⟨g, 0, none⟩)) {p q : Pc} (hy : A.eval y = .agg (pcv p)) (hp : p.b.oneCell' = true) (h : RowAt g (pcv q) 65 w)
    (k : wpList Tryd.prog ops Q rest (A.put o.dst undef) (w.setRow g (pcv p))) : wpList Tryd.prog ops Q (o :: rest) A w :=
  wpList_store_row hgd _ x y ho g (pcv p) hx hy _ _ h (p_size p) rfl (pcv_one p hp) k
end
/-- No parcel. -/
def pc0 : Pc := ⟨0, 0, 0, .slice none 0 0⟩

theorem newF {ad : Nat → Addr} (la ca : ByteArray) (at_ : Int) (k : Nat) (w : World) :
    Calls Tryd.prog 15 #[.string la, .string ca, .int .i64 at_, .iface 155 (.pointer (some (ad k)))] w fun e w' => e = .returned (.iface 90 (.pointer (some ⟨w.heap.size, 0, none⟩))) ∧ FaultAt ad w.heap.size la ca (place at_) k w' ∧ Below w.heap.size w w' := by
  have key : ∀ p, max at_ (-1) = p → place at_ = p := by
    intro p hp
    unfold place
    split <;> omega
  by_cases h : -1 ≤ at_
  · have hm : max at_ (-1) = at_ := by omega
    rw [key at_ hm]
    go_enter Tryd.func15, Tryd.ntmps15
    go_wp2
    go_ret
    exact ⟨rfl, heap_alloc_last w _, below_one _ _⟩
  · have hm : max at_ (-1) = -1 := by omega
    rw [key (-1) hm]
    have h2 : at_ ≤ -1 := by omega
    go_enter Tryd.func15, Tryd.ntmps15
    go_wp2
    go_ret
    exact ⟨rfl, heap_alloc_last w _, below_one _ _⟩

/-- The reasons that package bag names: ErrArg, ErrRange, ErrRoom. -/
def Lb (ad : Nat → Addr) (w : World) : Prop := ∀ k, k = 0 ∨ k = 1 ∨ k = 12 → w.cell? ⟨gix k, 0, none⟩ = some (.iface 155 (.pointer (some (ad k))))
theorem Laid.lb {ad : Nat → Addr} {w : World} (L : Laid ad w) : Lb ad w := fun k hk => L.var k (by omega)
theorem Lb.below {ad : Nat → Addr} {w w' : World} (L : Lb ad w) (hb : Below w.heap.size w w') : Lb ad w' := fun k hk => by
  have := L k hk
  rw [hb.cell (World.block_lt_of_cell? _ _ this)]
  exact this
/-- What is refused: the call, the place, the reason. -/
abbrev Rf := Option (ByteArray × Int × Nat)
/-- 'bag' -/
def bBag : ByteArray := ⟨#[98, 97, 103]⟩
/-- The error that says so; its block is new. -/
def ErrR (ad : Nat → Addr) (M : Nat) (o : Rf) (v : Value) (w : World) : Prop := match o with
  | none => v = .nilIface
  | some (c, a, k) => ∃ b, v = .iface 90 (.pointer (some ⟨b, 0, none⟩)) ∧ M ≤ b ∧ k < 13 ∧ FaultAt ad b bBag c (place a) k w
/-- The document's refusal. -/
def NoR (M : Nat) (o : Rf) (v : Value) (w : World) : Prop := match o with
  | none => v = .agg (nov 0 none 0 0 none 0 0)
  | some (c, a, k) => ∃ g g', v = .agg (nov ((k : Int) + 1) (some ⟨g', 0, none⟩) 1 1 (some ⟨g, 0, none⟩) 1 1) ∧ M ≤ g ∧ M ≤ g' ∧ CsIn g' 0 #[.string bBag, .string c, .int .i64 (place a)] w ∧ CsIn g 0 #[.int .i64 ((k : Int) + 1)] w
theorem ErrR.ch {ad : Nat → Addr} {M : Nat} {o : Rf} {v : Value} {S : Nat → Prop} {w w' : World} (h : ErrR ad M o v w) (c : Ch S w w') (hS : ∀ s, M ≤ s → ¬ S s) : ErrR ad M o v w' := by
  match o, h with
  | none, h => exact h
  | some (_, _, _), ⟨b, h1, h2, h3, h4⟩ => exact ⟨b, h1, h2, h3, RowAt.ch h4 c (hS b h2)⟩
theorem NoR.ch {M : Nat} {o : Rf} {v : Value} {S : Nat → Prop} {w w' : World} (h : NoR M o v w) (c : Ch S w w') (hS : ∀ s, M ≤ s → ¬ S s) : NoR M o v w' := by
  match o, h with
  | none, h => exact h
  | some (_, _, _), ⟨g, g', h1, h2, h3, h4, h5⟩ => exact ⟨g, g', h1, h2, h3, h4.ch c (hS g' h3), h5.ch c (hS g h2)⟩
theorem ErrR.later {ad : Nat → Addr} {M : Nat} {o : Rf} {v : Value} {w w' : World} (h : ErrR ad M o v w) (hb : Below w.heap.size w w') : ErrR ad M o v w' := h.ch (S := fun _ => False) (Ch.of hb) (fun _ _ q => q)
theorem NoR.later {M : Nat} {o : Rf} {v : Value} {w w' : World} (h : NoR M o v w) (hb : Below w.heap.size w w') : NoR M o v w' := h.ch (S := fun _ => False) (Ch.of hb) (fun _ _ q => q)
/-- An error held against the document's refusal of the same. -/
theorem refused_is {ad : Nat → Addr} {M M' : Nat} {o : Rf} {v u : Value} {w : World} (L : Laid ad w) (h : ErrR ad M o v w) (h' : NoR M' o u w) :
    Calls Tryd.prog 7 #[v, u] w fun e w' => e = .returned (.bool true) ∧ Below w.heap.size w w' := by
  match o, h, h' with
  | none, h, h' => rw [h, h']; exact refused_none _ _ _ _ _ _ _
  | some (c, a, k), ⟨b, h1, _, h3, h4⟩, ⟨g, g', e1, _, _, e4, e5⟩ => rw [h1, e1]; exact refused_some L h4 h3 e4 e5

theorem isMost_yes (m : Int) (h0 : 0 ≤ m) (h1 : m ≤ 4096) (w : World) : Calls Tryd.prog 14 #[.int .i64 m] w fun e w' => e = .returned (.bool true) ∧ w' = w := by
  go_enter Tryd.func14, Tryd.ntmps14
  go_wp2
  go_ret
  exact ⟨rfl, rfl⟩
theorem isMost_no (m : Int) (h : m < 0 ∨ 4096 < m) (w : World) : Calls Tryd.prog 14 #[.int .i64 m] w fun e w' => e = .returned (.bool false) ∧ w' = w := by
  by_cases h0 : m < 0
  · clear h
    go_enter Tryd.func14, Tryd.ntmps14
    go_wp2
    go_ret
    exact ⟨rfl, rfl⟩
  · have h1 : ¬ m ≤ 4096 := by omega
    clear h
    go_enter Tryd.func14, Tryd.ntmps14
    go_wp2
    go_ret
    exact ⟨rfl, rfl⟩
def repB (r : Int) : Bool := decide (0 ≤ r) && decide (r < 8)
theorem isRep_is (r : Int) (w : World) : Calls Tryd.prog 69 #[.int .i64 r] w fun e w' => e = .returned (.bool (repB r)) ∧ w' = w := by
  unfold repB
  by_cases h0 : 0 ≤ r
  · by_cases h1 : r < 8
    · rw [decide_eq_true h0, decide_eq_true h1]
      go_enter Tryd.func69, Tryd.ntmps69
      go_wp2
      go_ret
      exact ⟨rfl, rfl⟩
    · rw [decide_eq_true h0, decide_eq_false h1]
      go_enter Tryd.func69, Tryd.ntmps69
      go_wp2
      go_ret
      exact ⟨rfl, rfl⟩
  · rw [decide_eq_false h0]
    go_enter Tryd.func69, Tryd.ntmps69
    go_wp2
    go_ret
    exact ⟨rfl, rfl⟩
def endsB (f t : Int) : Bool := (repB f && repB t) && (f != t)
set_option maxHeartbeats 400000 in
theorem areEnds_is (f t : Int) (w : World) : Calls Tryd.prog 56 #[.int .i64 f, .int .i64 t] w fun e w' => e = .returned (.bool (endsB f t)) ∧ w' = w := by
  have hf := isRep_is f w
  have ht := isRep_is t w
  unfold endsB
  cases h1 : repB f
  · rw [h1] at hf
    have H := hid_of' hf
    clear hf ht h1
    go_enter Tryd.func56, Tryd.ntmps56
    go_wp2_with (go_at_call 69; refine H.out.mono ?_; rintro e w1 ⟨rfl, h0⟩; obtain rfl := h0.symm)
    go_ret
    exact ⟨rfl, rfl⟩
  · cases h2 : repB t
    · rw [h1] at hf
      rw [h2] at ht
      have H := hid_of' (And.intro hf ht)
      clear hf ht h1 h2
      go_enter Tryd.func56, Tryd.ntmps56
      go_wp2_with (go_at_call 69; (first | (with_reducible refine H.out.1.mono ?_) | (with_reducible refine H.out.2.mono ?_)); rintro e w1 ⟨rfl, h0⟩; obtain rfl := h0.symm)
      go_ret
      exact ⟨rfl, rfl⟩
    · rw [h1] at hf
      rw [h2] at ht
      have H := hid_of' (And.intro hf ht)
      clear hf ht h1 h2
      cases h3 : (f != t)
      · go_enter Tryd.func56, Tryd.ntmps56
        go_wp2_with (go_at_call 69; (first | (with_reducible refine H.out.1.mono ?_) | (with_reducible refine H.out.2.mono ?_)); rintro e w1 ⟨rfl, h0⟩; obtain rfl := h0.symm)
        go_ret
        exact ⟨rfl, rfl⟩
      · go_enter Tryd.func56, Tryd.ntmps56
        go_wp2_with (go_at_call 69; (first | (with_reducible refine H.out.1.mono ?_) | (with_reducible refine H.out.2.mono ?_)); rintro e w1 ⟨rfl, h0⟩; obtain rfl := h0.symm)
        go_ret
        exact ⟨rfl, rfl⟩
/-- 'New' -/
def bNew : ByteArray := ⟨#[78, 101, 119]⟩
/-- A new Bag. -/
def bg0 (m : Int) : Bg := ⟨m, 0, 0, 0, 0, 0, []⟩
theorem new_ok (m : Int) (h0 : 0 ≤ m) (h1 : m ≤ 4096) (w : World) :
    Calls Tryd.prog 5 #[.int .i64 m] w fun e w' => e = .returned (.tuple #[.pointer (some ⟨w.heap.size, 0, none⟩), .nilIface]) ∧ BgAt w.heap.size (.slice none 0 0) (bg0 m) (fun _ => False) w' ∧ Below w.heap.size w w' := by
  have H := hid_of' (And.intro h0 h1)
  have HM := hid_of' (isMost_yes m h0 h1 w)
  clear h0 h1
  go_enter Tryd.func5, Tryd.ntmps5
  go_wp2_with (go_at_call 14; refine HM.out.mono ?_; rintro e w1 ⟨rfl, h0⟩; obtain rfl := h0.symm)
  go_ret2
  exact ⟨rfl, ⟨row_new _ _ _, PRow.nil _ _, H.out.1, H.out.2, H.out.1⟩, below_one _ _⟩
theorem new_no {ad : Nat → Addr} (m : Int) (h : m < 0 ∨ 4096 < m) (w : World) (L : Lb ad w) :
    Calls Tryd.prog 5 #[.int .i64 m] w fun e w' => ∃ v, e = .returned (.tuple #[.pointer none, v]) ∧ ErrR ad w.heap.size (some (bNew, m, 0)) v w' ∧ Below w.heap.size w w' := by
  have HM := hid_of' (isMost_no m h w)
  have HF := hid_of' (newF (ad := ad) bBag bNew m 0 w)
  have LV : w.cell? ⟨0, 0, none⟩ = some (.iface 155 (.pointer (some (ad 0)))) := L 0 (by decide)
  clear h L
  go_enter Tryd.func5, Tryd.ntmps5
  go_wp2_with (first | (go_at_call 14; refine HM.out.mono ?_; rintro e w1 ⟨rfl, h0⟩; obtain rfl := h0.symm) | (go_at_call 15; refine HF.out.mono ?_; rintro r w1 ⟨rfl, hf, hb1⟩))
  go_ret2
  exact ⟨_, rfl, ⟨_, rfl, Nat.le_refl _, by decide, hf⟩, hb1⟩

theorem BgAt.slice {B : Nat} {v : Value} {g : Bg} {K : Nat → Prop} {w : World} (h : BgAt B v g K w) : ∃ a c, v = .slice a g.l.length c := by
  obtain ⟨a, c, h1, _⟩ := h.row.form
  exact ⟨a, c, h1⟩
theorem len_is {B : Nat} {v : Value} {g : Bg} {K : Nat → Prop} {w : World} (h : BgAt B v g K w) :
    Calls Tryd.prog 10 #[.pointer (some ⟨B, 0, none⟩)] w fun e w' => e = .returned (.int .i64 (g.l.length : Int)) ∧ w' = w := by
  obtain ⟨a, c, rfl⟩ := h.slice
  have c1 := h.lies.cellIs 1 rfl
  clear h
  go_enter Tryd.func10, Tryd.ntmps10
  go_wp2
  go_ret
  exact ⟨rfl, rfl⟩
theorem isPlace_yes {B : Nat} {v : Value} {g : Bg} {K : Nat → Prop} {w : World} (h : BgAt B v g K w) (i : Nat) (hi : i < g.l.length) :
    Calls Tryd.prog 59 #[.pointer (some ⟨B, 0, none⟩), .int .i64 (i : Int)] w fun e w' => e = .returned (.bool true) ∧ w' = w := by
  obtain ⟨a, c, rfl⟩ := h.slice
  have c1 := h.lies.cellIs 1 rfl
  clear h
  go_enter Tryd.func59, Tryd.ntmps59
  go_wp2
  go_ret
  exact ⟨rfl, rfl⟩
theorem isPlace_no {B : Nat} {v : Value} {g : Bg} {K : Nat → Prop} {w : World} (h : BgAt B v g K w) (i : Int) (hi : i < 0 ∨ (g.l.length : Int) ≤ i) :
    Calls Tryd.prog 59 #[.pointer (some ⟨B, 0, none⟩), .int .i64 i] w fun e w' => e = .returned (.bool false) ∧ w' = w := by
  obtain ⟨a, c, rfl⟩ := h.slice
  have c1 := h.lies.cellIs 1 rfl
  clear h
  by_cases h0 : i < 0
  · clear hi
    go_enter Tryd.func59, Tryd.ntmps59
    go_wp2
    go_ret
    exact ⟨rfl, rfl⟩
  · have h1 : ¬ i < (g.l.length : Int) := by omega
    clear hi
    go_enter Tryd.func59, Tryd.ntmps59
    go_wp2
    go_ret
    exact ⟨rfl, rfl⟩
theorem isFull_is {B : Nat} {v : Value} {g : Bg} {K : Nat → Prop} {w : World} (h : BgAt B v g K w) :
    Calls Tryd.prog 57 #[.pointer (some ⟨B, 0, none⟩)] w fun e w' => e = .returned (.bool (decide (g.most ≤ (g.l.length : Int)))) ∧ Below w.heap.size w w' := by
  obtain ⟨a, c, rfl⟩ := h.slice
  have c0 := h.lies.cls 0 _ rfl
  have c1 := h.lies.cls 1 _ rfl
  have hB := Below.refl w.heap.size w
  clear h
  go_enter Tryd.func57, Tryd.ntmps57
  go_upto_region 1 with fail
  refine wp_region_cls (by kernel_rfl) (by kernel_rfl) ?_
  repeat (first | go_big_quiet_skip | (go_big_quiet_want; first | (go_big_quiet_op; first | go_big_quiet_on | go_big_quiet_call ((fail)))))
  refine wpQuiet_nil ?_
  rintro w1 ⟨s1, e1⟩
  have hb1 := wOf_below s1
  rw [← e1] at hb1
  clear e1 s1
  replace hB := bgo hB hb1
  clear hb1
  go_wp2
  go_ret
  exact ⟨rfl, hB⟩
end Go.Proofs.YtdojjhhnciaegaaDoor
namespace Go.Proofs.YtdojjhhnciaegaaDoor
open Go.RowKit Go.Extern.Stop Go.Stop Go.Extern
set_option maxRecDepth 100000

theorem RowAt.setc {b : Nat} {cs : Array Value} {t : TypeId} {w : World} (h : RowAt b cs t w) (k : Nat) (v : Value) : RowAt b (cs.setIfInBounds k v) t (w.setCell ⟨b, k, none⟩ v) := by
  unfold RowAt at *
  simp [World.setCell, Array.getElem?_modify, h]
theorem RowAt.setn {b : Nat} {cs : Array Value} {t : TypeId} {w : World} (h : RowAt b cs t w) (p : Addr) (v : Value) (hn : ¬ b = p.block) : RowAt b cs t (w.setCell p v) := (Below.heap_setCell _ _ _ _ hn).trans h
theorem SlB.one {w : World} {v : Value} {bs : List UInt8} (h : SlB w v bs) : v.oneCell' = true := by
  rcases h with ⟨_, a, c, rfl⟩ | ⟨g, o, c, rfl, _⟩ <;> rfl
theorem results_p {fn : Func} {p : Tmp} {tmps : Array Value} {w : World} {g : Nat} {e : Pc} (h : fn.results = #[.cell p 65]) (hp : tmps.getD p undef = .pointer (some ⟨g, 0, none⟩)) (hg : RowAt g (pcv e) 65 w) :
    (results fn tmps).run Tryd.prog w = .ok (.agg (pcv e)) w := results_cell_row h tmps w g _ _ _ _ hp hg Tryd.underlying65 rfl (p_size e)
theorem results_pe {fn : Func} {p q : Tmp} {tmps : Array Value} {w : World} {g : Nat} {e : Pc} (h : fn.results = #[.cell p 65, .tmp q]) (hp : tmps.getD p undef = .pointer (some ⟨g, 0, none⟩)) (hg : RowAt g (pcv e) 65 w) :
    (results fn tmps).run Tryd.prog w = .ok (.tuple #[.agg (pcv e), tmps.getD q undef]) w := by
  have hp' : tmps[p]?.getD undef = .pointer (some ⟨g, 0, none⟩) := by simpa using hp
  simp [results, h, hp', asAddr, run_loadVar_row w g _ _ _ _ _ hg Tryd.underlying65 rfl (p_size e)]

theorem wpL_stNewP {ops : Array Oper} {rest : List Oper} {o : Oper} {A : Act} {w : World} {Q : Exit → Act → World → Prop} (hgd : o.guard = none) (x y : Operand) (ho : o.op = .store 65 x y) {w0 : World} {z : Array Value} (hw : w = w0.alloc (.cells z 65)) {g : Nat} (hx : A.eval x = .pointer (some ⟨g, 0, none⟩)) (hg : g = w0.heap.size) {p : Pc} (hy : A.eval y = .agg (pcv p)) (hz : z.size = 4) (hp : p.b.oneCell' = true)
    (k : wpList Tryd.prog ops Q rest (A.put o.dst undef) (w0.alloc (.cells (pcv p) 65))) : wpList Tryd.prog ops Q (o :: rest) A w := by
  subst hw hg
  refine wpList_store_row hgd _ x y ho _ (pcv p) hx hy _ z (heap_alloc_last _ _) (p_size p) hz (pcv_one p hp) ?_
  rw [World.setRow_alloc_new]
  exact k
set_option maxHeartbeats 1000000 in
theorem own_any {p : Pc} {bs : List UInt8} {w : World} (h : SlB w p.b bs) (hl : bs.length ≤ 140737488355328) :
    Calls Tryd.prog 60 #[.agg (pcv p)] w fun e w' => ∃ g, w.heap.size ≤ g ∧ e = .returned (.agg (pcv ⟨p.s, p.f, p.t, .slice (some ⟨g, 0, none⟩) bs.length bs.length⟩)) ∧ w'.heap[g]? = some (.cells (Lib.byteCells bs).toArray 5 (0, 0)) ∧ Below w.heap.size w w' := by
  have r0 : RowAt w.heap.size (pcv p) 65 ((w.alloc (.cells (pcv p) 65)).alloc (.cells (pcv pc0) 65)) := (row_new w _ _).later (below_one _ _)
  have r1 : RowAt (w.heap.size + 1) (pcv pc0) 65 ((w.alloc (.cells (pcv p) 65)).alloc (.cells (pcv pc0) 65)) := row_new2 w _ _ _
  have hB := below_two w (.cells (pcv p) 65) (.cells (pcv pc0) 65)
  have HC := hid_of' (copied_bag (h.grow hB) hl)
  have H := hid_of' (And.intro r0 (And.intro r1 hB))
  have hn : ¬ w.heap.size + 1 = w.heap.size := by omega
  clear r0 r1 hB h
  unfold pcv pc0 at HC
  unfold pcv
  go_enter Tryd.func60, Tryd.ntmps60
  go_wp2_with (first | (go_at_call 58; refine HC.out.mono ?_; rintro e w1 ⟨rfl, hg1, hb1⟩; have q0 := H.out.1.later hb1; have q1 := H.out.2.1.later hb1; have q3 := q0.cellIs 3 rfl; have f3 := q0.froz 3; have q2 := q0.setc 3 (.slice (some ⟨w.heap.size + 2, 0, none⟩) bs.length bs.length); have HQ := hid_of' (And.intro q2 (q1.setn ⟨w.heap.size, 3, none⟩ (.slice (some ⟨w.heap.size + 2, 0, none⟩) bs.length bs.length) hn)); clear q0 q1 q2) | (refine wpL_loadP (p := ⟨p.s, p.f, p.t, .slice (some ⟨w.heap.size + 2, 0, none⟩) bs.length bs.length⟩) rfl _ rfl rfl (RowAt.in HQ.out.1) ?_) | (refine wpL_storePr (p := ⟨p.s, p.f, p.t, .slice (some ⟨w.heap.size + 2, 0, none⟩) bs.length bs.length⟩) (q := pc0) rfl _ _ rfl rfl rfl rfl HQ.out.2 ?_))
  simp only [World.size_alloc] at hg1
  have hs2 : w.heap.size + 2 < w1.heap.size := (Array.getElem?_eq_some_iff.1 hg1).1
  refine bodyPost_ret (v := .agg (pcv ⟨p.s, p.f, p.t, .slice (some ⟨w.heap.size + 2, 0, none⟩) bs.length bs.length⟩)) (results_p (fn := Tryd.f60) (p := 2) (g := w.heap.size + 1) rfl rfl (HQ.out.2.put _)) rfl ⟨w.heap.size + 2, by omega, rfl, ?_, ?_⟩
  · rw [setRow_other _ _ _ _ (by omega), Below.heap_setCell _ _ _ _ (by show ¬ w.heap.size + 2 = w.heap.size; omega)]
    exact hg1
  · exact below_row ((bgo H.out.2.2 hb1).setCell (p := ⟨w.heap.size, 3, none⟩) (Nat.le_refl _) _) (by omega) _
end Go.Proofs.YtdojjhhnciaegaaDoor
