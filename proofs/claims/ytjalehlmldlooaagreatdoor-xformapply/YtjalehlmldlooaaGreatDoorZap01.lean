
/-
  Rows of cells in memory; the class of worlds that have grown; regions walked by it. barrowref01.Say: a refusal as the document has it. Elements and their weights: (api.Element).Weight, tree.weigh, tree.plus.
-/
import Derived.Test.YtjalehlmldlooaaGreatDoorProg
import Derived.WalkKit
import Derived.WalkSpells
import Derived.WalkLawsBesides
import Derived.Deep.WholeRow
import Derived.Laws.StructEq
import Derived.Deep.QuietTactic
import Derived.BigQuiet
import Derived.Deep.Cut
import Derived.Deep.RegionWith
import Derived.Deep.LoopGhost
namespace Go.Proofs.YtjalehlmldlooaaGreatDoor
open Go.RowKit
set_option maxRecDepth 100000

theorem bgo {w a b : World} (h : Below w.heap.size w a) (k : Below a.heap.size a b) : Below w.heap.size w b := h.trans (k.mono h.size)
theorem below_one (w : World) (o : Obj) : Below w.heap.size w (w.alloc o) := (Below.refl _ _).alloc (Nat.le_refl _) o

theorem below_drewN {n : Nat} {a w : World} (h : Below n a w) (k : Nat) : Below n a (w.drewN k) := ⟨h.os, h.tape, h.output, h.size, h.block⟩

/-- A world that has grown out of w: nothing of what was there has turned. -/
structure Wld (w : World) where
  wd : World
  below : Below w.heap.size w wd
/-- The world itself. -/
def wOf {w : World} (s : Wld w) : World := s.wd
instance (w : World) : Nonempty (Wld w) := ⟨⟨w, Below.refl _ _⟩⟩
theorem wOf_below {w : World} (s : Wld w) : Below w.heap.size w (wOf s) := s.below
theorem wp_region_cls {P : Program} {id : Nat} {Q : Exit → Act → World → Prop} {a : Act} {w : World} {l : List Oper} (hm : P.follows .mixedOrders = true) (hB : Region.lexB .any l.toArray = true)
    (h : wpQuiet P l.toArray (fun w' => ∃ n : Wld w, w' = wOf n) (fun a' => ∀ w', (∃ n : Wld w, w' = wOf n) → Q .normal a' w') l a) : (Code.region id l.toArray true).wp P Q a w :=
  wp_region_quiet (C := fun w' => ∃ n : Wld w, w' = wOf n) hm hB ⟨⟨w.drew, (Below.refl _ _).drew⟩, rfl⟩ (by simpa using h)
theorem wpList_of_quiet {P : Program} {ops : Array Oper} {C : World → Prop} {Q : Exit → Act → World → Prop} : ∀ (l : List Oper) (a : Act) (w : World), C w → wpQuiet P ops C (fun a' => ∀ w', C w' → Q .normal a' w') l a → wpList P ops Q l a w
  | [], _, w, hw, h => h w hw
  | o :: rest, a, w, hw, h => by
    unfold wpQuiet at h
    unfold wpList
    split
    · rename_i hc
      rw [if_pos hc] at h
      exact .inl (Oper.wp_of_quiet hw (fun a' w' hw' hq => wpList_of_quiet rest a' w' hw' hq) h)
    · rename_i hc
      rw [if_neg hc] at h
      exact wpList_of_quiet rest _ w hw h
theorem wp_region_cls0 {P : Program} {id : Nat} {Q : Exit → Act → World → Prop} {a : Act} {w : World} {l : List Oper}
    (h : wpQuiet P l.toArray (fun w' => ∃ n : Wld w, w' = wOf n) (fun a' => ∀ w', (∃ n : Wld w, w' = wOf n) → Q .normal a' w') l a) : (Code.region id l.toArray false).wp P Q a w :=
  wp_region_lit (wpList_of_quiet (C := fun w' => ∃ n : Wld w, w' = wOf n) l a w ⟨⟨w, Below.refl _ _⟩, rfl⟩ h)
theorem cls_of {P : Program} {w : World} {s : Wld w} {f : FuncId} {args : Array Value} {v : Value} (h : Calls P f args (wOf s) fun e w' => e = .returned v ∧ Below (wOf s).heap.size (wOf s) w') :
    Calls P f args (wOf s) fun e w'' => e = .returned v ∧ ∃ m : Wld w, w'' = wOf m :=
  h.mono fun _ w' ⟨he, hb⟩ => ⟨he, ⟨w', bgo s.below hb⟩, rfl⟩
theorem cls_of_same {P : Program} {w : World} {s : Wld w} {f : FuncId} {args : Array Value} {v : Value} (h : Calls P f args (wOf s) fun e w' => e = .returned v ∧ w' = wOf s) :
    Calls P f args (wOf s) fun e w'' => e = .returned v ∧ ∃ m : Wld w, w'' = wOf m :=
  h.mono fun _ _ ⟨he, hb⟩ => ⟨he, s, hb⟩
/-- A block of cells in memory. -/
def RowAt (b : Nat) (cs : Array Value) (t : TypeId) (w : World) : Prop := w.heap[b]? = some (.cells cs t (0, 0))
theorem RowAt.lt {b : Nat} {cs : Array Value} {t : TypeId} {w : World} (h : RowAt b cs t w) : b < w.heap.size := (Array.getElem?_eq_some_iff.1 h).1
theorem RowAt.later {b : Nat} {cs : Array Value} {t : TypeId} {w w' : World} (h : RowAt b cs t w) (hb : Below w.heap.size w w') : RowAt b cs t w' := by
  have e : w'.heap[b]? = w.heap[b]? := hb.block _ h.lt
  exact e.trans h
theorem RowAt.cell {b : Nat} {cs : Array Value} {t : TypeId} {w : World} (h : RowAt b cs t w) (k : Nat) : w.cell? ⟨b, k, none⟩ = cs[k]? := cell_of_row w b k cs t (0, 0) h
theorem RowAt.cls {b : Nat} {cs : Array Value} {t : TypeId} {w : World} (h : RowAt b cs t w) (k : Nat) (v : Value) (hv : cs[k]? = some v) (s : Wld w) : (wOf s).cell? ⟨b, k, none⟩ = some v := by
  rw [(h.later (wOf_below s)).cell]; exact hv

theorem below_row {n g : Nat} {a w : World} (h : Below n a w) (hg : n ≤ g) (c : Array Value) : Below n a (w.setRow g c) :=
  ⟨h.os, h.tape, h.output, by simpa using h.size, fun k hk => by rw [setRow_other w g k c (by omega)]; exact h.block k hk⟩


/-- Cells at an address. -/
def CsIn (b off : Nat) (cs : Array Value) (w : World) : Prop := b < w.heap.size ∧ ∀ (j : Nat) (v : Value), cs[j]? = some v → w.cell? ⟨b, off + j, none⟩ = some v
theorem CsIn.later {b off : Nat} {cs : Array Value} {w w' : World} (h : CsIn b off cs w) (hb : Below w.heap.size w w') : CsIn b off cs w' :=
  ⟨Nat.lt_of_lt_of_le h.1 hb.size, fun j v hv => by rw [hb.cell (p := ⟨b, off + j, none⟩) h.1]; exact h.2 j v hv⟩
theorem CsIn.cls {b off : Nat} {cs : Array Value} {w : World} (h : CsIn b off cs w) : ∀ w', (∃ n : Wld w, w' = wOf n) → CsIn b off cs w' := fun _ ⟨s, e⟩ => by rw [e]; exact h.later (wOf_below s)
theorem CsIn.sub {b off : Nat} {cs ds : Array Value} {w : World} (h : CsIn b off cs w) (k : Nat) (hk : ∀ j v, ds[j]? = some v → cs[k + j]? = some v) : CsIn b (off + k) ds w :=
  ⟨h.1, fun j v hv => by rw [Nat.add_assoc]; exact h.2 _ _ (hk j v hv)⟩

section
variable {P : Program}
theorem run_loadVar_in {w : World} {b off : Nat} {cs : Array Value} (h : CsIn b off cs w) {ty : TypeId} {d : TypeDesc} (hu : P.underlying ty = some d) (hd : (match d with | .struct _ | .array _ _ => true | _ => false) = true) (hi : (P.info? ty).map (·.size) = some cs.size) :
    (loadVar ty ⟨b, off, none⟩).run P w = .ok (.agg cs) w := by
  have hl : (loadCells ⟨b, off, none⟩ cs.toList.length).run P w = .ok cs.toList.toArray w :=
    run_loadCells_list (P := P) w ⟨b, off, none⟩ cs.toList (fun j v hv => by
      have hadd : (⟨b, off, none⟩ : Addr).add j = ⟨b, off + j, none⟩ := by unfold Addr.add; split <;> simp_all
      rw [hadd]
      exact h.2 j v (by simpa using hv))
  cases hq : P.info? ty with
  | none => simp [hq] at hi
  | some i =>
    have hs : i.size = cs.size := by simpa [hq] using hi
    have hagg : (isAgg ty).run P w = .ok true w := by
      unfold isAgg
      rw [Sem.run_bind, run_underlying hu w]
      cases d <;> simp_all
    simp only [Array.length_toList, Array.toArray_toList] at hl
    simp [loadVar, Sem.run_bind, hagg, sizeOf, typeInfo, hq, hs, hl]
theorem quiet_load_in {o : Oper} {a : Act} {C : World → Prop} {K : Act → Prop} (ty : TypeId) (x : Operand) (ho : o.op = .load ty x) {b off : Nat} (hx : a.eval x = .pointer (some ⟨b, off, none⟩)) {cs : Array Value} (h : ∀ w, C w → CsIn b off cs w)
    {d : TypeDesc} (hu : P.underlying ty = some d) (hd : (match d with | .struct _ | .array _ _ => true | _ => false) = true) (hi : (P.info? ty).map (·.size) = some cs.size)
    (k : K (a.put o.dst (.agg cs))) : o.quiet P a C K :=
  ⟨.agg cs, fun w hw => by
    unfold Oper.quietAt execOp
    simp only [ho, hx, Instr.loadAt, Instr.sureAddr, Sem.run_bind, Sem.run_pure, Result.andThen_ok, run_loadVar_in (h w hw) hu hd hi]
    exact ⟨rfl, rfl⟩, k⟩
end

theorem RowAt.in {b : Nat} {cs : Array Value} {t : TypeId} {w : World} (h : RowAt b cs t w) : CsIn b 0 cs w := ⟨h.lt, fun j v hv => by rw [Nat.zero_add, h.cell]; exact hv⟩
end Go.Proofs.YtjalehlmldlooaaGreatDoor
namespace Go.Proofs.YtjalehlmldlooaaGreatDoor
open Go.RowKit
set_option maxRecDepth 100000

/-- The place as a refusal tells it. -/
def place (at_ : Int) : Int := if at_ < 0 then -1 else at_

/-- A refusal's cells. -/
def nov (code : Int) (a : Option Addr) (n c : Nat) (a' : Option Addr) (n' c' : Nat) : Array Value := #[.int .i64 code, .slice a n c, .slice a' n' c']
theorem no_size : (Tryz.prog.info? 36).map (·.size) = some 3 := by kernel_rfl
theorem wpL_storeNo {ops : Array Oper} {rest : List Oper} {o : Oper} {A : Act} {w : World} {Q : Exit → Act → World → Prop} (hgd : o.guard = none) (x y : Operand) (ho : o.op = .store 36 x y) {g : Nat} (hx : A.eval x = .pointer (some ⟨g, 0, none⟩)) {code : Int} {a a' : Option Addr} {n c n' c' : Nat} (hy : A.eval y = .agg #[.int .i64 code, .slice a n c, .slice a' n' c']) {c0 c1 c2 : Value} (h : RowAt g #[c0, c1, c2] 36 w)
    (k : wpList Tryz.prog ops Q rest (A.put o.dst undef) (w.setRow g (nov code a n c a' n' c'))) : wpList Tryz.prog ops Q (o :: rest) A w :=
  wpList_store_row hgd _ x y ho g (nov code a n c a' n' c') hx hy _ _ h no_size rfl (by simp [nov, Value.oneCell']) k

set_option maxHeartbeats 1000000 in
theorem wrap_any (la ca : ByteArray) (at_ code : Int) (g : Nat) (w : World) (hc : (code == 0) = false) :
    Calls Tryz.prog 24 #[.string la, .string ca, .int .i64 at_, .agg #[.int .i64 code, .slice none 0 0, .slice (some ⟨g, 0, none⟩) 1 1]] w fun e w' => ∃ g', e = .returned (.agg #[.int .i64 code, .slice (some ⟨g', 0, none⟩) 1 1, .slice (some ⟨g, 0, none⟩) 1 1]) ∧ w.heap.size ≤ g' ∧ CsIn g' 0 #[.string la, .string ca, .int .i64 (place at_)] w' ∧ Below w.heap.size w w' := by
  by_cases hneg : at_ < 0
  · have HP : Hid (place at_ = -1) := if_pos hneg
    go_enter Tryz.func24, Tryz.ntmps24
    go_wp2
    go_region
    go_wp2
    have hr : RowAt (w.heap.size + 1 + 1) #[.string la, .string ca, .int .i64 (-1)] 94 (((w.alloc (.cells #[.int .i64 code, .slice none 0 0, .slice (some ⟨g, 0, none⟩) 1 1] 36)).alloc (.cells #[.int .i64 code, .slice (some ⟨w.heap.size + 1 + 1, 0, none⟩) 1 1, .slice (some ⟨g, 0, none⟩) 1 1] 36)).alloc (.cells #[.string la, .string ca, .int .i64 (-1)] 94)).drew := by
      have := heap_alloc_last ((w.alloc (.cells #[.int .i64 code, .slice none 0 0, .slice (some ⟨g, 0, none⟩) 1 1] 36)).alloc (.cells #[.int .i64 code, .slice (some ⟨w.heap.size + 1 + 1, 0, none⟩) 1 1, .slice (some ⟨g, 0, none⟩) 1 1] 36)) (.cells #[.string la, .string ca, .int .i64 (-1)] 94)
      simp only [World.size_alloc] at this
      exact this
    refine bodyPost_ret (v := .agg #[.int .i64 code, .slice (some ⟨w.heap.size + 1 + 1, 0, none⟩) 1 1, .slice (some ⟨g, 0, none⟩) 1 1]) (by simp [results, Tryz.results24, go_sem]) rfl ⟨w.heap.size + 1 + 1, rfl, by omega, ?_, ?_⟩
    · rw [HP.out]; exact hr.in
    · exact (bgo (bgo (below_one w _) (below_one _ _)) (below_one _ _)).drew
  · have HP : Hid (place at_ = at_) := if_neg hneg
    go_enter Tryz.func24, Tryz.ntmps24
    go_wp2
    go_region
    go_wp2
    have hr : RowAt (w.heap.size + 1 + 1) #[.string la, .string ca, .int .i64 at_] 94 (((w.alloc (.cells #[.int .i64 code, .slice none 0 0, .slice (some ⟨g, 0, none⟩) 1 1] 36)).alloc (.cells #[.int .i64 code, .slice (some ⟨w.heap.size + 1 + 1, 0, none⟩) 1 1, .slice (some ⟨g, 0, none⟩) 1 1] 36)).alloc (.cells #[.string la, .string ca, .int .i64 at_] 94)).drew := by
      have := heap_alloc_last ((w.alloc (.cells #[.int .i64 code, .slice none 0 0, .slice (some ⟨g, 0, none⟩) 1 1] 36)).alloc (.cells #[.int .i64 code, .slice (some ⟨w.heap.size + 1 + 1, 0, none⟩) 1 1, .slice (some ⟨g, 0, none⟩) 1 1] 36)) (.cells #[.string la, .string ca, .int .i64 at_] 94)
      simp only [World.size_alloc] at this
      exact this
    refine bodyPost_ret (v := .agg #[.int .i64 code, .slice (some ⟨w.heap.size + 1 + 1, 0, none⟩) 1 1, .slice (some ⟨g, 0, none⟩) 1 1]) (by simp [results, Tryz.results24, go_sem]) rfl ⟨w.heap.size + 1 + 1, rfl, by omega, ?_, ?_⟩
    · rw [HP.out]; exact hr.in
    · exact (bgo (bgo (below_one w _) (below_one _ _)) (below_one _ _)).drew

set_option maxHeartbeats 1000000 in
theorem say_any (la ca : ByteArray) (at_ code : Int) (w : World) (hc : (code == 0) = false) :
    Calls Tryz.prog 11 #[.string la, .string ca, .int .i64 at_, .int .i64 code] w fun e w' => ∃ g g', e = .returned (.agg #[.int .i64 code, .slice (some ⟨g', 0, none⟩) 1 1, .slice (some ⟨g, 0, none⟩) 1 1]) ∧ w.heap.size ≤ g' ∧ w.heap.size ≤ g ∧ CsIn g' 0 #[.string la, .string ca, .int .i64 (place at_)] w' ∧ CsIn g 0 #[.int .i64 code] w' ∧ Below w.heap.size w w' := by
  have g0 : RowAt w.heap.size #[.int .i64 0, .slice none 0 0, .slice none 0 0] 36 ((w.alloc (.cells #[.int .i64 0, .slice none 0 0, .slice none 0 0] 36)).alloc (.cells #[.int .i64 code] 3)) := by
    have h1 : RowAt w.heap.size #[.int .i64 0, .slice none 0 0, .slice none 0 0] 36 (w.alloc (.cells #[.int .i64 0, .slice none 0 0, .slice none 0 0] 36)) := heap_alloc_last w _
    exact h1.later (below_one _ _)
  have g1 : RowAt (w.heap.size + 1) #[.int .i64 code] 3 ((w.alloc (.cells #[.int .i64 0, .slice none 0 0, .slice none 0 0] 36)).alloc (.cells #[.int .i64 code] 3)) := by
    have h1 := heap_alloc_last (w.alloc (.cells #[.int .i64 0, .slice none 0 0, .slice none 0 0] 36)) (.cells #[.int .i64 code] 3)
    simp only [World.size_alloc] at h1
    exact h1
  have hB := bgo (below_one w (.cells #[.int .i64 0, .slice none 0 0, .slice none 0 0] 36)) (below_one _ (.cells #[.int .i64 code] 3))
  go_enter Tryz.func11, Tryz.ntmps11
  go_wp2_with (first | (go_at_call 24; refine (wrap_any la ca at_ code _ _ hc).mono ?_; rintro e w1 ⟨g', rfl, hg', hcs, hb1⟩) | (refine wpL_storeNo rfl _ _ rfl rfl rfl (g0.later hb1) ?_))
  have hg1 : w.heap.size + 1 + 1 ≤ g' := by simpa using hg'
  have r0 : RowAt w.heap.size #[.int .i64 code, .slice (some ⟨g', 0, none⟩) 1 1, .slice (some ⟨w.heap.size + 1, 0, none⟩) 1 1] 36 (w1.setRow w.heap.size #[.int .i64 code, .slice (some ⟨g', 0, none⟩) 1 1, .slice (some ⟨w.heap.size + 1, 0, none⟩) 1 1]) := setRow_heap w1 _ _ _ _ _ (g0.later hb1)
  have keep : ∀ (b : Nat) (cs : Array Value), CsIn b 0 cs w1 → w.heap.size < b → CsIn b 0 cs (w1.setRow w.heap.size #[.int .i64 code, .slice (some ⟨g', 0, none⟩) 1 1, .slice (some ⟨w.heap.size + 1, 0, none⟩) 1 1]) := fun b cs h hlt => ⟨by simpa using h.1, fun j v hv => by
    rw [cell_setRow_other _ _ _ _ (by show b ≠ _; omega)]; exact h.2 j v hv⟩
  exact bodyPost_ret (v := .agg #[.int .i64 code, .slice (some ⟨g', 0, none⟩) 1 1, .slice (some ⟨w.heap.size + 1, 0, none⟩) 1 1]) (results_cell_row rfl _ _ w.heap.size _ _ _ _ rfl r0 Tryz.underlying36 rfl no_size) rfl ⟨w.heap.size + 1, g', rfl, by omega, by omega, keep _ _ hcs (by omega), keep _ _ (g1.later hb1).in (by omega), below_row (bgo hB hb1) (Nat.le_refl _) _⟩
theorem RowAt.other {b : Nat} {cs : Array Value} {t : TypeId} {w : World} (h : RowAt b cs t w) (g : Nat) (c : Array Value) (hn : ¬ b = g) : RowAt b cs t (w.setRow g c) := (setRow_other w g b c hn).trans h
theorem RowAt.put {b : Nat} {cs : Array Value} {t : TypeId} {w : World} (h : RowAt b cs t w) (c : Array Value) : RowAt b c t (w.setRow b c) := setRow_heap w b _ _ _ _ h
theorem CsIn.other {b off : Nat} {cs : Array Value} {w : World} (h : CsIn b off cs w) (g : Nat) (c : Array Value) (hn : ¬ b = g) : CsIn b off cs (w.setRow g c) := ⟨by simpa using h.1, fun j v hv => by rw [cell_setRow_other _ _ _ _ (by simpa using hn)]; exact h.2 j v hv⟩
end Go.Proofs.YtjalehlmldlooaaGreatDoor
namespace Go.Proofs.YtjalehlmldlooaaGreatDoor
open Go.RowKit
set_option maxRecDepth 100000

/-- An Element. -/
structure El where
  ep : Int
  rp : Int
  no : Int
  ch : Int
  hd : Int
/-- Its cells. -/
def ev (e : El) : Array Value := #[.int .i64 e.ep, .int .i64 e.rp, .int .i64 e.no, .int .i32 e.ch, .int .i64 e.hd]
/-- What it weighs. -/
def wLive (e : El) : Int := if e.hd > 0 then 0 else 1
def wLine (e : El) : Int := if e.hd > 0 then 0 else if e.ch = 10 then 1 else 0
/-- A Weight. -/
def wv (x y : Int) : Value := .agg #[.int .i64 x, .int .i64 y]

theorem w_size : (Tryz.prog.info? 123).map (·.size) = some 2 := by kernel_rfl
theorem results_w {fn : Func} {p : Tmp} {tmps : Array Value} {w : World} {g : Nat} {x y : Int} (h : fn.results = #[.cell p 123]) (hp : tmps.getD p undef = .pointer (some ⟨g, 0, none⟩)) (hg : RowAt g #[.int .i64 x, .int .i64 y] 123 w) :
    (results fn tmps).run Tryz.prog w = .ok (wv x y) w := by
  have hp' : tmps[p]?.getD undef = .pointer (some ⟨g, 0, none⟩) := by simpa using hp
  simp [results, h, hp', asAddr, wv, run_loadVar_row w g _ _ _ _ _ hg Tryz.underlying123 rfl w_size]
theorem wpL_storeW {ops : Array Oper} {rest : List Oper} {o : Oper} {A : Act} {w : World} {Q : Exit → Act → World → Prop} (hgd : o.guard = none) (x y : Operand) (ho : o.op = .store 123 x y) {g : Nat} (hx : A.eval x = .pointer (some ⟨g, 0, none⟩)) {p q : Int} (hy : A.eval y = .agg #[.int .i64 p, .int .i64 q]) {c0 c1 : Value} (h : RowAt g #[c0, c1] 123 w)
    (k : wpList Tryz.prog ops Q rest (A.put o.dst undef) (w.setRow g #[.int .i64 p, .int .i64 q])) : wpList Tryz.prog ops Q (o :: rest) A w :=
  wpList_store_row hgd _ x y ho g #[.int .i64 p, .int .i64 q] hx hy _ _ h w_size rfl (by simp [Value.oneCell']) k
theorem row_new (w : World) (cs : Array Value) (t : TypeId) : RowAt w.heap.size cs t (w.alloc (.cells cs t)) := heap_alloc_last w _
theorem row_new2 (w : World) (o : Obj) (cs : Array Value) (t : TypeId) : RowAt (w.heap.size + 1) cs t ((w.alloc o).alloc (.cells cs t)) := by
  have := heap_alloc_last (w.alloc o) (.cells cs t)
  rw [World.size_alloc] at this
  exact this
theorem row_new3 (w : World) (o o' : Obj) (cs : Array Value) (t : TypeId) : RowAt (w.heap.size + 2) cs t (((w.alloc o).alloc o').alloc (.cells cs t)) := by
  have := heap_alloc_last ((w.alloc o).alloc o') (.cells cs t)
  rw [World.size_alloc, World.size_alloc] at this
  exact this
theorem below_two (w : World) (o o' : Obj) : Below w.heap.size w ((w.alloc o).alloc o') := bgo (below_one w o) (below_one _ o')
theorem below_three (w : World) (o o' o'' : Obj) : Below w.heap.size w (((w.alloc o).alloc o').alloc o'') := bgo (below_two w o o') (below_one _ o'')

set_option maxHeartbeats 400000 in
theorem weight_any (e : El) (w : World) :
    Calls Tryz.prog 125 #[.agg (ev e)] w fun r w' => r = .returned (wv (wLive e) (wLine e)) ∧ Below w.heap.size w w' := by
  unfold ev wLive wLine
  by_cases h : e.hd > 0
  · rw [if_pos h, if_pos h]
    go_enter Tryz.func125, Tryz.ntmps125
    go_wp2
    exact bodyPost_ret (v := wv 0 0) (results_w (fn := Tryz.f125) (p := 2) rfl rfl (row_new2 w _ _ _)) rfl ⟨rfl, below_two w _ _⟩
  · rw [if_neg h, if_neg h]
    by_cases h2 : e.ch = 10
    · rw [if_pos h2]
      go_enter Tryz.func125, Tryz.ntmps125
      go_wp2
      exact bodyPost_ret (v := wv 1 1) (results_w (fn := Tryz.f125) (p := 2) rfl rfl (row_new2 w _ _ _)) rfl ⟨rfl, below_two w _ _⟩
    · rw [if_neg h2]
      have h3 : (e.ch == 10) = false := by rw [beq_eq_false_iff_ne]; exact h2
      go_enter Tryz.func125, Tryz.ntmps125
      go_wp2
      exact bodyPost_ret (v := wv 1 0) (results_w (fn := Tryz.f125) (p := 2) rfl rfl (row_new2 w _ _ _)) rfl ⟨rfl, below_two w _ _⟩

theorem methodW (v : Value) (w : World) : (Go.method 331 49 v "Weight").run Tryz.prog w = .ok (125, v) w := by kernel_rfl
theorem hid_of' {p : Prop} (h : p) : Hid p := h
/-- The deferred function of weigh, where nothing panics. -/
theorem catch_idle (p : Addr) (w : World) :
    CallsD Tryz.prog 105 #[.pointer (some p)] .returning w fun e u' w' => e = .returned (.tuple #[]) ∧ u' = .returning ∧ w' = w := by
  refine callsD_of_wpS Tryz.func105 rfl fun c₀ cs hu => ?_
  apply wpS_seq
  apply wpS_region
  simp [wpOpsS, go_sem, recoverD, hu, Tryz.ntmps105, Exit.thenS]
  refine wpS_cond (t := false) (by simp [Act.eval]) ?_
  simp only [Bool.false_eq_true, if_false]
  refine wpS_of_wp (wp_skip ?_)
  cases c₀
  simp_all [bodyPostS, results, Tryz.results105]

set_option maxHeartbeats 400000 in
theorem plus_any (x y x' y' : Int) (w : World) :
    Calls Tryz.prog 81 #[wv x y, wv x' y'] w fun r w' => r = .returned (wv (wrap64 (x + x')) (wrap64 (y + y'))) ∧ Below w.heap.size w w' := by
  unfold wv
  go_enter Tryz.func81, Tryz.ntmps81
  go_wp2
  exact bodyPost_ret (v := wv (wrap64 (x + x')) (wrap64 (y + y'))) (results_w (fn := Tryz.f81) (p := 4) rfl rfl (row_new3 w _ _ _ _)) rfl ⟨rfl, below_three w _ _ _⟩

set_option maxHeartbeats 400000 in
theorem weigh_any (e : El) (w : World) :
    Calls Tryz.prog 94 #[.agg (ev e)] w fun r w' => r = .returned (wv (wLive e) (wLine e)) ∧ Below w.heap.size w w' := by
  have hmf : ∀ (fn : Fn) (first cap : Array Value) (w : World), (Instr.makeFunc fn first cap).run Tryz.prog w = .ok (.func fn first cap) w := fun _ _ _ _ => rfl
  have HW := hid_of' (weight_any e)
  have hm := methodW (.agg #[.int .i64 e.ep, .int .i64 e.rp, .int .i64 e.no, .int .i32 e.ch, .int .i64 e.hd])
  unfold ev wv at HW
  unfold ev
  go_enter_defers Tryz.func94, Tryz.ntmps94
  go_wp2_with (first | (go_at_call 125; refine (HW.out _).mono ?_; rintro r w1 ⟨rfl, hb1⟩) | (refine wpL_storeW rfl _ _ rfl rfl rfl ((row_new2 w _ _ _).later hb1) ?_))
  simp only [Act.put]
  have hr := ((row_new2 w (.cells (ev e) 49) #[.int .i64 0, .int .i64 0] 123).later hb1).put #[.int .i64 (wLive e), .int .i64 (wLine e)]
  have hB := below_row (bgo (below_two w (.cells (ev e) 49) (.cells #[.int .i64 0, .int .i64 0] 123)) hb1) (show w.heap.size ≤ w.heap.size + 1 by omega) #[.int .i64 (wLive e), .int .i64 (wLine e)]
  refine leaves_cons (f := 105) (args := #[.pointer (some ⟨w.heap.size + 1, 0, none⟩)]) (by simp) (by simp [go_sem]) ?_
  refine (catch_idle _ _).mono ?_
  rintro r u' w3 ⟨rfl, rfl, rfl⟩
  simp only [Leaves, settle]
  exact ⟨_, results_w (fn := Tryz.f94) (p := 2) rfl rfl hr, rfl, hB⟩
end Go.Proofs.YtjalehlmldlooaaGreatDoor
