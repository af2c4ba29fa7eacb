
/-
  clock.Tick and the document's, wherever they tick or refuse.
-/
import Derived.Test.YtlgdaaofpjpobaaDoorZca50
import Derived.Test.YtlgdaaofpjpobaaDoorZca11
namespace Go.Proofs.YtlgdaaofpjpobaaDoor
open Go.RowKit Go.Extern.Stop Go.Stop Go.Extern
set_option maxRecDepth 100000

theorem newF {ad : Nat → Addr} (la ca : ByteArray) (at_ : Int) (k : Nat) (w : World) :
    Calls Tryd.prog 10 #[.string la, .string ca, .int .i64 at_, .iface 145 (.pointer (some (ad k)))] w fun e w' => e = .returned (.iface 71 (.pointer (some ⟨w.heap.size, 0, none⟩))) ∧ FaultAt ad w.heap.size la ca (place at_) k w' ∧ Below w.heap.size w w' := by
  by_cases hneg : at_ < -1
  · have HP : Hid (place at_ = -1) := if_pos (by omega)
    go_enter Tryd.func10, Tryd.ntmps10
    go_wp2
    go_ret
    refine ⟨rfl, ?_, below_one _ _⟩
    rw [HP.out]
    exact heap_alloc_last w _
  · have HP : Hid (place at_ = at_) := by unfold Hid place; split <;> omega
    go_enter Tryd.func10, Tryd.ntmps10
    go_wp2
    go_ret
    refine ⟨rfl, ?_, below_one _ _⟩
    rw [HP.out]
    exact heap_alloc_last w _

/-- May it tick? -/
def tkOk (a : List Int) (r : Int) : Bool := decide (0 ≤ r ∧ r < 8) && !(en a r.toNat == 9223372036854775807)
/-- What Tick answers beside. -/
def tkz (a : List Int) (r : Int) : List Int := if tkOk a r then a.set r.toNat (en a r.toNat + 1) else ck0
theorem tkz_len {a : List Int} (r : Int) (ha : a.length = 8) : (tkz a r).length = 8 := by unfold tkz; split <;> simp [ha, ck0]
/-- 'clock', 'Tick'. -/
def bClock : ByteArray := ⟨#[99, 108, 111, 99, 107]⟩
def bTick : ByteArray := ⟨#[84, 105, 99, 107]⟩
/-- The error that Tick answers. -/
def TE (ad : Nat → Addr) (ok : Bool) (r : Int) (v : Value) (x : World) : Prop := if ok then v = .nilIface else ∃ b, v = .iface 71 (.pointer (some ⟨b, 0, none⟩)) ∧ FaultAt ad b bClock bTick (place r) 0 x
/-- The document's refusal. -/
def TN (ok : Bool) (r : Int) (v : Value) (x : World) : Prop := if ok then v = .agg (nov 0 none 0 0 none 0 0) else ∃ g g', v = .agg (nov 1 (some ⟨g', 0, none⟩) 1 1 (some ⟨g, 0, none⟩) 1 1) ∧ CsIn g' 0 #[.string bClock, .string bTick, .int .i64 (place r)] x ∧ CsIn g 0 #[.int .i64 1] x
/-- Its block is new. -/
def EB (M : Nat) (v : Value) : Prop := ∀ b, v = .iface 71 (.pointer (some ⟨b, 0, none⟩)) → M ≤ b
def NB (M : Nat) (v : Value) : Prop := ∀ code g' g, v = .agg (nov code (some ⟨g', 0, none⟩) 1 1 (some ⟨g, 0, none⟩) 1 1) → M ≤ g ∧ M ≤ g'
theorem TE.later {ad : Nat → Addr} {ok : Bool} {r : Int} {v : Value} {x x' : World} (h : TE ad ok r v x) (hb : Below x.heap.size x x') : TE ad ok r v x' := by
  unfold TE at *
  cases ok with
  | true => exact h
  | false => obtain ⟨b, h1, h2⟩ := h; exact ⟨b, h1, RowAt.later h2 hb⟩
theorem TN.later {ok : Bool} {r : Int} {v : Value} {x x' : World} (h : TN ok r v x) (hb : Below x.heap.size x x') : TN ok r v x' := by
  unfold TN at *
  cases ok with
  | true => exact h
  | false => obtain ⟨g, g', h1, h2, h3⟩ := h; exact ⟨g, g', h1, h2.later hb, h3.later hb⟩

theorem results_ckNo {fn : Func} {p u : Tmp} {tmps : Array Value} {w : World} {g g' : Nat} {x : List Int} {cs : Array Value} (h : fn.results = #[.cell p 44, .cell u 32]) (hp : tmps.getD p undef = .pointer (some ⟨g, 0, none⟩)) (hu : tmps.getD u undef = .pointer (some ⟨g', 0, none⟩)) (hg : CkAt g x w) (hg' : RowAt g' cs 32 w) (hs : cs.size = 3) :
    (results fn tmps).run Tryd.prog w = .ok (.tuple #[.agg (cv x), .agg cs]) w := by
  have hp' : tmps[p]?.getD undef = .pointer (some ⟨g, 0, none⟩) := by simpa using hp
  have hu' : tmps[u]?.getD undef = .pointer (some ⟨g', 0, none⟩) := by simpa using hu
  have hi : (Tryd.prog.info? 32).map (·.size) = some cs.size := by rw [hs]; exact no_size
  simp [results, h, hp', hu', asAddr, run_loadVar_row w g _ _ _ _ _ hg.1 Tryd.underlying44 rfl hg.size, run_loadVar_row w g' _ _ _ _ _ hg' Tryd.underlying32 rfl hi]

theorem startT (w : World) {a : List Int} (ha : a.length = 8) :
    CkAt w.heap.size a (((w.alloc (.cells (cv a) 44)).alloc (.cells (cv ck0) 44)).alloc (.cells #[.int .i64 0, .slice none 0 0, .slice none 0 0] 32)) ∧ CkAt (w.heap.size + 1) ck0 (((w.alloc (.cells (cv a) 44)).alloc (.cells (cv ck0) 44)).alloc (.cells #[.int .i64 0, .slice none 0 0, .slice none 0 0] 32)) ∧ RowAt (w.heap.size + 2) #[.int .i64 0, .slice none 0 0, .slice none 0 0] 32 (((w.alloc (.cells (cv a) 44)).alloc (.cells (cv ck0) 44)).alloc (.cells #[.int .i64 0, .slice none 0 0, .slice none 0 0] 32)) ∧ Below w.heap.size w (((w.alloc (.cells (cv a) 44)).alloc (.cells (cv ck0) 44)).alloc (.cells #[.int .i64 0, .slice none 0 0, .slice none 0 0] 32)) := by
  obtain ⟨h1, h2, hB⟩ := start2 w ha (b := ck0) rfl
  have h3 := heap_alloc_last ((w.alloc (.cells (cv a) 44)).alloc (.cells (cv ck0) 44)) (.cells #[.int .i64 0, .slice none 0 0, .slice none 0 0] 32)
  simp only [World.size_alloc] at h3
  exact ⟨h1.alloc _, h2.alloc _, h3, bgo hB (below_one _ _)⟩
end Go.Proofs.YtlgdaaofpjpobaaDoor
