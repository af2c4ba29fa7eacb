/-
  clock.Tick and the document's, wherever they tick or refuse.
-/
import Derived.Test.YtcfefgcibdpmeaaDoorCkRefuse
import Derived.Test.YtcfefgcibdpmeaaDoorCkOpen
namespace Go.Proofs.YtcfefgcibdpmeaaDoor
open Go.RowKit Go.Extern.Stop Go.Stop Go.Extern
set_option maxRecDepth 100000

theorem newF {ad : Nat → Addr} (la ca : ByteArray) (at_ : Int) (k : Nat) (w : World) :
    Calls Tryd.prog 25 #[.string la, .string ca, .int .i64 at_, .iface 205 (.pointer (some (ad k)))] w fun e w' => e = .returned (.iface 101 (.pointer (some ⟨w.heap.size, 0, none⟩))) ∧ FaultAt ad w.heap.size la ca (place at_) k w' ∧ Below w.heap.size w w' := by
  by_cases hneg : at_ < -1
  · have HP : Hid (place at_ = -1) := if_pos (by omega)
    go_enter Tryd.func25, Tryd.ntmps25
    go_wp2
    go_ret
    refine ⟨rfl, ?_, below_one _ _⟩
    rw [HP.out]
    exact heap_alloc_last w _
  · have HP : Hid (place at_ = at_) := by unfold Hid place; split <;> omega
    go_enter Tryd.func25, Tryd.ntmps25
    go_wp2
    go_ret
    refine ⟨rfl, ?_, below_one _ _⟩
    rw [HP.out]
    exact heap_alloc_last w _

/-- May it tick? -/
def tkOk (a : List Int) (r : Int) : Bool := decide (0 ≤ r ∧ r < 8) && !(en a r.toNat == 9223372036854775807)
/-- What Tick answers beside. -/
def tkz (a : List Int) (r : Int) : List Int := if tkOk a r then a.set r.toNat (en a r.toNat + 1) else ck0
theorem tkz_len {a : List Int} (r : Int) (ha : a.length = 8) : (tkz a r).length = 8 := by unfold tkz; split <;> simp [ha, ck0]
/-- 'clock', 'Tick'. -/
def bClock : ByteArray := ⟨#[99, 108, 111, 99, 107]⟩
def bTick : ByteArray := ⟨#[84, 105, 99, 107]⟩
/-- The error that Tick answers. -/
def TE (ad : Nat → Addr) (ok : Bool) (r : Int) (v : Value) (x : World) : Prop := if ok then v = .nilIface else ∃ b, v = .iface 101 (.pointer (some ⟨b, 0, none⟩)) ∧ FaultAt ad b bClock bTick (place r) 0 x
/-- The document's refusal. -/
def TN (ok : Bool) (r : Int) (v : Value) (x : World) : Prop := if ok then v = .agg (nov 0 none 0 0 none 0 0) else ∃ g g', v = .agg (nov 1 (some ⟨g', 0, none⟩) 1 1 (some ⟨g, 0, none⟩) 1 1) ∧ CsIn g' 0 #[.string bClock, .string bTick, .int .i64 (place r)] x ∧ CsIn g 0 #[.int .i64 1] x
/-- Its block is new. -/
def EB (M : Nat) (v : Value) : Prop := ∀ b, v = .iface 101 (.pointer (some ⟨b, 0, none⟩)) → M ≤ b
def NB (M : Nat) (v : Value) : Prop := ∀ code g' g, v = .agg (nov code (some ⟨g', 0, none⟩) 1 1 (some ⟨g, 0, none⟩) 1 1) → M ≤ g ∧ M ≤ g'
theorem TE.later {ad : Nat → Addr} {ok : Bool} {r : Int} {v : Value} {x x' : World} (h : TE ad ok r v x) (hb : Below x.heap.size x x') : TE ad ok r v x' := by
  unfold TE at *
  cases ok with
  | true => exact h
  | false => obtain ⟨b, h1, h2⟩ := h; exact ⟨b, h1, RowAt.later h2 hb⟩
theorem TN.later {ok : Bool} {r : Int} {v : Value} {x x' : World} (h : TN ok r v x) (hb : Below x.heap.size x x') : TN ok r v x' := by
  unfold TN at *
  cases ok with
  | true => exact h
  | false => obtain ⟨g, g', h1, h2, h3⟩ := h; exact ⟨g, g', h1, h2.later hb, h3.later hb⟩

set_option maxHeartbeats 1000000 in
theorem tick_out {ad : Nat → Addr} (a : List Int) (r : Int) (w : World) (L : Laid ad w) (ha : a.length = 8) (hr : r < 0 ∨ 8 ≤ r) :
    Calls Tryd.prog 26 #[.agg (cv a), .int .i64 r] w fun e w' => ∃ ev, e = .returned (.tuple #[.agg (cv ck0), ev]) ∧ TE ad false r ev w' ∧ EB w.heap.size ev ∧ Below w.heap.size w w' := by
  obtain ⟨h1, h2, hB⟩ := start2 w ha (b := ck0) rfl
  have hz0 := ck0_cv.symm
  have LV : ∀ o1 o2, ((w.alloc o1).alloc o2).cell? ⟨1, 0, none⟩ = some (.iface 205 (.pointer (some (ad 0)))) := fun o1 o2 => (L.below (bgo (below_one w o1) (below_one _ o2))).var 0 (by decide)
  go_enter Tryd.func26, Tryd.ntmps26
  go_wp2_with (first | (go_at_call 49; refine (isRep_out _ hr _).mono ?_; rintro e w1 ⟨rfl, hw⟩; obtain rfl := hw.symm) | (go_at_call 25; refine (newF (ad := ad) bClock bTick _ 0 _).mono ?_; rintro e w2 ⟨rfl, hf, hb2⟩) | (refine wpL_store rfl _ _ rfl rfl (v := ck0) rfl (h2.later hb2) rfl ?_))
  have hblk : ¬ w.heap.size + 2 = w.heap.size + 1 := by omega
  have hf' : FaultAt ad (w.heap.size + 2) bClock bTick (place r) 0 (w2.setRow (w.heap.size + 1) (cv ck0)) := by
    have e : (w2.setRow (w.heap.size + 1) (cv ck0)).heap[w.heap.size + 2]? = w2.heap[w.heap.size + 2]? := setRow_other w2 _ _ _ hblk
    simp only [World.size_alloc] at hf
    exact e.trans hf
  exact bodyPost_ret (v := .tuple #[.agg (cv ck0), .iface 101 (.pointer (some ⟨w.heap.size + 2, 0, none⟩))]) (results_ck2 (fn := Tryd.f26) (p := 4) (u := 5) rfl rfl ((h2.later hb2).row (y := ck0) rfl)) rfl ⟨_, rfl, ⟨_, rfl, hf'⟩, (fun b e => by cases e; omega), below_row (bgo hB hb2) (by omega) _⟩

set_option maxHeartbeats 1000000 in
theorem tick_max {ad : Nat → Addr} (a : List Int) (k : Nat) (w : World) (L : Laid ad w) (ha : a.length = 8) (hk : k < 8) (hm : en a k = 9223372036854775807) :
    Calls Tryd.prog 26 #[.agg (cv a), .int .i64 (k : Int)] w fun e w' => ∃ ev, e = .returned (.tuple #[.agg (cv ck0), ev]) ∧ TE ad false (k : Int) ev w' ∧ EB w.heap.size ev ∧ Below w.heap.size w w' := by
  obtain ⟨h1, h2, hB⟩ := start2 w ha (b := ck0) rfl
  have hz0 := ck0_cv.symm
  have LV : ∀ o1 o2, ((w.alloc o1).alloc o2).cell? ⟨1, 0, none⟩ = some (.iface 205 (.pointer (some (ad 0)))) := fun o1 o2 => (L.below (bgo (below_one w o1) (below_one _ o2))).var 0 (by decide)
  have hki : (k : Int) < 8 := by omega
  have c1 := cv_get (a := a) (k := k) (by omega)
  rw [hm] at c1
  clear hm
  go_enter Tryd.func26, Tryd.ntmps26
  go_wp2_with (first | (go_at_call 49; refine (isRep_in _ (by omega) hki _).mono ?_; rintro e w1 ⟨rfl, hw⟩; obtain rfl := hw.symm) | (go_at_call 25; refine (newF (ad := ad) bClock bTick _ 0 _).mono ?_; rintro e w2 ⟨rfl, hf, hb2⟩) | (refine wpL_store rfl _ _ rfl rfl (v := ck0) rfl (h2.later hb2) rfl ?_))
  have hblk : ¬ w.heap.size + 2 = w.heap.size + 1 := by omega
  have hf' : FaultAt ad (w.heap.size + 2) bClock bTick (place (k : Int)) 0 (w2.setRow (w.heap.size + 1) (cv ck0)) := by
    have e : (w2.setRow (w.heap.size + 1) (cv ck0)).heap[w.heap.size + 2]? = w2.heap[w.heap.size + 2]? := setRow_other w2 _ _ _ hblk
    simp only [World.size_alloc] at hf
    exact e.trans hf
  exact bodyPost_ret (v := .tuple #[.agg (cv ck0), .iface 101 (.pointer (some ⟨w.heap.size + 2, 0, none⟩))]) (results_ck2 (fn := Tryd.f26) (p := 4) (u := 5) rfl rfl ((h2.later hb2).row (y := ck0) rfl)) rfl ⟨_, rfl, ⟨_, rfl, hf'⟩, (fun b e => by cases e; omega), below_row (bgo hB hb2) (by omega) _⟩

theorem tick_any {ad : Nat → Addr} (a : List Int) (r : Int) (w : World) (L : Laid ad w) (ha : Ck a) :
    Calls Tryd.prog 26 #[.agg (cv a), .int .i64 r] w fun e w' => ∃ ev, e = .returned (.tuple #[.agg (cv (tkz a r)), ev]) ∧ TE ad (tkOk a r) r ev w' ∧ EB w.heap.size ev ∧ Below w.heap.size w w' := by
  by_cases hr : 0 ≤ r ∧ r < 8
  · obtain ⟨k, rfl⟩ := Int.eq_ofNat_of_zero_le hr.1
    have hk : k < 8 := by omega
    have fk := ha.2 k hk
    unfold fitsI at fk
    by_cases hm : en a k = 9223372036854775807
    · have hok : tkOk a (k : Int) = false := by unfold tkOk; rw [Int.toNat_natCast, hm]; simp
      have hz : tkz a (k : Int) = ck0 := by unfold tkz; rw [hok]; rfl
      rw [hok, hz]
      exact tick_max a k w L ha.1 hk hm
    · have hok : tkOk a (k : Int) = true := by unfold tkOk; rw [decide_eq_true hr, Int.toNat_natCast]; simpa using hm
      refine (tick_ok a k w ha.1 hk fk.1 (by omega)).mono ?_
      rintro e w1 ⟨rfl, hb⟩
      have hz : tkz a (k : Int) = a.set k (en a k + 1) := by unfold tkz; rw [hok, Int.toNat_natCast]; rfl
      rw [hok, hz]
      exact ⟨_, rfl, rfl, (fun b e => by cases e), hb⟩
  · have hok : tkOk a r = false := by unfold tkOk; rw [decide_eq_false hr]; rfl
    have hz : tkz a r = ck0 := by unfold tkz; rw [hok]; rfl
    rw [hok, hz]
    exact tick_out a r w L ha.1 (by omega)

theorem results_ckNo {fn : Func} {p u : Tmp} {tmps : Array Value} {w : World} {g g' : Nat} {x : List Int} {cs : Array Value} (h : fn.results = #[.cell p 23, .cell u 34]) (hp : tmps.getD p undef = .pointer (some ⟨g, 0, none⟩)) (hu : tmps.getD u undef = .pointer (some ⟨g', 0, none⟩)) (hg : CkAt g x w) (hg' : RowAt g' cs 34 w) (hs : cs.size = 3) :
    (results fn tmps).run Tryd.prog w = .ok (.tuple #[.agg (cv x), .agg cs]) w := by
  have hp' : tmps[p]?.getD undef = .pointer (some ⟨g, 0, none⟩) := by simpa using hp
  have hu' : tmps[u]?.getD undef = .pointer (some ⟨g', 0, none⟩) := by simpa using hu
  have hi : (Tryd.prog.info? 34).map (·.size) = some cs.size := by rw [hs]; exact no_size
  simp [results, h, hp', hu', asAddr, run_loadVar_row w g _ _ _ _ _ hg.1 Tryd.underlying23 rfl hg.size, run_loadVar_row w g' _ _ _ _ _ hg' Tryd.underlying34 rfl hi]

theorem startT (w : World) {a : List Int} (ha : a.length = 8) :
    CkAt w.heap.size a (((w.alloc (.cells (cv a) 23)).alloc (.cells (cv ck0) 23)).alloc (.cells #[.int .i64 0, .slice none 0 0, .slice none 0 0] 34)) ∧ CkAt (w.heap.size + 1) ck0 (((w.alloc (.cells (cv a) 23)).alloc (.cells (cv ck0) 23)).alloc (.cells #[.int .i64 0, .slice none 0 0, .slice none 0 0] 34)) ∧ RowAt (w.heap.size + 2) #[.int .i64 0, .slice none 0 0, .slice none 0 0] 34 (((w.alloc (.cells (cv a) 23)).alloc (.cells (cv ck0) 23)).alloc (.cells #[.int .i64 0, .slice none 0 0, .slice none 0 0] 34)) ∧ Below w.heap.size w (((w.alloc (.cells (cv a) 23)).alloc (.cells (cv ck0) 23)).alloc (.cells #[.int .i64 0, .slice none 0 0, .slice none 0 0] 34)) := by
  obtain ⟨h1, h2, hB⟩ := start2 w ha (b := ck0) rfl
  have h3 := heap_alloc_last ((w.alloc (.cells (cv a) 23)).alloc (.cells (cv ck0) 23)) (.cells #[.int .i64 0, .slice none 0 0, .slice none 0 0] 34)
  simp only [World.size_alloc] at h3
  exact ⟨h1.alloc _, h2.alloc _, h3, bgo hB (below_one _ _)⟩
end Go.Proofs.YtcfefgcibdpmeaaDoor
