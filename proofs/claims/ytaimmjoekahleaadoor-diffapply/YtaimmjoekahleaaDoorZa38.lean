
/-
  diff.check: why an edit can't be done.
-/
import Derived.Test.YtaimmjoekahleaaDoorZa35
import Derived.Test.YtaimmjoekahleaaDoorZa34
namespace Go.Proofs.YtaimmjoekahleaaDoor
open Go.RowKit Go.Extern.Stop Go.Stop Go.Extern
set_option maxRecDepth 100000

/-- What edits' doing wants of memory. -/
structure Env3 (ad : Nat → Addr) (w : World) : Prop where
  env : Env ad w
  rg : Vr ad 3 1 w
theorem Env3.later {ad : Nat → Addr} {w w' : World} (h : Env3 ad w) (hb : Below w.heap.size w w') : Env3 ad w' := ⟨h.env.later hb, h.rg.later hb⟩
/-- A bare reason, or none. -/
def ErrC (ad : Nat → Addr) (o : Option Nat) : Value := match o with
  | none => .nilIface
  | some k => .iface 154 (.pointer (some (ad k)))
set_option maxHeartbeats 4000000 in
theorem check_is {ad : Nat → Addr} {w : World} (E : Env3 ad w) (e : Edt) (n : Nat) (hs : e.ins.size ≤ 70368744177664) (hn : n ≤ 1000000000) :
    Calls Tryd.prog 25 #[.agg (edv e), .int .i64 (n : Int)] w fun r w' => r = .returned (ErrC ad (ckE n e)) ∧ Below w.heap.size w w' := by
  obtain ⟨at_, er, ins⟩ := e
  unfold ckE edv
  dsimp only at hs ⊢
  have b0 := below_one w (.cells #[.int .i64 at_, .int .i64 er, .string ins] 46)
  have r0 := RowAt.new w #[.int .i64 at_, .int .i64 er, .string ins] 46
  have hV : Calls Tryd.prog 23 #[.string ins] (w.alloc (.cells #[.int .i64 at_, .int .i64 er, .string ins] 46)) fun e w' => e = .returned (.bool (Lib.validD ins.data.toList)) ∧ Below (w.alloc (.cells #[.int .i64 at_, .int .i64 er, .string ins] 46)).heap.size (w.alloc (.cells #[.int .i64 at_, .int .i64 er, .string ins] 46)) w' := valid_is (E.env.u8.later b0) ins hs
  have cr : (w.alloc (.cells #[.int .i64 at_, .int .i64 er, .string ins] 46)).cell? ⟨3, 0, none⟩ = some (.iface 154 (.pointer (some (ad 1)))) := E.rg.later b0
  have HT := hid_of' (fun x (hx : Below w.heap.size w x) => E.env.tx.later hx)
  have c0 := r0.is (k := 0) rfl
  have c1 := r0.is (k := 1) rfl
  have c2 := r0.is (k := 2) rfl
  clear E r0
  by_cases h1 : at_ < 0
  · rw [if_pos (.inl h1)]
    have HB := hid_of' b0
    clear b0 hV
    go_enter Tryd.func25, Tryd.ntmps25
    go_wp2
    go_ret
    exact ⟨rfl, HB.out⟩
  by_cases h2 : (n : Int) < at_
  · rw [if_pos (.inr (.inl h2))]
    have HB := hid_of' b0
    clear b0 hV
    go_enter Tryd.func25, Tryd.ntmps25
    go_wp2
    go_ret
    exact ⟨rfl, HB.out⟩
  by_cases h3 : er < 0
  · rw [if_pos (.inr (.inr (.inl h3)))]
    have HB := hid_of' b0
    clear b0 hV
    go_enter Tryd.func25, Tryd.ntmps25
    go_wp2
    go_ret
    exact ⟨rfl, HB.out⟩
  by_cases h4 : (n : Int) - at_ < er
  · rw [if_pos (.inr (.inr (.inr h4)))]
    have HB := hid_of' b0
    clear b0 hV
    go_enter Tryd.func25, Tryd.ntmps25
    go_wp2
    go_ret
    exact ⟨rfl, HB.out⟩
  rw [if_neg (by omega)]
  cases hv : Lib.validD ins.data.toList
  · rw [if_pos rfl]
    rw [hv] at hV
    have HV := hid_of' hV
    have HB := hid_of' b0
    clear b0 hV cr hv
    go_enter Tryd.func25, Tryd.ntmps25
    go_upto_region 4 with (go_at_call 23; (with_reducible refine HV.out.mono ?_); rintro e w1 ⟨rfl, hb1⟩)
    have ct : w1.cell? ⟨0, 0, none⟩ = some (.iface 154 (.pointer (some (ad 2)))) := HT.out _ (bgo HB.out hb1)
    have HB1 := hid_of' hb1
    clear hb1
    go_wp2
    go_ret
    exact ⟨rfl, bgo HB.out HB1.out⟩
  · rw [if_neg (by decide)]
    rw [hv] at hV
    have HV := hid_of' hV
    have HB := hid_of' b0
    clear b0 hV cr hv
    go_enter Tryd.func25, Tryd.ntmps25
    go_wp2_with (go_at_call 23; (with_reducible refine HV.out.mono ?_); rintro e w1 ⟨rfl, hb1⟩; have HB1 := hid_of' hb1; clear hb1)
    go_ret
    exact ⟨rfl, bgo HB.out HB1.out⟩
end Go.Proofs.YtaimmjoekahleaaDoor
