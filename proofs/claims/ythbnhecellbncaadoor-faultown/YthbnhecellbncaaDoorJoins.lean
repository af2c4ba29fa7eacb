/-
  barrowkeep.Within at 14, barrowlaw01.reason; fault.Join of any row of errors.
-/
import Derived.Test.YthbnhecellbncaaDoorMeet
namespace Go.Proofs.YthbnhecellbncaaDoor
open Go.RowKit Go.Extern.Stop Go.Stop Go.Extern
set_option maxRecDepth 100000

theorem tmod14 (n : Int) : n.tmod 14 = if 0 ≤ n then n % 14 else -((-n) % 14) := by
  split
  · rename_i h; exact Int.tmod_eq_emod_of_nonneg h
  · rename_i h
    have h1 : (-n).tmod 14 = (-n) % 14 := Int.tmod_eq_emod_of_nonneg (by omega)
    rw [Int.neg_tmod] at h1
    omega

theorem within14 (n : Int) (w : World) (h1 : -9223372036854775808 ≤ n) (h2 : n ≤ 9223372036854775807) :
    Calls Tryd.prog 47 #[.int .i64 n, .int .i64 14] w fun e w' => e = .returned (.int .i64 (n % 14)) ∧ w' = w := by
  by_cases hn : n.tmod 14 < 0
  · have he : n.tmod 14 + 14 = n % 14 := by rw [tmod14] at hn ⊢; split at hn <;> split <;> omega
    go_enter Tryd.func47, Tryd.ntmps47
    go_wp2
    go_ret
    exact ⟨rfl, rfl⟩
  · have he : n.tmod 14 = n % 14 := by rw [tmod14] at hn ⊢; split at hn <;> split <;> omega
    go_enter Tryd.func47, Tryd.ntmps47
    go_wp2
    go_ret
    exact ⟨rfl, rfl⟩

/-- The number that a law means by n. -/
def rcode (n : Int) : Int := if n % 14 = 0 then 99 else n % 14
/-- The place of its reason. -/
def rplace (n : Int) : Nat := if n % 14 = 0 then 13 else (n % 14 - 1).toNat

theorem rplace_lt (n : Int) : rplace n < 14 := by unfold rplace; split <;> omega

theorem reason_any (n : Int) (w : World) (h1 : -9223372036854775808 ≤ n) (h2 : n ≤ 9223372036854775807) :
    Calls Tryd.prog 28 #[.int .i64 n] w fun e w' => e = .returned (.int .i64 (rcode n)) ∧ w' = w := by
  by_cases hn : n % 14 = 0
  · have hz : (n % 14 == 0) = true := by simpa using hn
    have hr : rcode n = 99 := by simp [rcode, hn]
    rw [hr]
    go_enter Tryd.func28, Tryd.ntmps28
    go_wp2_with (go_at_call 47; refine (within14 n _ h1 h2).mono ?_; rintro e w1 ⟨rfl, rfl⟩)
    go_ret
    exact ⟨rfl, rfl⟩
  · have hz : (n % 14 == 0) = false := by simpa using hn
    have hr : rcode n = n % 14 := by simp [rcode, hn]
    rw [hr]
    go_enter Tryd.func28, Tryd.ntmps28
    go_wp2_with (go_at_call 47; refine (within14 n _ h1 h2).mono ?_; rintro e w1 ⟨rfl, rfl⟩)
    go_ret
    exact ⟨rfl, rfl⟩

theorem named_reason {ad : Nat → Addr} {w : World} (L : Laid ad w) (n : Int) :
    Calls Tryd.prog 23 #[.int .i64 (rcode n)] w fun e w' => e = .returned (.iface 131 (.pointer (some (ad (rplace n))))) ∧ Below w.heap.size w w' := by
  by_cases hn : n % 14 = 0
  · have h1 : rcode n = 99 := by simp [rcode, hn]
    have h2 : rplace n = 13 := by simp [rplace, hn]
    rw [h1, h2]; exact named_other L
  · have h1 : rcode n = (((n % 14 - 1).toNat : Nat) : Int) + 1 := by simp only [rcode, hn, if_false]; omega
    have h2 : rplace n = (n % 14 - 1).toNat := by simp [rplace, hn]
    rw [h1, h2]; exact named_ok L _ (by omega)

/-- Is an error there? -/
def nn : Value → Bool
  | .nilIface => false
  | _ => true
/-- nil or an error. -/
def ErrV (v : Value) : Prop := v = .nilIface ∨ ∃ t x, v = .iface t x
/-- The errors that are there. -/
def kept (vs : List Value) : List Value := vs.filter nn

theorem kept_snoc_nil (vs : List Value) (k : Nat) (h : vs[k]? = some .nilIface) : kept (vs.take (k + 1)) = kept (vs.take k) := by
  rw [List.take_add_one, h]; simp [kept, nn]
theorem kept_snoc_some (vs : List Value) (k : Nat) (t : TypeId) (x : Value) (h : vs[k]? = some (.iface t x)) : kept (vs.take (k + 1)) = kept (vs.take k) ++ [.iface t x] := by
  rw [List.take_add_one, h]; simp [kept, nn]

theorem info_err : (Tryd.prog.info? 26).map (fun i => (i.zero, i.size, i.bytes)) = some (some .nilIface, 1, 16) := by kernel_rfl

/-- What fault.Join answers. -/
def Joined (w : World) (l : List Value) (v : Value) (w' : World) : Prop :=
  Below w.heap.size w w' ∧ match l with
    | [] => v = .nilIface
    | [x] => v = x
    | _ => ∃ b g cap cur, v = .iface 64 (.pointer (some ⟨b, 0, none⟩)) ∧ w.heap.size ≤ b ∧ w.heap.size ≤ g ∧ g ≠ b ∧ w'.heap[b]? = some (.cells #[.slice (some ⟨g, 0, none⟩) l.length cap] 84 (0, 0)) ∧ w'.heap[g]? = some (.cells cur 26 (0, 0)) ∧ cur.toList.take l.length = l

set_option maxHeartbeats 1000000 in
theorem join_any (g cap : Nat) (vs : List Value) (w : World) (hvs : ∀ v ∈ vs, ErrV v) (hn : vs.length ≤ 100000) (hc : ∀ i v, vs[i]? = some v → w.cell? ⟨g, i, none⟩ = some v) (hg : vs ≠ [] → g < w.heap.size) :
    Calls Tryd.prog 20 #[.slice (some ⟨g, 0, none⟩) vs.length cap] w fun e w' => ∃ v, e = .returned v ∧ Joined w (kept vs) v w' := by
  obtain ⟨i0, hi, hi3⟩ := Option.map_eq_some_iff.1 info_err
  simp only [Prod.mk.injEq] at hi3
  obtain ⟨hz0, hz1, hz2⟩ := hi3
  have HC : Aside ((∀ v ∈ vs, ErrV v) ∧ (∀ i v, vs[i]? = some v → w.cell? ⟨g, i, none⟩ = some v) ∧ (vs ≠ [] → g < w.heap.size)) := ⟨hvs, hc, hg⟩
  clear hvs hc hg
  go_enter Tryd.func20, Tryd.ntmps20
  go_wp2
  go_loopw [3, 8] (fun kv i wr => ∃ k : Nat, i = .int .i64 (k : Int) ∧ k ≤ vs.length ∧ Below w.heap.size w wr ∧ wr.ownsRow w.heap.size 26 1 kv (kept (vs.take k)).length (kept (vs.take k))) (fun _ i _ => vs.length - (intOf i).toNat)
  case atStart => exact ⟨0, rfl, Nat.zero_le _, Below.refl _ _, World.ownsRow_nil _ _ _ _⟩
  case round =>
    obtain ⟨k, rfl, hk, hb, hown⟩ := hrel
    have hkl : (kept (vs.take k)).length ≤ k := Nat.le_trans (List.length_filter_le _ _) (List.length_take_le _ _)
    by_cases hlt : k < vs.length
    · have hx : vs[k]? = some vs[k] := List.getElem?_eq_getElem hlt
      have hcell : wr.cell? ⟨g, k, none⟩ = some vs[k] := by
        rw [hb.cell (p := ⟨g, k, none⟩) (HC.out.2.2 (by intro h; rw [h] at hlt; simp at hlt))]; exact HC.out.2.1 k _ hx
      rcases HC.out.1 vs[k] (List.getElem_mem hlt) with hnil | ⟨t, x, hsome⟩
      · have hks : Hid (kept (vs.take (k + 1)) = kept (vs.take k)) := kept_snoc_nil vs k (by rw [hx, hnil])
        rw [hnil] at hcell
        clear hx hnil
        go_wp2
        go_roundw
        case rel => exact ⟨k + 1, by go_num, by omega, hb, by rw [hks.out]; exact hown⟩
        case measure => simp [intOf]; omega
      · have hks : Hid (kept (vs.take (k + 1)) = kept (vs.take k) ++ [.iface t x]) := kept_snoc_some vs k t x (by rw [hx, hsome])
        rw [hsome] at hcell
        clear hx hsome
        go_wp2_with (at_builtin; refine wpList_append_own _ rfl _ _ 49 rfl w.heap.size 26 i0 .nilIface 1 16 Tryd.underlying49 hi hz0 hz1 hz2 rfl (by decide) _ _ _ rfl (hown.alloc _) ⟨wr.heap.size, 0, none⟩ 1 1 [.iface t x] rfl rfl ?c1 ?c2 ?c3 ?c4 ?c5 ?_)
        case c1 => exact cell_one_new _ _ _
        case c2 => intro u hu; simp at hu; subst hu; rfl
        case c3 => unfold maxLen; omega
        case c4 => omega
        case c5 => have := hb.size; simp; omega
        intro v0 w4 hown0 hgr _
        go_wp2
        go_roundw
        case rel =>
          refine ⟨k + 1, by go_num, by omega, ?_, by rw [hks.out]; simpa using hown0⟩
          exact (hb.alloc (by have := hb.size; omega) _).grown hgr (by have := hb.size; simp; omega) (fun j hj => (hown.lt j hj).1)
        case measure => simp [intOf]; omega
    · have hke : vs.take k = vs := List.take_of_length_le (by omega)
      rw [hke] at hown hkl
      clear hke HC
      match hq : kept vs with
      | [] =>
        rw [hq] at hown
        obtain ⟨ka, kc, hkv⟩ : ∃ ka kc, u3 = .slice ka 0 kc := by
          rcases hown.2 with ⟨h, _⟩ | ⟨g, cap, cur, h, _⟩
          · exact ⟨_, _, h⟩
          · exact ⟨_, _, h⟩
        rw [hkv]
        clear hkv
        go_wp2
        go_ret
        refine ⟨_, rfl, hb, ?_⟩
        rw [hq]; rfl
      | [x] =>
        rw [hq] at hown
        obtain ⟨kg, kc, kcur, hkv, hkb, hkg, _, _, _, htk⟩ : ∃ g cap cur, u3 = .slice (some ⟨g, 0, none⟩) 1 cap ∧ w.heap.size ≤ g ∧ wr.heap[g]? = some (.cells cur 26 (0, 0)) ∧ 1 ≤ cap ∧ cap ≤ maxLen ∧ cur.size = cap * 1 ∧ cur.toList.take 1 = [x] := by
          rcases hown.2 with ⟨_, h⟩ | ⟨g, cap, cur, h⟩
          · simp at h
          · exact ⟨g, cap, cur, by simpa using h⟩
        have hc0 : wr.cell? ⟨kg, 0, none⟩ = some x := by
          rw [cell_of_heap hkg]
          have h0 : (kcur.toList.take 1)[0]? = some x := by rw [htk]; rfl
          simpa using h0
        rw [hkv]
        clear hkv
        go_wp2
        go_ret
        refine ⟨_, rfl, hb, ?_⟩
        rw [hq]; rfl
      | x :: y :: r =>
        rw [hq] at hown
        obtain ⟨kg, kc, kcur, hkv, hkb, hkg, _, _, _, htk⟩ : ∃ g cap cur, u3 = .slice (some ⟨g, 0, none⟩) (r.length + 1 + 1) cap ∧ w.heap.size ≤ g ∧ wr.heap[g]? = some (.cells cur 26 (0, 0)) ∧ r.length + 1 + 1 ≤ cap ∧ cap ≤ maxLen ∧ cur.size = cap * 1 ∧ cur.toList.take (r.length + 1 + 1) = x :: y :: r := by
          rcases hown.2 with ⟨_, h⟩ | ⟨g, cap, cur, h⟩
          · simp at h
          · exact ⟨g, cap, cur, by simpa using h⟩
        have hkl' : kg < wr.heap.size := (Array.getElem?_eq_some_iff.1 hkg).1
        have hz1 : (((r.length : Int) + 1 + 1) == 0) = false := by simp; omega
        have hz2 : (((r.length : Int) + 1 + 1) == 1) = false := by simp; omega
        rw [hkv]
        clear hkv
        go_wp2
        go_ret
        refine ⟨_, rfl, bal hb _, ?_⟩
        rw [hq]
        refine ⟨wr.heap.size, kg, kc, kcur, rfl, hb.size, hkb, Nat.ne_of_lt hkl', heap_alloc_last _ _, ?_, htk⟩
        rw [Below.heap_alloc _ _ _ hkl']; exact hkg
end Go.Proofs.YthbnhecellbncaaDoor
