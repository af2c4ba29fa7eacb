/-
  A Many in memory: its Unwrap, and the words of a Many of reasons.
-/
import Derived.Test.YthbnhecellbncaaDoorWakes
import Derived.Test.YthbnhecellbncaaDoorJoins
namespace Go.Proofs.YthbnhecellbncaaDoor
open Go.RowKit Go.Extern.Stop Go.Stop Go.Extern
set_option maxRecDepth 100000

/-- A Many in block b, its list in block g. -/
structure ManyAt (b g cap : Nat) (vs : List Value) (w : World) : Prop where
  lies : w.heap[b]? = some (.cells #[.slice (some ⟨g, 0, none⟩) vs.length cap] 84 (0, 0))
  row : ∃ cur, w.heap[g]? = some (.cells cur 26 (0, 0)) ∧ cur.toList.take vs.length = vs

theorem ManyAt.keep {b g cap : Nat} {vs : List Value} {w w' : World} (h : ManyAt b g cap vs w) (h1 : w'.heap[b]? = w.heap[b]?) (h2 : w'.heap[g]? = w.heap[g]?) : ManyAt b g cap vs w' :=
  ⟨by rw [h1]; exact h.lies, by obtain ⟨cur, hc, ht⟩ := h.row; exact ⟨cur, by rw [h2]; exact hc, ht⟩⟩
theorem ManyAt.lt {b g cap : Nat} {vs : List Value} {w : World} (h : ManyAt b g cap vs w) : b < w.heap.size ∧ g < w.heap.size := by
  obtain ⟨cur, hc, _⟩ := h.row
  exact ⟨(Array.getElem?_eq_some_iff.1 h.lies).1, (Array.getElem?_eq_some_iff.1 hc).1⟩
theorem ManyAt.below {b g cap : Nat} {vs : List Value} {w w' : World} (h : ManyAt b g cap vs w) (hb : Below w.heap.size w w') : ManyAt b g cap vs w' :=
  h.keep (hb.block _ h.lt.1) (hb.block _ h.lt.2)
theorem ManyAt.set {b g cap : Nat} {vs : List Value} {w : World} (h : ManyAt b g cap vs w) (c i : Nat) (v : Value) (h1 : b ≠ c) (h2 : g ≠ c) : ManyAt b g cap vs (w.setCell ⟨c, i, none⟩ v) :=
  h.keep (Below.heap_setCell w ⟨c, i, none⟩ v b h1) (Below.heap_setCell w ⟨c, i, none⟩ v g h2)
theorem ManyAt.cell0 {b g cap : Nat} {vs : List Value} {w : World} (h : ManyAt b g cap vs w) : w.cell? ⟨b, 0, none⟩ = some (.slice (some ⟨g, 0, none⟩) vs.length cap) := by rw [cell_of_heap h.lies]; rfl
theorem ManyAt.at {b g cap : Nat} {vs : List Value} {w : World} (h : ManyAt b g cap vs w) (i : Nat) (v : Value) (hv : vs[i]? = some v) : w.cell? ⟨g, i, none⟩ = some v := by
  obtain ⟨cur, hc, ht⟩ := h.row
  rw [cell_of_heap hc]
  have hi : i < vs.length := (List.getElem?_eq_some_iff.1 hv).1
  rw [← ht, List.getElem?_take] at hv
  rw [if_pos hi] at hv
  simpa using hv

theorem sizeErr (w : World) : (Go.sizeOf 26).run Tryd.prog w = .ok 1 w := Tryd.sizeOf26 w

/-- (*Many).Unwrap: a list of the caller's own. -/
theorem unwrap_many {b g cap : Nat} {vs : List Value} {w : World} (h : ManyAt b g cap vs w) (hvs : ∀ v ∈ vs, v.oneCell' = true) (hn : vs.length ≤ 100000) :
    Calls Tryd.prog 30 #[.pointer (some ⟨b, 0, none⟩)] w fun e w' => ∃ v', e = .returned v' ∧ w'.ownsRow w.heap.size 26 1 v' vs.length vs ∧ v' ≠ .slice none 0 0 ∧ Below w.heap.size w w' := by
  obtain ⟨i0, hi, hi3⟩ := Option.map_eq_some_iff.1 info_err
  simp only [Prod.mk.injEq] at hi3
  have c0 := h.cell0
  have HA : Aside (ManyAt b g cap vs w ∧ (∀ v ∈ vs, v.oneCell' = true) ∧ vs.length ≤ 100000 ∧ i0.zero = some .nilIface ∧ i0.size = 1 ∧ i0.bytes = 16) := ⟨h, hvs, hn, hi3⟩
  clear h hvs hn hi3
  go_enter Tryd.func30, Tryd.ntmps30
  go_wp2_with (go_at_call 48; refine (Tryd.slices_Clone i0 .nilIface 1 16 hi HA.out.2.2.2.1 HA.out.2.2.2.2.1 HA.out.2.2.2.2.2 rfl (by decide) sizeErr g 0 vs.length cap vs _ ?h1 ?h2 ?h3 ?h4 HA.out.2.1).mono ?_)
  case h1 => simp
  case h2 => have := HA.out.2.2.1; unfold maxLen; omega
  case h3 => have := HA.out.2.2.1; omega
  case h4 => intro j u hu; simpa using HA.out.1.at j u hu
  rintro e w1 ⟨v1, rfl, ho, hne, hb⟩
  go_wp2
  go_ret
  exact ⟨_, rfl, ho, hne, hb⟩

/-- The words of reasons, one behind the other. -/
def wB (ks : List Nat) : Nat → List UInt8
  | 0 => []
  | i + 1 => (if i = 0 then wB ks i else wB ks i ++ [59, 32]) ++ (txt (ks.getD i 0)).data.toList

theorem byteCells_append (a b : List UInt8) : Lib.byteCells (a ++ b) = Lib.byteCells a ++ Lib.byteCells b := by simp [Lib.byteCells]
theorem byteCells_str (s : ByteArray) : Lib.strCells s = Lib.byteCells s.data.toList := rfl
theorem txt_len (k : Nat) : (txt k).data.toList.length ≤ 20 := by
  match k with
  | 0 | 1 | 2 | 3 | 4 | 5 | 6 | 7 | 8 | 9 | 10 | 11 | 12 => decide
  | n + 13 => exact (by decide : (txt 13).data.toList.length ≤ 20)
theorem wB_len (ks : List Nat) : ∀ i, (wB ks i).length ≤ 22 * i
  | 0 => by simp [wB]
  | i + 1 => by
    have h1 := wB_len ks i
    have h2 := txt_len (ks.getD i 0)
    simp only [wB, List.length_append]
    split
    · omega
    · simp only [List.length_append, List.length_cons, List.length_nil]; omega
theorem byteCells_len (l : List UInt8) : (Lib.byteCells l).length = l.length := by simp [Lib.byteCells]

/-- The values of reasons. -/
def rvals (ad : Nat → Addr) (ks : List Nat) : List Value := ks.map fun k => .iface 131 (.pointer (some (ad k)))

set_option maxHeartbeats 600000 in
theorem tellAll_rsn {ad : Nat → Addr} {B b mb g cap : Nat} {ks : List Nat} {w : World} (L : LaidB ad B w) (hks : ∀ k ∈ ks, k < 14) (hn : ks.length ≤ 100000) (hM : ManyAt mb g cap (rvals ad ks) w) (hgB : g < B) (hB : Bld B b [] w) :
    Calls Tryd.prog 86 #[.pointer (some ⟨mb, 0, none⟩), .pointer (some ⟨b, 0, none⟩)] w fun e w' => e = .returned (.tuple #[]) ∧ Bld B b (Lib.byteCells (wB ks ks.length)) w' ∧ Below B w w' := by
  have c0 : w.cell? ⟨mb, 0, none⟩ = some (.slice (some ⟨g, 0, none⟩) ks.length cap) := by have := hM.cell0; simpa [rvals] using this
  have hBw : B ≤ w.heap.size := by have := Bld_lt hB; omega
  have HA : Aside ((∀ k ∈ ks, k < 14) ∧ ManyAt mb g cap (rvals ad ks) w) := ⟨hks, hM⟩
  clear hks hM
  go_enter Tryd.func86, Tryd.ntmps86
  go_wp2
  go_loopw [11] (fun i wr => ∃ k : Nat, i = .int .i64 (k : Int) ∧ k ≤ ks.length ∧ Bld B b (Lib.byteCells (wB ks k)) wr ∧ Below B w wr) (fun i _ => ks.length - (intOf i).toNat)
  case atStart => exact ⟨0, rfl, Nat.zero_le _, hB, Below.refl _ _⟩
  case round =>
    clear c0 hB
    obtain ⟨k, rfl, hk, hBr, hb⟩ := hrel
    have hBwr := bsz hb hBw
    have Lr := L.below hb
    have hwl : Hid ((wB ks k).length ≤ 22 * k) := wB_len ks k
    by_cases hlt : k < ks.length
    · obtain ⟨p, hp⟩ : ∃ p, ks.getD k 0 = p := ⟨_, rfl⟩
      have hcell : wr.cell? ⟨g, k, none⟩ = some (.iface 131 (.pointer (some (ad p)))) := by
        rw [hb.cell (p := ⟨g, k, none⟩) hgB, ← hp]
        exact HA.out.2.at k _ (by simp [rvals, List.getD, hlt])
      have hk14 : p < 14 := HA.out.1 _ (by rw [← hp]; simp [List.getD, hlt])
      by_cases hk0 : k = 0
      · have hgt : ¬ 0 < (k : Int) := by omega
        have hws : Hid (wB ks (k + 1) = wB ks k ++ (txt p).data.toList) := by show wB ks (k + 1) = _; rw [← hp]; simp only [wB, hk0, if_true]
        have hwz : Hid ((wB ks k).length = 0) := by show (wB ks k).length = 0; rw [hk0]; rfl
        clear hp hk0
        go_wp2_with (go_at_call 81; refine (tell_rsn Lr p hk14 hBr ?h1).mono ?_)
        case h1 => have := hwz.out; rw [byteCells_len]; omega
        rintro e w2 rfl hB2 hb2
        go_wp2
        go_roundw
        case rel => exact ⟨k + 1, by go_num, by omega, by rw [hws.out, byteCells_append]; exact hB2, hb.trans hb2⟩
        case measure => simp [intOf]; omega
      · have hgt : 0 < (k : Int) := by omega
        have hws : Hid (wB ks (k + 1) = wB ks k ++ [59, 32] ++ (txt p).data.toList) := by show wB ks (k + 1) = _; rw [← hp]; simp only [wB, hk0, if_false]
        have hs2 : Hid ((ByteArray.mk #[59, 32]).size = 2) := rfl
        clear hp hk0
        go_wp2_with (go_at_call 83; refine (writeString_any B b _ ⟨#[59, 32]⟩ _ hBr ?h1 hBwr).mono ?_)
        case h1 => have := hwl.out; rw [byteCells_len, hs2.out]; omega
        rintro e w1 ⟨rfl, hB1, hb1⟩
        go_wp2_with (go_at_call 81; refine (tell_rsn (Lr.below hb1) p hk14 hB1 ?h1).mono ?_)
        case h1 => have := hwl.out; rw [byteCells_str]; simp only [List.length_append, byteCells_len, List.length_cons, List.length_nil]; omega
        rintro e w2 ⟨rfl, hB2, hb2⟩
        go_wp2
        go_roundw
        case rel => exact ⟨k + 1, by go_num, by omega, by rw [hws.out, byteCells_append, byteCells_append]; exact hB2, (hb.trans hb1).trans hb2⟩
        case measure => simp [intOf]; omega
    · have hke : Hid (k = ks.length) := by show k = ks.length; omega
      go_wp2
      go_end0
      exact ⟨rfl, by rw [← hke.out]; exact hBr, hb⟩

set_option maxHeartbeats 1000000 in
theorem text_many {ad : Nat → Addr} {mb g cap : Nat} {ks : List Nat} {w : World} (L : Laid ad w) (hks : ∀ k ∈ ks, k < 14) (hn : ks.length ≤ 100000) (hM : ManyAt mb g cap (rvals ad ks) w) :
    Calls Tryd.prog 29 #[.iface 64 (.pointer (some ⟨mb, 0, none⟩))] w fun e w' => e = .returned (.string ⟨(wB ks ks.length).toArray⟩) ∧ Below w.heap.size w w' := by
  have mE := methodErrorM
  have hb0 := below_one w (.cells #[.pointer none, .slice none 0 0] 149)
  have HE : Aside (Calls Tryd.prog 102 #[.pointer (some ⟨mb, 0, none⟩)] w fun e w' => e = .returned (.string ⟨(wB ks ks.length).toArray⟩) ∧ Below w.heap.size w w') := by
    show Calls _ _ _ _ _
    clear mE
    have hMA : ManyAt mb g cap (rvals ad ks) (w.alloc (.cells #[.pointer none, .slice none 0 0] 149)) := hM.below hb0
    have hlt := hM.lt
    clear hM
    go_enter Tryd.func102, Tryd.ntmps102
    go_wp2_with (go_at_call 86; refine (tellAll_rsn ((laidB_of L).below hb0) hks hn hMA hlt.2 (new_bld w)).mono ?_)
    rintro e w1 ⟨rfl, hB1, hb1⟩
    go_wp2_with (go_at_call 82; refine (Tryd.Builder_String_any w.heap.size w.heap.size (wB ks ks.length) _ hB1 ?h1).mono ?_)
    case h1 => have := hb0.size; have := hb1.size; omega
    rintro e w2 ⟨rfl, hb2⟩
    go_wp2
    go_ret
    exact ⟨rfl, (hb0.trans hb1).trans hb2⟩
  clear hb0 hM L
  go_enter Tryd.func29, Tryd.ntmps29
  go_wp2_with (go_at_call 102; refine HE.out.mono ?_; rintro e w1 ⟨rfl, hb1⟩)
  go_ret
  exact ⟨rfl, hb1⟩
end Go.Proofs.YthbnhecellbncaaDoor
