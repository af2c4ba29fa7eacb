
/-
  What the listed variables give the walks: the tables of utf8, two or three reasons. Some texts and edits that came in: from the argument as the form reads it to what the walks use. Some texts and edits that came in, the edits too.
-/
import Derived.Test.YtaimmjoekahleaaDoorZa52
import Derived.Test.YtaimmjoekahleaaDoorRows
import Derived.Test.YtaimmjoekahleaaDoorZa24
import Derived.Lib.LaidU8T
import Derived.PinnedBridge
import Derived.Test.YtaimmjoekahleaaDoorZa03
import Derived.ProofKit
import Derived.Deep.Slices
import Derived.Deep.Strs
import Derived.Lib.SmallJoins
import Derived.OpenShut
import Derived.Carry
import Derived.Test.YtaimmjoekahleaaDoorZa49
namespace Go.Proofs.YtaimmjoekahleaaDoor
open Go.ChangeShapes Go.WideShapes Go.ChangeAt Go.RowKit Go.Extern.Stop Go.Stop Go.Extern
set_option maxRecDepth 100000

theorem LaidVars_pre {P : Program} {w : World} : ∀ {l r : List (String × DataW Unit)} {ps : List MemPlace}, DataW.LaidVars P w (l ++ r) ps → ∃ p1 p2, DataW.LaidVars P w l p1 ∧ ps = p1 ++ p2
  | [], r, ps, h => ⟨[], ps, rfl, rfl⟩
  | x :: l, r, ps, h => by
    obtain ⟨g, t, cs, f, p, q, h1, h2, h3, h4, hq, e⟩ := h
    obtain ⟨p1, p2, a, b⟩ := LaidVars_pre hq
    exact ⟨_, p2, ⟨g, t, cs, f, p, p1, h1, h2, h3, h4, a, rfl⟩, by rw [e, b]; simp [List.append_assoc]⟩
theorem laidMet_pre {P : Program} {w : World} {l r : List (String × DataW Unit)} (h : laidMet P (l ++ r) w) : laidMet P l w := by
  obtain ⟨ps, h1, h2, h3⟩ := h
  obtain ⟨p1, p2, a, rfl⟩ := LaidVars_pre h1
  exact ⟨p1, a, (List.nodup_append.1 h2).1, fun b off hm => h3 b off (List.mem_append_left _ hm)⟩
theorem u8_extra : Go.Proofs.U8Extra Tryd.prog Tryd.lays196_ren := {
  n3 := by kernel_rfl
  n4 := by kernel_rfl
  y3 := by kernel_rfl
  y4 := by kernel_rfl
  c5 := by kernel_rfl
  c119 := by kernel_rfl
  c138 := by kernel_rfl }
theorem u8_of {W : World} {l : List (String × DataW Unit)} (h : laidMet Tryd.prog l W) (h1 : ("unicode/utf8.first", Rows.laid_unicode_utf8_first) ∈ l) (h2 : ("unicode/utf8.acceptRanges", Rows.laid_unicode_utf8_acceptRanges) ∈ l) : U8 W := by
  refine Go.Proofs.utf8Tabs_of_readsT (.of196 Tryd.lays196) u8_extra ?_ ?_
  · have := Go.Lib.laidMet.reads h h1
    rwa [show Rows.laid_unicode_utf8_first = Go.Lib.firstData from Pinned.utf8First_eq] at this
  · exact Go.Lib.laidMet.reads h h2
def names2 : List (String × List UInt8) := [("barrow/api.ErrText", (txt 2).data.toList), ("barrow/api.ErrRoom", (txt 12).data.toList)]
def names3 : List (String × List UInt8) := [("barrow/api.ErrRange", (txt 1).data.toList), ("barrow/api.ErrText", (txt 2).data.toList), ("barrow/api.ErrRoom", (txt 12).data.toList)]
theorem env_of2 {W : World} (h : laidMet Tryd.prog (("unicode/utf8.acceptRanges", Rows.laid_unicode_utf8_acceptRanges) :: ((names2.map fun x => (x.1, sent x.2)) ++ [("unicode/utf8.first", Rows.laid_unicode_utf8_first)])) W) : ∃ ad, Env ad W := by
  have hu := u8_of h (by simp) (by simp)
  obtain ⟨ps, hv, _, hrows⟩ := laidMet_pre h.tail
  obtain ⟨ads, hlen, _, hall⟩ := sents_of names2 ps hv hrows (fun x hx => by
    simp only [names2, List.mem_cons, List.not_mem_nil, or_false] at hx
    rcases hx with rfl | rfl
    · exact ⟨_, gl2, gt2⟩
    · exact ⟨_, gl12, gt12⟩)
  obtain ⟨a0, _, w0, _⟩ := hall 0 _ rfl
  obtain ⟨a1, _, w1, _⟩ := hall 1 _ rfl
  have c0 : W.cell? ⟨0, 0, none⟩ = some (.iface 154 (.pointer (some a0))) := by simpa using World.var?_cell gl2 w0 0
  have c1 : W.cell? ⟨4, 0, none⟩ = some (.iface 154 (.pointer (some a1))) := by simpa using World.var?_cell gl12 w1 0
  exact ⟨fun k => if k = 2 then a0 else a1, hu, c0, c1⟩
end Go.Proofs.YtaimmjoekahleaaDoor
namespace Go.Proofs.YtaimmjoekahleaaDoor
open Go.ChangeShapes Go.WideShapes Go.ChangeAt Go.RowKit Go.Deep
set_option maxRecDepth 100000

section
variable {H : Type} {enc : TypeId × Value → H} {W : World} {base : Nat}
theorem cellsTx : Tryd.prog.cellsOf 24 = 4 := by kernel_rfl
theorem cellsSt : Tryd.prog.cellsOf 9 = 1 := by kernel_rfl
theorem cellsEs : Tryd.prog.cellsOf 22 = 1 := by kernel_rfl
theorem open_txs {v : Value} {d : DataW H} {p : List MemPlace} (hval : Value.okWide Tryd.prog W .any base 24 v) (h : DataW.Trod enc Tryd.prog W 0 (fun _ => true) true 24 v d p) :
    ∃ (a b c : ByteArray) (l : Value), v = .agg #[.string a, .string b, .string c, l] ∧ a.size ≤ maxLen ∧ b.size ≤ maxLen ∧ c.size ≤ maxLen ∧ l.oneCell' = true := by
  obtain ⟨cs, rfl, hsz⟩ := okWide_struct Tryd.underlying24 hval
  obtain ⟨fuel, hf⟩ := h
  obtain ⟨y0, y1, y2, y3, k, _, hl, g0, g1, g2, g3⟩ := Go.Joins.trod_struct4 Tryd.underlying24 hf
  rw [cellsTx] at hl
  have hcs : (Value.agg cs).cells.toList = cs.toList := rfl
  rw [hcs] at hl g0 g1 g2 g3
  obtain ⟨cs⟩ := cs
  clear hsz hval hcs hf
  match cs, hl with
  | [x0, x1, x2, x3], _ =>
    simp only [cellsSt, cellsEs] at g0 g1 g2 g3
    obtain ⟨k0, e0, _, wf0⟩ := DataW.trod_string Tryd.underlying9 g0
    obtain ⟨k1, e1, _, wf1⟩ := DataW.trod_string Tryd.underlying9 g1
    obtain ⟨k2, e2, _, wf2⟩ := DataW.trod_string Tryd.underlying9 g2
    simp at e0 e1 e2 g3
    subst e0 e1 e2
    refine ⟨k0, k1, k2, x3, rfl, wf0, wf1, wf2, ?_⟩
    rcases open_slice Tryd.underlying22 g3 with ⟨hcs, hx⟩ | ⟨a, len', cap', m, n, D, Pl, hcs, _⟩
    · simp at hcs
      subst hcs
      rfl
    · simp at hcs
      subst hcs
      rfl
end
end Go.Proofs.YtaimmjoekahleaaDoor
namespace Go.Proofs.YtaimmjoekahleaaDoor
open Go.ChangeShapes Go.WideShapes Go.ChangeAt Go.RowKit Go.Deep
set_option maxRecDepth 100000

instance : Inhabited Edt := ⟨⟨0, 0, .empty⟩⟩
theorem cellsIntD : Tryd.prog.cellsOf 3 = 1 := by kernel_rfl
theorem cellsEd : Tryd.prog.cellsOf 46 = 3 := by kernel_rfl
section
variable {H : Type} {enc : TypeId × Value → H} {W : World} {base : Nat}
/-- The cells of an edit. -/
theorem open_ed {cs : List Value} {fuel bs : Nat} {sp : Nat → Bool} {hd : Bool} {x : DataW H × List MemPlace} (hlen : cs.length = 3) (h : DataW.trod enc Tryd.prog W bs sp hd fuel 46 cs = some x) : ∃ a : Edt, cs.toArray = edv a ∧ a.ins.size ≤ maxLen := by
  obtain ⟨z0, z1, z2, k', _, _, f0, f1, f2⟩ := trod_struct3 Tryd.underlying46 h
  simp only [cellsIntD, cellsSt] at f0 f1 f2
  obtain ⟨i0, e0, _, _⟩ := DataW.trod_int Tryd.underlying3 f0
  obtain ⟨i1, e1, _, _⟩ := DataW.trod_int Tryd.underlying3 f1
  obtain ⟨i2, e2, _, wf2⟩ := DataW.trod_string Tryd.underlying9 f2
  match cs, hlen with
  | [x0, x1, x2], _ =>
    refine ⟨⟨i0, i1, i2⟩, ?_, wf2⟩
    simp at e0 e1 e2
    subst e0 e1 e2
    rfl
theorem open_eds {cs : List Value} {fuel bs : Nat} {hd : Bool} {x : DataW H × List MemPlace} (hf : DataW.trod enc Tryd.prog W bs (fun _ => true) hd fuel 22 cs = some x) :
    ∃ (v : Value) (l : List Edt), cs = [v] ∧ SlT W v l ∧ ∀ e ∈ l, e.ins.size ≤ maxLen := by
  rcases open_slice Tryd.underlying22 hf with ⟨hcs, hx⟩ | ⟨a, len1, cap, m, n, D, Pl, hcs, _, hl, hm, hmm, hx, hcell⟩
  · exact ⟨_, [], hcs, .inl ⟨rfl, _, _, rfl⟩, fun e he => by simp at he⟩
  · simp only [if_true] at hmm
    subst hmm
    have each : ∀ i, i < len1 → ∃ x : Edt, x.ins.size ≤ maxLen ∧ ∀ j v, (edv x)[j]? = some v → W.cell? (a.add (i * 3 + j)) = some v := by
      intro i hi
      obtain ⟨cs', h1, h2⟩ := hcell i (by omega)
      rw [cellsEd] at h1
      obtain ⟨_, hlen, hc⟩ := World.cells?_some h1
      obtain ⟨x, ex, wx⟩ := open_ed hlen h2
      refine ⟨x, wx, fun j v hv => ?_⟩
      rw [← ex] at hv
      have hj : j < 3 := by
        have := (Array.getElem?_eq_some_iff.1 hv).1
        simpa [hlen] using this
      have := hc j hj
      rw [add_add] at this
      rw [this]
      simpa using hv
    obtain ⟨f, hf⟩ := choose_lt (α := Edt) each
    refine ⟨_, (List.range len1).map f, hcs, ?_, fun e he => ?_⟩
    · by_cases h0 : len1 = 0
      · subst h0
        exact .inl ⟨by simp, _, _, rfl⟩
      · obtain ⟨ab, ao, spot⟩ := a
        have c0 := (hf 0 (by omega)).2 0 _ (show (edv (f 0))[0]? = some (.int .i64 (f 0).at') from rfl)
        have hspot : spot = none := by simpa [Addr.add] using World.cell?_spot c0
        subst hspot
        have hblk : ab < W.heap.size := by
          have := World.block_lt_of_cell? _ _ c0
          simpa [Addr.add] using this
        refine .inr ⟨ab, ao, _, by rw [List.length_map, List.length_range], fun i x hx => ⟨hblk, fun j v hv => ?_⟩⟩
        have hi : i < len1 := by
          have := (List.getElem?_eq_some_iff.1 hx).1
          simpa using this
        have hfx : f i = x := by
          rw [List.getElem?_map, List.getElem?_range hi] at hx
          simpa using hx
        subst hfx
        have := (hf i hi).2 j v hv
        rw [Addr.add_lit, ← Nat.add_assoc] at this
        exact this
    · obtain ⟨i, hi, rfl⟩ := List.mem_map.1 he
      exact (hf i (List.mem_range.1 hi)).1
theorem open_txl {v : Value} {d : DataW H} {p : List MemPlace} (hval : Value.okWide Tryd.prog W .any base 24 v) (h : DataW.Trod enc Tryd.prog W 0 (fun _ => true) true 24 v d p) :
    ∃ (a b c : ByteArray) (lv : Value) (l : List Edt), v = .agg #[.string a, .string b, .string c, lv] ∧ a.size ≤ maxLen ∧ SlT W lv l ∧ ∀ e ∈ l, e.ins.size ≤ maxLen := by
  obtain ⟨cs, rfl, hsz⟩ := okWide_struct Tryd.underlying24 hval
  obtain ⟨fuel, hf⟩ := h
  obtain ⟨y0, y1, y2, y3, k, _, hl, g0, g1, g2, g3⟩ := Go.Joins.trod_struct4 Tryd.underlying24 hf
  rw [cellsTx] at hl
  have hcs : (Value.agg cs).cells.toList = cs.toList := rfl
  rw [hcs] at hl g0 g1 g2 g3
  obtain ⟨cs⟩ := cs
  clear hsz hval hcs hf
  match cs, hl with
  | [x0, x1, x2, x3], _ =>
    simp only [cellsSt, cellsEs] at g0 g1 g2 g3
    obtain ⟨k0, e0, _, wf0⟩ := DataW.trod_string Tryd.underlying9 g0
    obtain ⟨k1, e1, _, _⟩ := DataW.trod_string Tryd.underlying9 g1
    obtain ⟨k2, e2, _, _⟩ := DataW.trod_string Tryd.underlying9 g2
    obtain ⟨lv, l, e3, hs, hz⟩ := open_eds g3
    simp at e0 e1 e2 e3
    subst e0 e1 e2 e3
    exact ⟨k0, k1, k2, x3, l, rfl, wf0, hs, hz⟩
end
end Go.Proofs.YtaimmjoekahleaaDoor
