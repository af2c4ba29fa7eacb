
/-
  copied, New, NewReader, and what a Writer does. A Writer's digits, Number, Text. A number that was written is read again.
-/
import Derived.Test.YtpkblfhkblllhaaGreatDoorRP12
import Derived.Laws.CopyOwn
import Derived.OwnWalk
import Derived.Deep.RegionWith
import Derived.Test.YtpkblfhkblllhaaGreatDoorRP06
namespace Go.Proofs.YtpkblfhkblllhaaGreatDoor
open Go.RowKit
set_option maxRecDepth 100000

theorem info_u8 : (Tryz.prog.info? 5).map (fun i => (i.zero, i.size, i.bytes)) = some (some (.int .u8 0), 1, 1) := by kernel_rfl
theorem size_u8 : (Tryz.prog.info? 5).map (·.size) = some 1 := by kernel_rfl

/-- A slice of bytes that is only read. -/
def SlB (w : World) (v : Value) (bs : List UInt8) : Prop :=
  (bs = [] ∧ ∃ a c, v = .slice a 0 c) ∨ ∃ g o c, v = .slice (some ⟨g, o, none⟩) bs.length c ∧ g < w.heap.size ∧ ∀ i b, bs[i]? = some b → w.cell? ⟨g, o + i, none⟩ = some (.int .u8 b.toNat)

theorem SlB.below {w w' : World} {v : Value} {bs : List UInt8} (h : SlB w v bs) {B : Nat} (hb : Below B w w') (hB : ∀ a, v.ownBlock = some a → a < B) : SlB w' v bs := by
  rcases h with h | ⟨g, o, c, rfl, hg, hc⟩
  · exact .inl h
  · exact .inr ⟨g, o, c, rfl, by have := hb.size; omega, fun i b hi => by rw [hb.cell (p := ⟨g, o + i, none⟩) (hB g rfl)]; exact hc i b hi⟩
theorem SlB.grow {w w' : World} {v : Value} {bs : List UInt8} (h : SlB w v bs) (hb : Below w.heap.size w w') : SlB w' v bs := by
  rcases h with h | ⟨g, o, c, rfl, hg, hc⟩
  · exact .inl h
  · exact .inr ⟨g, o, c, rfl, by have := hb.size; omega, fun i b hi => by rw [hb.cell (p := ⟨g, o + i, none⟩) hg]; exact hc i b hi⟩

theorem byteCells_at (bs : List UInt8) (i : Nat) : (Lib.byteCells bs)[i]? = (bs[i]?).map fun b => Value.int .u8 b.toNat := by simp [Lib.byteCells]
theorem byteCells_one (bs : List UInt8) : ∀ v ∈ Lib.byteCells bs, v.oneCell' = true := by
  intro v hv
  simp only [Lib.byteCells, List.mem_map] at hv
  obtain ⟨b, _, rfl⟩ := hv
  rfl

set_option maxHeartbeats 1000000 in
theorem copied_any {w : World} {v : Value} {bs : List UInt8} (h : SlB w v bs) (hlen : bs.length ≤ 140737488355328) :
    Calls Tryz.prog 63 #[v] w fun e w' => e = .returned (.slice (some ⟨w.heap.size, 0, none⟩) bs.length bs.length) ∧ w'.heap[w.heap.size]? = some (.cells (Lib.byteCells bs).toArray 5 (0, 0)) ∧ Below w.heap.size w w' := by
  obtain ⟨i0, hi, hz0, hz1, hz2⟩ := info_parts info_u8
  obtain ⟨a, c, rfl, hpos⟩ : ∃ a c, v = .slice a bs.length c ∧ (0 < bs.length → ∃ ad, a = some ad ∧ ∀ j x, (Lib.byteCells bs)[j]? = some x → w.cell? (ad.add j) = some x) := by
    rcases h with ⟨rfl, a, c, rfl⟩ | ⟨g, o, c, rfl, hg, hc⟩
    · exact ⟨a, c, rfl, fun h => absurd h (by simp)⟩
    · refine ⟨_, c, rfl, fun _ => ⟨_, rfl, fun j x hx => ?_⟩⟩
      rw [byteCells_at] at hx
      obtain ⟨b, hb, rfl⟩ := Option.map_eq_some_iff.1 hx
      rw [Addr.add_lit]
      exact hc j b hb
  have HP : Aside (0 < bs.length → ∃ ad, a = some ad ∧ ∀ j x, (Lib.byteCells bs)[j]? = some x → w.cell? (ad.add j) = some x) := hpos
  clear hpos h
  go_enter Tryz.func63, Tryz.ntmps63
  go_wp2_with (first | (refine wpList_make_full _ rfl _ _ 23 rfl w.heap.size 5 i0 (.int .u8 0) 1 Tryz.underlying23 hi hz0 hz1 .i64 .i64 _ _ bs.length rfl rfl rfl rfl ?b2 ?b3 (Nat.le_refl _) ?_))
  case b2 => rw [hz2]; omega
  case b3 => unfold maxLen; omega
  intro w1 hown hgr
  have hb1 : Below w.heap.size w w1 := (Below.refl _ w).grown hgr (Nat.le_refl _) (by simp)
  obtain ⟨cur, hcur, hcs⟩ : ∃ cur : List Value, w1.heap[w.heap.size]? = some (.cells cur.toArray 5 (0, 0)) ∧ cur.length = bs.length := by
    rcases hown.2 with ⟨hv, _⟩ | ⟨g, cap, cur, hv, _, hg, _, _, hc, _⟩
    · simp at hv
    · simp only [Value.slice.injEq, Option.some.injEq, Addr.mk.injEq, and_true, true_and] at hv
      obtain ⟨rfl, rfl⟩ := hv
      exact ⟨cur.toList, by simpa using hg, by simpa using hc⟩
  have HS : Aside (0 < (Lib.byteCells bs).length → ∃ ad, a = some ad ∧ ∀ j x, (Lib.byteCells bs)[j]? = some x → w1.cell? (ad.add j) = some x) := fun h0 => by
    obtain ⟨ad, h1, h2⟩ := HP.out (by rwa [Lib.byteCells_length] at h0)
    exact ⟨ad, h1, fun j x hx => by
      have h3 := h2 j x hx
      rw [hb1.cell (World.block_lt_of_cell? _ _ h3)]; exact h3⟩
  clear hown hgr HP
  go_wp2_with (refine wpList_copy_splice rfl _ _ 23 23 rfl 5 Tryz.underlying23 size_u8 _ _ _ _ _ _ rfl rfl w.heap.size 0 cur 5 hcur (Lib.byteCells bs) ?c1 (fun h0 => ⟨rfl, HS.out h0⟩) ?c2 (byteCells_one bs) w.heap.size w hb1 (Nat.le_refl _) ?_)
  case c1 => rw [Lib.byteCells_length]; simp
  case c2 => rw [Lib.byteCells_length]; omega
  intro w2 hw2 hb2
  have hfin : w2.heap[w.heap.size]? = some (.cells (Lib.byteCells bs).toArray 5 (0, 0)) := by
    rw [hw2.out]
    have hsp : splice cur 0 (Lib.byteCells bs) = Lib.byteCells bs := by
      unfold splice
      rw [List.take_zero, List.drop_of_length_le (by rw [Lib.byteCells_length]; omega)]
      simp
    rw [hsp]
  have HF : Aside (w2.heap[w.heap.size]? = some (.cells (Lib.byteCells bs).toArray 5 (0, 0)) ∧ Below w.heap.size w w2) := ⟨hfin, hb2⟩
  clear hw2 hcur HS hfin hb1 hb2
  go_wp2
  go_ret
  exact ⟨rfl, HF.out.1, HF.out.2⟩

theorem newReader_any {w : World} {v : Value} {bs : List UInt8} (h : SlB w v bs) (hlen : bs.length ≤ 1000000) (hsz : 5 ≤ w.heap.size) :
    Calls Tryz.prog 42 #[v] w fun e w' => ∃ rb, e = .returned (.pointer (some ⟨rb, 0, none⟩)) ∧ RdAt rb w.heap.size bs 0 .nilIface w' ∧ w.heap.size < rb ∧ Below w.heap.size w w' := by
  have HH : Aside (SlB w v bs ∧ bs.length ≤ 140737488355328) := ⟨h, by omega⟩
  have HL : Aside (bs.length ≤ 1000000 ∧ 5 ≤ w.heap.size) := ⟨hlen, hsz⟩
  clear h hlen hsz
  go_enter Tryz.func42, Tryz.ntmps42
  go_wp2_with (go_at_call 63; refine (copied_any HH.out.1 HH.out.2).mono ?_; rintro e w1 ⟨rfl, hg1, hb1⟩)
  go_ret
  have hlt := lt_of_heap hg1
  refine ⟨w1.heap.size, rfl, ⟨?_, ?_, by have := HL.out; omega, Nat.zero_le _, HL.out.1⟩, hlt, hb1.alloc hb1.size _⟩
  · exact heap_alloc_last _ _ _
  · rw [Below.heap_alloc _ _ _ hlt]; exact hg1

theorem new_any (w : World) : Calls Tryz.prog 57 #[] w fun e w' => e = .returned (.pointer (some ⟨w.heap.size, 0, none⟩)) ∧ w' = w.alloc (.cells #[.slice none 0 0] 148) := by
  go_enter Tryz.func57, Tryz.ntmps57
  go_wp2
  go_ret
  exact ⟨rfl, rfl⟩

/-- A Writer in memory: the bytes that it holds; all that it has of its own lies from block B on. -/
structure WrAt (B b : Nat) (bs : List UInt8) (v : Value) (w : World) : Prop where
  lies : w.heap[b]? = some (.cells #[v] 148 (0, 0))
  own : w.ownsRow B 5 1 v bs.length (Lib.byteCells bs)
  lo : B ≤ b

theorem wr_new (w : World) (B : Nat) (hB : B ≤ w.heap.size) : WrAt B w.heap.size [] (.slice none 0 0) (w.alloc (.cells #[.slice none 0 0] 148)) := ⟨heap_alloc_last _ _ _, World.ownsRow_nil _ _ _ _, hB⟩

theorem WrAt.keep {B b : Nat} {bs : List UInt8} {v : Value} {S : List Nat} {w w' : World} (h : WrAt B b bs v w) (k : Kept S w w') (hS : ∀ s ∈ S, s < B) : WrAt B b bs v w' := by
  refine ⟨k.heap h.lies (fun hm => by have := hS _ hm; have := h.lo; omega), ⟨h.own.1, ?_⟩, h.lo⟩
  rcases h.own.2 with h2 | ⟨g, cap, cur, h1, h2, h3, h4⟩
  · exact .inl h2
  · exact .inr ⟨g, cap, cur, h1, h2, k.heap h3 (fun hm => by have := hS _ hm; omega), h4⟩

theorem WrAt.slB {B b : Nat} {bs : List UInt8} {v : Value} {w : World} (h : WrAt B b bs v w) : SlB w v bs := by
  rcases h.own.2 with ⟨rfl, h0⟩ | ⟨g, cap, cur, rfl, hB, hg, _, _, _, ht⟩
  · exact .inl ⟨List.eq_nil_of_length_eq_zero h0, _, _, rfl⟩
  · refine .inr ⟨g, 0, cap, rfl, lt_of_heap hg, fun i b hi => ?_⟩
    have hx : (Lib.byteCells bs)[i]? = some (.int .u8 b.toNat) := by rw [byteCells_at, hi]; rfl
    rw [Nat.zero_add, cellW_of hg]
    rw [← ht, List.getElem?_take] at hx
    split at hx
    · simpa using hx
    · cases hx

theorem len_any {B b : Nat} {bs : List UInt8} {v : Value} {w : World} (h : WrAt B b bs v w) :
    Calls Tryz.prog 106 #[.pointer (some ⟨b, 0, none⟩)] w fun e w' => e = .returned (.int .i64 bs.length) ∧ w' = w := by
  have c0 : w.cell? ⟨b, 0, none⟩ = some v := by rw [cellW_of h.lies]; rfl
  obtain ⟨a, c, rfl⟩ : ∃ a c, v = .slice a bs.length c := by
    rcases h.own.2 with ⟨rfl, h0⟩ | ⟨g, cap, cur, rfl, _⟩
    · exact ⟨none, 0, by rw [h0]⟩
    · exact ⟨_, _, rfl⟩
  clear h
  go_enter Tryz.func106, Tryz.ntmps106
  go_wp2
  go_ret
  exact ⟨rfl, rfl⟩

theorem bytes_any {B b : Nat} {bs : List UInt8} {v : Value} {w : World} (h : WrAt B b bs v w) (hlen : bs.length ≤ 140737488355328) :
    Calls Tryz.prog 59 #[.pointer (some ⟨b, 0, none⟩)] w fun e w' => e = .returned (.slice (some ⟨w.heap.size, 0, none⟩) bs.length bs.length) ∧ w'.heap[w.heap.size]? = some (.cells (Lib.byteCells bs).toArray 5 (0, 0)) ∧ Below w.heap.size w w' := by
  have c0 : w.cell? ⟨b, 0, none⟩ = some v := by rw [cellW_of h.lies]; rfl
  have HH : Aside (SlB w v bs ∧ bs.length ≤ 140737488355328) := ⟨h.slB, hlen⟩
  clear h hlen
  go_enter Tryz.func59, Tryz.ntmps59
  go_wp2_with (go_at_call 63; refine (copied_any HH.out.1 HH.out.2).mono ?_; rintro e w1 ⟨rfl, hg1, hb1⟩)
  go_ret
  exact ⟨rfl, hg1, hb1⟩

theorem cell_one_new (w : World) (x : Value) (t : TypeId) : ∀ j u, [x][j]? = some u → (w.alloc (.cells #[x] t)).cell? ((⟨w.heap.size, 0, none⟩ : Addr).add j) = some u := by
  intro j u hu
  match j, hu with
  | 0, hu => simp at hu; subst hu; simp [Addr.add]
  | n + 1, hu => simp at hu

theorem WrAt.put {B b : Nat} {bs bs' : List UInt8} {v v' : Value} {w w' : World} (h : WrAt B b bs v w) (hg : w.grownBy w' v.ownBlock) (hown : w'.ownsRow B 5 1 v' bs'.length (Lib.byteCells bs')) : WrAt B b bs' v' (w'.setCell ⟨b, 0, none⟩ v') ∧ w'.heap[b]? = some (.cells #[v] 148 (0, 0)) := by
  have hne : ∀ {x : World} {u : Value} {n : Nat} {xs : List Value}, x.ownsRow B 5 1 u n xs → ∀ {z : Array Value}, x.heap[b]? = some (.cells z 148 (0, 0)) → u.ownBlock ≠ some b := by
    intro x u n xs ho z hz he
    rcases ho.2 with ⟨rfl, _⟩ | ⟨g, cap, cur, rfl, _, hg, _⟩
    · simp [Value.ownBlock] at he
    · simp only [Value.ownBlock, Option.some.injEq] at he
      subst he
      rw [hg] at hz
      simp at hz
  have hb2 : w'.heap[b]? = some (.cells #[v] 148 (0, 0)) := by rw [hg.block b (lt_of_heap h.lies) (fun e => hne h.own h.lies e.symm)]; exact h.lies
  refine ⟨⟨by rw [heap_setCell_at hb2]; rfl, ?_, h.lo⟩, hb2⟩
  exact hown.kept (row := some b) ⟨rfl, rfl, rfl, by simp [World.setCell], fun k _ hk => Below.heap_setCell _ _ _ _ (fun e => hk (by simp [e]))⟩ (Or.inr (hne hown hb2))

set_option maxHeartbeats 1000000 in
theorem byte_any {B b : Nat} {bs : List UInt8} {v : Value} {w : World} (h : WrAt B b bs v w) (c : UInt8) (hlen : bs.length + 1 ≤ 140737488355328) (hBw : B ≤ w.heap.size) :
    Calls Tryz.prog 84 #[.pointer (some ⟨b, 0, none⟩), .int .u8 c.toNat] w fun e w' => e = .returned (.tuple #[]) ∧ (∃ v', WrAt B b (bs ++ [c]) v' w') ∧ Below B w w' := by
  obtain ⟨i0, hi, hz0, hz1, hz2⟩ := info_parts info_u8
  have c0 : w.cell? ⟨b, 0, none⟩ = some v := by rw [cellW_of h.lies]; rfl
  have HH : Aside (WrAt B b bs v w ∧ bs.length + 1 ≤ 140737488355328 ∧ B ≤ w.heap.size) := ⟨h, hlen, hBw⟩
  have hown := h.own
  clear h hlen hBw
  go_enter Tryz.func84, Tryz.ntmps84
  go_wp2_with (at_builtin; refine wpList_append_own _ rfl _ _ 23 rfl B 5 i0 (.int .u8 0) 1 1 Tryz.underlying23 hi hz0 hz1 hz2 rfl (by decide) _ _ _ rfl (hown.alloc _) ⟨w.heap.size, 0, none⟩ 1 1 [.int .u8 c.toNat] rfl rfl ?c1 ?c2 ?c3 ?c4 ?c5 ?_)
  case c1 => exact cell_one_new _ _ _
  case c2 => intro u hu; simp at hu; subst hu; rfl
  case c3 => have := HH.out.2.1; unfold maxLen; omega
  case c4 => have := HH.out.2.1; omega
  case c5 => have := HH.out.2.2; simp; omega
  intro v0 w2 hown0 hgrow hnn
  clear hnn
  have hW : WrAt B b bs v (w.alloc (.cells #[.int .u8 c.toNat] 5)) := HH.out.1.keep (S := []) ((Kept.refl _ w).alloc _) (by simp)
  obtain ⟨hput, hb2⟩ := hW.put (bs' := bs ++ [c]) (v' := v0) hgrow (by simpa [Lib.byteCells] using hown0)
  have d1 : w2.cell? ⟨b, 0, none⟩ = some v := by rw [cellW_of hb2]; rfl
  have f1 : w2.frozen? ⟨b, 0, none⟩ = false := frozenW_of hb2 0
  have HF : Aside (WrAt B b (bs ++ [c]) v0 (w2.setCell ⟨b, 0, none⟩ v0) ∧ Below B w (w2.setCell ⟨b, 0, none⟩ v0)) := ⟨hput, ((((Below.refl B w).alloc HH.out.2.2 _).grown hgrow (by have := HH.out.2.2; simp; omega) (fun k hk => (HH.out.1.own.lt k hk).1)).setCell (p := ⟨b, 0, none⟩) HH.out.1.lo _)⟩
  obtain ⟨va, vn, vc, hv'⟩ : ∃ a k c, v0 = .slice a k c := by
    rcases hown0.2 with ⟨hv, _⟩ | ⟨g, cap, cur, hv, _⟩
    · exact ⟨_, _, _, hv⟩
    · exact ⟨_, _, _, hv⟩
  rw [hv'] at HF ⊢
  clear hv' hput hb2 hW hown0 hgrow hown
  go_wp2
  go_end0
  exact ⟨rfl, ⟨_, HF.out.1⟩, HF.out.2⟩
end Go.Proofs.YtpkblfhkblllhaaGreatDoor
namespace Go.Proofs.YtpkblfhkblllhaaGreatDoor
open Go.RowKit
set_option maxRecDepth 100000

theorem form_len : ∀ (k n : Nat), 0 < k → n < 128 ^ k → (formN n).length ≤ k
  | 0, _, h, _ => absurd h (by decide)
  | 1, n, _, hn => by rw [form_small (by simpa using hn)]; simp
  | k + 2, n, _, hn => by
    by_cases h : n < 128
    · rw [form_small h]; simp
    · rw [form_big h]
      have := form_len (k + 1) (n / 128) (by omega) (by rw [Nat.pow_succ] at hn; omega)
      simp only [List.length_cons]
      omega

theorem form_len9 (n : Nat) (h : n < 9223372036854775808) : (formN n).length ≤ 9 := form_len 9 n (by decide) (by omega)

theorem byteN (n : Nat) (h : n < 256) : (Value.int .u8 (n : Int)) = .int .u8 ((UInt8.ofNat n).toNat : Int) := by
  rw [UInt8.toNat_ofNat', Nat.mod_eq_of_lt (by simpa using h)]

theorem wrap_div (m : Nat) (h : m < 9223372036854775808) : wrap64 ((m : Int) / 128) = ((m / 128 : Nat) : Int) := by unfold wrap64; omega
theorem ofN_small (m : Nat) (h : m < 128) : (m : Int) = ((UInt8.ofNat m).toNat : Int) := by
  rw [UInt8.toNat_ofNat', Nat.mod_eq_of_lt (by simpa using (by omega : m < 256))]
theorem ofN_big (m : Nat) : 128 + (m : Int) % 128 = ((UInt8.ofNat (m % 128 + 128)).toNat : Int) := by
  rw [UInt8.toNat_ofNat', Nat.mod_eq_of_lt (by simpa using (by omega : m % 128 + 128 < 256))]; omega

theorem meas_div (m : Nat) (h : ¬ m < 128) : ((m : Int) / 128).toNat < m := by omega

theorem byte_int {B b : Nat} {bs : List UInt8} {v : Value} {w : World} (h : WrAt B b bs v w) (x : Int) (c : UInt8) (hx : x = (c.toNat : Int)) (hlen : bs.length + 1 ≤ 140737488355328) (hBw : B ≤ w.heap.size) :
    Calls Tryz.prog 84 #[.pointer (some ⟨b, 0, none⟩), .int .u8 x] w fun e w' => e = .returned (.tuple #[]) ∧ (∃ v', WrAt B b (bs ++ [c]) v' w') ∧ Below B w w' := by
  subst hx; exact byte_any h c hlen hBw

set_option maxHeartbeats 1000000 in
theorem wdigits_any {B b : Nat} {bs : List UInt8} {v : Value} {w : World} (h : WrAt B b bs v w) (n : Nat) (hn : n < 9223372036854775808) (hlen : bs.length + 9 ≤ 140737488355328) (hBw : B ≤ w.heap.size) :
    Calls Tryz.prog 107 #[.pointer (some ⟨b, 0, none⟩), .int .i64 n] w fun e w' => e = .returned (.tuple #[]) ∧ (∃ v', WrAt B b (bs ++ formN n) v' w') ∧ Below B w w' := by
  have HL : Aside (bs.length + 9 ≤ 140737488355328 ∧ B ≤ w.heap.size ∧ n < 9223372036854775808) := ⟨hlen, hBw, hn⟩
  have HH : Aside (WrAt B b bs v w) := h
  clear h hlen hBw hn
  go_enter Tryz.func107, Tryz.ntmps107
  go_wp2_with fail
  go_loopg [1] n (fun k nv wr => ∃ (m : Nat) (pre : List UInt8) (v' : Value), k = m ∧ nv = .int .i64 (m : Int) ∧ WrAt B b (bs ++ pre) v' wr ∧ Aside (pre ++ formN m = formN n ∧ m < 9223372036854775808) ∧ Below B w wr)
  case atStart => exact ⟨n, [], v, rfl, rfl, by simpa using HH.out, ⟨by simp, HL.out.2.2⟩, Below.refl _ _⟩
  case round =>
    obtain ⟨m, pre, v', hgk, rfl, hW, hA, hb⟩ := hrel
    have HW : Aside (WrAt B b (bs ++ pre) v' wr) := hW
    have HB : Aside (Below B w wr) := hb
    clear hW hb
    have hpl : pre.length + 1 ≤ 9 := by
      have h1 := congrArg List.length hA.out.1
      have h2 := form_len9 n HL.out.2.2
      have h3 : 1 ≤ (formN m).length := by rw [formN]; split <;> simp
      rw [List.length_append] at h1
      omega
    by_cases hm : m < 128
    · have hm' : ¬ (128 : Int) ≤ (m : Int) := by omega
      have hw8 : IntKind.u8.wrap (m : Int) = (m : Int) := by rw [IntKind.wrap_u8']; omega
      go_wp2_with (go_at_call 84; refine (byte_int HW.out _ (UInt8.ofNat m) (ofN_small m hm) (by have := HL.out.1; rw [List.length_append]; omega) (by have := HB.out.size; have := HL.out.2.1; omega)).mono ?_; rintro e w2 ⟨rfl, ⟨v2, hW2⟩, hb2⟩)
      go_end0
      refine ⟨rfl, ⟨v2, ?_⟩, HB.out.trans hb2⟩
      rw [← hA.out.1, form_small hm, ← List.append_assoc]
      exact hW2
    · have hm' : (128 : Int) ≤ (m : Int) := by omega
      have hw := wrap_div m hA.out.2
      go_wp2_with (go_at_call 84; refine (byte_int HW.out _ (UInt8.ofNat (m % 128 + 128)) (ofN_big m) (by have := HL.out.1; rw [List.length_append]; omega) (by have := HB.out.size; have := HL.out.2.1; omega)).mono ?_; rintro e w2 ⟨rfl, ⟨v2, hW2⟩, hb2⟩)
      go_roundg (m / 128)
      case measure => rw [hgk]; exact Nat.div_lt_self (by omega) (by decide)
      case rel =>
        refine ⟨m / 128, pre ++ [UInt8.ofNat (m % 128 + 128)], v2, rfl, congrArg (Value.int .i64 ·) hw, by rw [← List.append_assoc]; exact hW2, ⟨?_, by have := hA.out.2; omega⟩, HB.out.trans hb2⟩
        rw [← hA.out.1, form_big hm, List.append_assoc]; rfl

theorem wnumber_ok {B b : Nat} {bs : List UInt8} {v : Value} {w : World} (h : WrAt B b bs v w) (n : Nat) (hn : n < 9223372036854775808) (hlen : bs.length + 9 ≤ 140737488355328) (hBw : B ≤ w.heap.size) :
    Calls Tryz.prog 85 #[.pointer (some ⟨b, 0, none⟩), .int .i64 n] w fun e w' => e = .returned .nilIface ∧ (∃ v', WrAt B b (bs ++ formN n) v' w') ∧ Below B w w' := by
  have HH : Aside (WrAt B b bs v w ∧ n < 9223372036854775808 ∧ bs.length + 9 ≤ 140737488355328 ∧ B ≤ w.heap.size) := ⟨h, hn, hlen, hBw⟩
  have hnn : ¬ (n : Int) < 0 := by omega
  clear h hn hlen hBw
  go_enter Tryz.func85, Tryz.ntmps85
  go_wp2_with (go_at_call 107; refine (wdigits_any HH.out.1 n HH.out.2.1 HH.out.2.2.1 HH.out.2.2.2).mono ?_; rintro e w2 ⟨rfl, hW2, hb2⟩)
  go_ret
  exact ⟨rfl, hW2, hb2⟩

set_option maxHeartbeats 1000000 in
theorem wnumber_neg {ad : Nat → Addr} {B b : Nat} {bs : List UInt8} {v : Value} {w : World} (h0 : w.cell? ⟨2, 0, none⟩ = some (rsn ad 0)) (h : WrAt B b bs v w) (n : Int) (hn : n < 0) :
    Calls Tryz.prog 85 #[.pointer (some ⟨b, 0, none⟩), .int .i64 n] w fun e w' => ∃ f, e = .returned (refv f) ∧ w.heap.size ≤ f ∧ w'.heap[f]? = some (.cells #[.string ⟨#[119, 105, 114, 101]⟩, .string ⟨#[78, 117, 109, 98, 101, 114]⟩, .int .i64 bs.length, rsn ad 0] 111 (0, 0)) ∧ Below w.heap.size w w' := by
  have HH : Aside (∀ n, WrAt B b bs v (w.drewN n)) := fun n => h.keep (S := []) (.of (below_drewN w n)) (by simp)
  clear h
  go_enter Tryz.func85, Tryz.ntmps85
  go_wp2_with fail
  go_region_with (first | (go_at_call 106; refine (len_any (HH.out 1)).mono ?_; rintro e w2 ⟨rfl, rfl⟩) | (go_at_call 56; refine (new_wire _ bs.length _ _ _).mono ?_; rintro e w2 ⟨rfl, rfl⟩))
  all_goals go_wp2
  all_goals go_ret
  all_goals exact ⟨w.heap.size, rfl, Nat.le_refl _, heap_alloc_last w _ _, ((Below.refl _ w).alloc (Nat.le_refl _) _).drew⟩

end Go.Proofs.YtpkblfhkblllhaaGreatDoor
namespace Go.Proofs.YtpkblfhkblllhaaGreatDoor

theorem form_ne (n : Nat) : formN n ≠ [] := by
  by_cases h : n < 128
  · rw [form_small h]; simp
  · rw [form_big h]; simp

theorem back_len : ∀ (k n : Nat), n < 128 ^ (k + 1) → (formN n).length ≤ k + 1
  | 0, n, h => by rw [form_small (by simpa using h)]; simp
  | k + 1, n, h => by
    by_cases hn : n < 128
    · rw [form_small hn]; simp
    · rw [form_big hn]
      have := back_len k (n / 128) (by rw [Nat.pow_succ] at h; omega)
      simp; omega

theorem span_form (n : Nat) (r : List UInt8) : ∀ i, i + (formN n).length ≤ 9 → spanFrom i (formN n ++ r) = .ok (i + (formN n).length) := by
  induction n using Nat.strongRecOn with
  | _ n ih =>
    intro i hi
    by_cases h : n < 128
    · rw [form_small h]
      have hb : UInt8.ofNat n < 128 := by simp [UInt8.lt_iff_toNat_lt]; omega
      simp [spanFrom, hb]
    · rw [form_big h] at hi ⊢
      have hb : ¬ UInt8.ofNat (n % 128 + 128) < 128 := by simp [UInt8.lt_iff_toNat_lt]; omega
      have h0 : 0 < (formN (n / 128)).length := List.length_pos_iff.2 (form_ne _)
      simp only [List.length_cons] at hi
      have := ih (n / 128) (by omega) (i + 1) (by omega)
      simp only [List.cons_append, spanFrom, if_neg hb, List.length_cons]
      rw [if_neg (by omega), this]
      congr 1
      omega

theorem span_cut (n : Nat) : ∀ i k, i + (formN n).length ≤ 9 → k < (formN n).length → spanFrom i ((formN n).take k) = .error 6 := by
  induction n using Nat.strongRecOn with
  | _ n ih =>
    intro i k hi hk
    cases k with
    | zero => simp [spanFrom]
    | succ k =>
      by_cases h : n < 128
      · rw [form_small h] at hk; simp at hk
      · rw [form_big h] at hi hk ⊢
        have hb : ¬ UInt8.ofNat (n % 128 + 128) < 128 := by simp [UInt8.lt_iff_toNat_lt]; omega
        simp only [List.length_cons] at hi hk
        simp only [List.take_succ_cons, spanFrom, if_neg hb]
        rw [if_neg (by omega)]
        exact ih (n / 128) (by omega) (i + 1) k (by omega) (by omega)

theorem form_last (n : Nat) : 1 < (formN n).length → (formN n)[(formN n).length - 1]? ≠ some 0 := by
  induction n using Nat.strongRecOn with
  | _ n ih =>
    intro hl
    by_cases h : n < 128
    · rw [form_small h] at hl; simp at hl
    · rw [form_big h]
      have h0 : 0 < (formN (n / 128)).length := List.length_pos_iff.2 (form_ne _)
      simp only [List.length_cons, Nat.add_sub_cancel]
      obtain ⟨m, hm⟩ : ∃ m, (formN (n / 128)).length = m + 1 := ⟨_, (Nat.succ_pred_eq_of_pos h0).symm⟩
      rw [hm, List.getElem?_cons_succ]
      by_cases h1 : n / 128 < 128
      · rw [form_small h1] at hm ⊢
        simp at hm
        subst hm
        simp only [List.getElem?_cons_zero, ne_eq, Option.some.injEq]
        intro e
        have := congrArg UInt8.toNat e
        simp at this
        omega
      · have := ih (n / 128) (by omega) (by
          rw [form_big h1]
          have := List.length_pos_iff.2 (form_ne (n / 128 / 128))
          simp; omega)
        rw [hm] at this
        simpa using this

/-- A number is read again. -/
theorem numR_back {n : Nat} {most : Int} (r : List UInt8) (h : n < 9223372036854775808) (hm : (n : Int) ≤ most) : numR (formN n ++ r) most = .ok (n, (formN n).length) := by
  have hl : (formN n).length ≤ 9 := back_len 8 n (by omega)
  have h0 : 0 < (formN n).length := List.length_pos_iff.2 (form_ne _)
  have hs := span_form n r 0 (by omega)
  rw [Nat.zero_add] at hs
  unfold numR
  rw [hs]
  simp only
  have hz : ¬ (1 < (formN n).length ∧ (formN n ++ r)[(formN n).length - 1]? = some 0) := by
    intro ⟨h1, h2⟩
    rw [List.getElem?_append_left (by omega)] at h2
    exact form_last n h1 h2
  rw [if_neg hz, List.take_left, numv_form, if_neg (by omega)]

end Go.Proofs.YtpkblfhkblllhaaGreatDoor
