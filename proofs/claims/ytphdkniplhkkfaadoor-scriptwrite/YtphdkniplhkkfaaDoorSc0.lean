
/-
  Package script, the base: rows of things of one's own, characters, bytes.
-/
import Derived.Test.YtphdkniplhkkfaaDoorRw
import Derived.Test.YtphdkniplhkkfaaDoorDf0
import Derived.Test.YtphdkniplhkkfaaDoorOnc0
import Derived.Laws.MakeOwn
import Derived.OwnWalk
import Derived.Deep.RegionWith
import Derived.BigRegion
import Derived.WalkMore
namespace Go.Proofs.YtphdkniplhkkfaaDoor
open Go.RowKit Go.Extern.Stop Go.Stop Go.Extern
set_option maxRecDepth 100000

theorem info_parts {P : Program} {t : TypeId} {z : Value} {s b : Nat} (h : (P.info? t).map (fun i => (i.zero, i.size, i.bytes)) = some (some z, s, b)) : ∃ i, P.info? t = some i ∧ i.zero = some z ∧ i.size = s ∧ i.bytes = b := by
  obtain ⟨i, h1, h2⟩ := Option.map_eq_some_iff.1 h
  simp only [Prod.mk.injEq] at h2
  exact ⟨i, h1, h2.1, h2.2.1, h2.2.2⟩
theorem hid_of' {p : Prop} (h : p) : Hid p := h
theorem wrapIs {n : Int} (h1 : -9223372036854775808 ≤ n) (h2 : n ≤ 9223372036854775807) : wrap64 n = n := by
  unfold wrap64
  omega
theorem wrapS {n N : Nat} (h : N = n + 1) (hl : n ≤ 8388609) : wrap64 ((n : Int) + 1) = (N : Int) := by
  rw [wrapIs (by omega) (by omega)]
  omega
theorem wrapK {n N : Nat} (h : N = n + 1) (hl : n ≤ 8388609) : IntKind.i64.wrap ((n : Int) + 1) = (N : Int) := by
  rw [IntKind.wrap_i64]
  omega
theorem wrapK3 {n : Int} (h1 : 0 ≤ n) (h2 : n ≤ 2147483647) : IntKind.i32.wrap n = n := by
  rw [IntKind.wrap_i32]
  omega
theorem wrap3 {n : Int} (h1 : -2147483648 ≤ n) (h2 : n ≤ 2147483647) : wrap32 n = n := by
  unfold wrap32
  omega
theorem RowAt.setc {b : Nat} {cs : Array Value} {t : TypeId} {w : World} (h : RowAt b cs t w) (k : Nat) (v : Value) : RowAt b (cs.setIfInBounds k v) t (w.setCell ⟨b, k, none⟩ v) := by
  unfold RowAt at h ⊢
  simp [World.setCell, Array.getElem?_modify, h]
theorem RowAt.setO {b : Nat} {cs : Array Value} {t : TypeId} {w : World} (h : RowAt b cs t w) (a : Addr) (v : Value) (hn : ¬ b = a.block) : RowAt b cs t (w.setCell a v) := by
  unfold RowAt at h ⊢
  rw [Below.heap_setCell _ _ _ _ hn]
  exact h
theorem RowAt.free {b : Nat} {cs : Array Value} {t : TypeId} {w : World} (h : RowAt b cs t w) (k : Nat) : w.frozen? ⟨b, k, none⟩ = false := by
  unfold RowAt at h
  simp [World.frozen?, h]
theorem RowAt.new (w : World) (cs : Array Value) (t : TypeId) : RowAt w.heap.size cs t (w.alloc (.cells cs t)) := heap_alloc_new w _
theorem RowAt.is {b : Nat} {cs : Array Value} {t : TypeId} {w : World} (h : RowAt b cs t w) {k : Nat} {v : Value} (hv : cs[k]? = some v) : w.cell? ⟨b, k, none⟩ = some v := by
  rw [h.cell]
  exact hv
def RwR (v : Value) (xs : List Int) (w : World) : Prop := Rw 21 1 v xs.length (xs.map (Value.int .i32)) w
theorem RwR.later {v : Value} {xs : List Int} {w w' : World} (h : RwR v xs w) (hb : Below w.heap.size w w') : RwR v xs w' := Rw.later h hb
theorem RwR.ch {v : Value} {xs : List Int} {S : Nat → Prop} {w w' : World} (h : RwR v xs w) (c : Ch S w w') (hn : ∀ k, v.ownBlock = some k → ¬ S k) : RwR v xs w' := Rw.ch h c hn
theorem RwR.at {v : Value} {xs : List Int} {w : World} (h : RwR v xs w) (h0 : xs ≠ []) : ∃ g c, v = .slice (some ⟨g, 0, none⟩) xs.length c ∧ xs.length ≤ c ∧ g < w.heap.size ∧ ∀ (j : Nat) (z : Int), xs[j]? = some z → w.cell? ⟨g, j, none⟩ = some (.int .i32 z) := by
  have h9 := h
  rcases h.2 with ⟨_, q⟩ | ⟨g, cap, cur, rfl, hg, hc, _⟩
  · exact absurd (List.eq_nil_of_length_eq_zero q) h0
  · refine ⟨g, cap, rfl, hc, (Array.getElem?_eq_some_iff.1 hg).1, fun j z hz => ?_⟩
    have := Rw.cells (o := 0) h9 j (.int .i32 z) (by rw [List.getElem?_map, hz]; rfl)
    rwa [Nat.zero_add] at this
theorem RwR.form {v : Value} {xs : List Int} {w : World} (h : RwR v xs w) : ∃ a c, v = .slice a xs.length c ∧ xs.length ≤ c ∧ c ≤ maxLen := Rw.form h
def fc {α : Type} (f : α → List Value) (l : List α) : List Value := l.flatMap f
theorem fc_len {α : Type} {f : α → List Value} {s : Nat} (hs : ∀ a, (f a).length = s) : ∀ l : List α, (fc f l).length = l.length * s
  | [] => by simp [fc]
  | e :: l => by
    have ih := fc_len hs l
    unfold fc at ih ⊢
    rw [List.flatMap_cons, List.length_append, hs, ih, List.length_cons, Nat.add_mul]
    omega
theorem fc_app {α : Type} (f : α → List Value) (a b : List α) : fc f (a ++ b) = fc f a ++ fc f b := by simp [fc]
theorem fc_at {α : Type} {f : α → List Value} {s : Nat} (hs : ∀ a, (f a).length = s) : ∀ (l : List α) (i : Nat) (e : α), l[i]? = some e → ∀ j v, (f e)[j]? = some v → (fc f l)[i * s + j]? = some v
  | [], i, e, h, _, _, _ => by simp at h
  | y :: r, 0, e, h, j, v, hv => by
    simp only [List.getElem?_cons_zero, Option.some.injEq] at h
    subst h
    have hj : j < (f y).length := (List.getElem?_eq_some_iff.1 hv).1
    unfold fc
    rw [List.flatMap_cons, Nat.zero_mul, Nat.zero_add, List.getElem?_append_left hj]
    exact hv
  | y :: r, i + 1, e, h, j, v, hv => by
    have ih := fc_at hs r i e (by simpa using h) j v hv
    unfold fc at ih ⊢
    rw [List.flatMap_cons, List.getElem?_append_right (by rw [hs, Nat.add_mul]; omega), hs, Nat.add_mul, Nat.one_mul, show i * s + s + j - s = i * s + j by omega]
    exact ih
theorem fc_of {α : Type} {f : α → List Value} {s : Nat} (hs : ∀ a, (f a).length = s) : ∀ (l : List α) (k : Nat) (u : Value), (fc f l)[k]? = some u → ∃ i e j, l[i]? = some e ∧ k = i * s + j ∧ (f e)[j]? = some u
  | [], k, u, h => by simp [fc] at h
  | y :: r, k, u, h => by
    by_cases hk : k < s
    · refine ⟨0, y, k, rfl, by omega, ?_⟩
      unfold fc at h
      rw [List.flatMap_cons, List.getElem?_append_left (by rw [hs]; exact hk)] at h
      exact h
    · unfold fc at h
      rw [List.flatMap_cons, List.getElem?_append_right (by rw [hs]; omega), hs] at h
      obtain ⟨i, e, j, h1, h2, h3⟩ := fc_of hs r (k - s) u h
      exact ⟨i + 1, e, j, by simpa using h1, by rw [Nat.add_mul]; omega, h3⟩
theorem info_r : (Tryd.prog.info? 21).map (fun i => (i.zero, i.size, i.bytes)) = some (some (.int .i32 0), 1, 4) := by kernel_rfl
theorem RwR.nil (w : World) : RwR (.slice none 0 0) [] w := Rw.nil _ _ _
theorem so_new (w : World) (t : TypeId) (s : Nat) (cs : Array Value) (hs : cs.size = s) (ys : List Value) (hy : ys = cs.toList) : So s (.slice (some ⟨w.heap.size, 0, none⟩) 1 1) 1 ys (w.alloc (.cells cs t)) := by
  subst hy
  refine ⟨by simp [hs], .inr ⟨⟨w.heap.size, 0, none⟩, 1, rfl, fun j x hx => ?_⟩⟩
  rw [Addr.add_lit, Nat.zero_add, (RowAt.new w cs t).cell]
  simpa using hx
section
variable {ops : Array Oper} {rest : List Oper} {o : Oper} {A : Act} {w : World} {Q : Exit → Act → World → Prop}
theorem wpL_appR (hgd : o.guard = none) (s x : Operand) (ho : o.op = .call { callee := .builtin .append, args := #[s, x], argTypes := #[40, 40] })
    {u v : Value} {l m : List Int} (hs : A.eval s = v) (hx : A.eval x = u) (hv : RwR v l w) (hu : So 1 u m.length (m.map (Value.int .i32)) w) (hl : l.length + m.length ≤ 4398046511104)
    (k : ∀ v' w', RwR v' (l ++ m) w' → w.grownBy w' v.ownBlock → At' w v v' → wpList Tryd.prog ops Q rest (A.put o.dst v') w') : wpList Tryd.prog ops Q (o :: rest) A w := by
  obtain ⟨i0, hi, h1, h2, h3⟩ := info_parts info_r
  refine wpL_app (P := Tryd.prog) hgd s x 40 ho 21 i0 _ 1 4 Tryd.underlying40 hi h1 h2 h3 rfl hs hx hv hu (fun u hu => by obtain ⟨z, _, rfl⟩ := List.mem_map.1 hu; rfl) (by unfold maxLen; omega) (by omega) fun v' w' q1 q2 q3 => k v' w' ?_ q2 q3
  unfold RwR
  rw [List.length_append, List.map_append]
  exact q1
end
theorem RwR.so {v : Value} {l : List Int} {w : World} (h : RwR v l w) : So 1 v l.length (l.map (Value.int .i32)) w := Rw.so h
theorem Rw.setO {e : TypeId} {size : Nat} {v : Value} {n : Nat} {xs : List Value} {w : World} (h : Rw e size v n xs w) (a : Addr) (u : Value) (hn : ∀ k, v.ownBlock = some k → ¬ k = a.block) : Rw e size v n xs (w.setCell a u) :=
  Rw.ch h ((Ch.refl (fun k => k = a.block) w).set (.inl rfl) u) hn
theorem Ch.own {a w w' : World} {v : Value} (h : Ch (fun _ => False) a w) (hg : w.grownBy w' v.ownBlock) (hr : ∀ k, v.ownBlock = some k → a.heap.size ≤ k) : Ch (fun _ => False) a w' := h.grown hg (fun k hk => .inr (hr k hk))
def tx (xs : List Int) : ByteArray := ⟨(enc xs).toArray⟩
theorem tx_size (xs : List Int) : (tx xs).size ≤ 4 * xs.length := by
  have := enc_len xs
  show (enc xs).toArray.size ≤ _
  simpa using this
theorem tx_list (xs : List Int) : (tx xs).data.toList = enc xs := by simp [tx]
theorem tx_rn {s : ByteArray} (hv : Lib.validD s.data.toList = true) : tx (rn s.data.toList) = s := by
  unfold tx
  rw [enc_rn _ _ (Nat.le_refl _) hv]
theorem rn_tx {xs : List Int} (h : ∀ r ∈ xs, Ru r) : rn (tx xs).data.toList = xs := by
  rw [tx_list]
  exact (rn_enc xs h).1
theorem valid_tx {xs : List Int} (h : ∀ r ∈ xs, Ru r) : Lib.validD (tx xs).data.toList = true := by
  rw [tx_list]
  exact (rn_enc xs h).2
theorem run_str {w : World} {v : Value} {xs : List Int} (h : RwR v xs w) (hr : ∀ r ∈ xs, Ru r) : (convert 40 9 v).run Tryd.prog w = .ok (.string (tx xs)) w := by
  by_cases h0 : xs = []
  · subst h0
    rcases h.2 with ⟨rfl, _⟩ | ⟨g, cap, cur, rfl, hg, _⟩
    · have := run_convert_runes_nil (P := Tryd.prog) w 40 9 21 0 0 Tryd.underlying40 Tryd.underlying21 Tryd.underlying9
      rw [this]
      rfl
    · have := run_convert_runes (P := Tryd.prog) w 40 9 21 ⟨g, 0, none⟩ 0 cap [] (Nat.le_refl _) Tryd.underlying40 Tryd.underlying21 Tryd.underlying9 (fun j hj => by simp at hj)
      exact this.trans rfl
  · obtain ⟨g, c, rfl, _, _, hc⟩ := h.at h0
    have := run_convert_runes (P := Tryd.prog) w 40 9 21 ⟨g, 0, none⟩ xs.length c xs (Nat.le_refl _) Tryd.underlying40 Tryd.underlying21 Tryd.underlying9 (fun j hj => by
      rw [Addr.add_lit, Nat.zero_add]
      refine hc j _ ?_
      rw [List.getD, List.getElem?_eq_getElem hj]
      rfl)
    rw [this, List.take_length, runesBytes_enc xs hr]
    rfl
section
variable {ops : Array Oper} {rest : List Oper} {o : Oper} {A : Act} {w : World} {Q : Exit → Act → World → Prop}
theorem wpL_str (hgd : o.guard = none) (x : Operand) (ho : o.op = .convert 40 9 x) {v : Value} {xs : List Int} (hx : A.eval x = v) (h : RwR v xs w) (hr : ∀ r ∈ xs, Ru r)
    (k : wpList Tryd.prog ops Q rest (A.put o.dst (.string (tx xs))) w) : wpList Tryd.prog ops Q (o :: rest) A w := by
  refine wpList_plain hgd fun _ hK => ?_
  unfold Oper.wp execOp
  simp only [ho, hx, Sem.run_bind, Result.andThen, run_str h hr]
  exact hK _ _ k
end
def RwB (v : Value) (bs : List UInt8) (w : World) : Prop := Rw 5 1 v bs.length (bs.map fun b => Value.int .u8 (b.toNat : Int)) w
theorem RwB.later {v : Value} {bs : List UInt8} {w w' : World} (h : RwB v bs w) (hb : Below w.heap.size w w') : RwB v bs w' := Rw.later h hb
theorem RwB.nil (w : World) : RwB (.slice none 0 0) [] w := Rw.nil _ _ _
theorem info_b : (Tryd.prog.info? 5).map (fun i => (i.zero, i.size, i.bytes)) = some (some (.int .u8 0), 1, 1) := by kernel_rfl
theorem wpL_appBy {ops : Array Oper} {rest : List Oper} {o : Oper} {A : Act} {w : World} {Q : Exit → Act → World → Prop} (hgd : o.guard = none) (s x : Operand) (ho : o.op = .call { callee := .builtin .append, args := #[s, x], argTypes := #[24, 24] })
    {u v : Value} {l m : List UInt8} (hs : A.eval s = v) (hx : A.eval x = u) (hv : RwB v l w) (hu : So 1 u m.length (m.map fun b => Value.int .u8 (b.toNat : Int)) w) (hl : l.length + m.length ≤ 4398046511104)
    (k : ∀ v' w', RwB v' (l ++ m) w' → w.grownBy w' v.ownBlock → At' w v v' → wpList Tryd.prog ops Q rest (A.put o.dst v') w') : wpList Tryd.prog ops Q (o :: rest) A w := by
  obtain ⟨i0, hi, h1, h2, h3⟩ := info_parts info_b
  refine wpL_app (P := Tryd.prog) hgd s x 24 ho 5 i0 _ 1 1 Tryd.underlying24 hi h1 h2 h3 rfl hs hx hv hu (fun u hu => by obtain ⟨z, _, rfl⟩ := List.mem_map.1 hu; rfl) (by unfold maxLen; omega) (by omega) fun v' w' q1 q2 q3 => k v' w' ?_ q2 q3
  unfold RwB
  rw [List.length_append, List.map_append]
  exact q1
theorem run_strB {w : World} {v : Value} {bs : List UInt8} (h : RwB v bs w) : (convert 24 9 v).run Tryd.prog w = .ok (.string ⟨bs.toArray⟩) w := by
  have h9 := h
  rcases h.2 with ⟨rfl, hn⟩ | ⟨g, cap, cur, rfl, hg, _⟩
  · have : bs = [] := List.eq_nil_of_length_eq_zero hn
    subst this
    rw [run_convert_bytes_string w 24 9 5 none 0 0 Tryd.underlying24 Tryd.underlying5 Tryd.underlying9]
    rfl
  · exact run_convert_bytes_back (P := Tryd.prog) w 24 9 5 ⟨g, 0, none⟩ cap bs Tryd.underlying24 Tryd.underlying5 Tryd.underlying9 (fun j hj => by
      rw [Addr.add_lit]
      exact Rw.cells (o := 0) h9 j _ (by rw [List.getElem?_map, List.getElem?_eq_getElem hj]; rfl))
theorem so_bytes (w : World) (cs : Array Value) (m : List UInt8) (n : Nat) (hn : n = m.length) (hc : cs.toList = m.map fun b => Value.int .u8 (b.toNat : Int)) : So 1 (.slice (some ⟨w.heap.size, 0, none⟩) n n) m.length (m.map fun b => Value.int .u8 (b.toNat : Int)) (w.alloc (.cells cs 5)) := by
  subst hn
  refine ⟨by simp, .inr ⟨⟨w.heap.size, 0, none⟩, m.length, rfl, fun j x hx => ?_⟩⟩
  rw [Addr.add_lit, Nat.zero_add, (RowAt.new w cs 5).cell, ← Array.getElem?_toList, hc]
  exact hx
theorem wpL_strB {ops : Array Oper} {rest : List Oper} {o : Oper} {A : Act} {w : World} {Q : Exit → Act → World → Prop} (hgd : o.guard = none) (x : Operand) (ho : o.op = .convert 24 9 x) {v : Value} {bs : List UInt8} (hx : A.eval x = v) (h : RwB v bs w)
    (k : wpList Tryd.prog ops Q rest (A.put o.dst (.string ⟨bs.toArray⟩)) w) : wpList Tryd.prog ops Q (o :: rest) A w := by
  refine wpList_plain hgd fun _ hK => ?_
  unfold Oper.wp execOp
  simp only [ho, hx, Sem.run_bind, Result.andThen, run_strB h]
  exact hK _ _ k
theorem asc_all : ∀ l : List UInt8, (∀ b ∈ l, b.toNat < 128) → rn l = l.map (fun b => (b.toNat : Int)) ∧ Lib.validD l = true
  | [], _ => ⟨rfl, rfl⟩
  | b :: t, h => by
    have hb := h b (List.mem_cons_self ..)
    have hd := Lib.decodeL_ascii b t hb
    obtain ⟨i1, i2⟩ := asc_all t (fun x hx => h x (List.mem_cons_of_mem _ hx))
    have hne : b :: t ≠ [] := by simp
    refine ⟨?_, ?_⟩
    · rw [rn_step _ hne, hd]
      simp only [List.drop_one, List.tail_cons, i1, List.map_cons]
    · rw [Lib.validD_step _ hne, hd, if_neg (by dsimp only; omega)]
      simpa using i2
def SlB (w : World) (v : Value) (bs : List UInt8) : Prop :=
  (bs = [] ∧ ∃ a c, v = .slice a 0 c) ∨ ∃ g o c, v = .slice (some ⟨g, o, none⟩) bs.length c ∧ g < w.heap.size ∧ ∀ i b, bs[i]? = some b → w.cell? ⟨g, o + i, none⟩ = some (.int .u8 b.toNat)
theorem SlB.grow {w w' : World} {v : Value} {bs : List UInt8} (h : SlB w v bs) (hb : Below w.heap.size w w') : SlB w' v bs := by
  rcases h with h | ⟨g, o, c, rfl, hg, hc⟩
  · exact .inl h
  · exact .inr ⟨g, o, c, rfl, by have := hb.size; omega, fun i b hi => by rw [hb.cell (p := ⟨g, o + i, none⟩) hg]; exact hc i b hi⟩
theorem byteCells_at (bs : List UInt8) (i : Nat) : (Lib.byteCells bs)[i]? = (bs[i]?).map fun b => Value.int .u8 b.toNat := by simp [Lib.byteCells]
theorem byteCells_one (bs : List UInt8) : ∀ v ∈ Lib.byteCells bs, v.oneCell' = true := by
  intro v hv
  simp only [Lib.byteCells, List.mem_map] at hv
  obtain ⟨b, _, rfl⟩ := hv
  rfl
theorem SlB.later {w w' : World} {v : Value} {bs : List UInt8} (h : SlB w v bs) (hb : Below w.heap.size w w') : SlB w' v bs := h.grow hb
theorem SlB.ch {S : Nat → Prop} {w w' : World} {v : Value} {bs : List UInt8} (h : SlB w v bs) (c : Ch S w w') (hn : ∀ k, v.ownBlock = some k → ¬ S k) : SlB w' v bs := by
  rcases h with h | ⟨g, o, c', rfl, hg, hc⟩
  · exact .inl h
  · exact .inr ⟨g, o, c', rfl, by have := c.size; omega, fun i b hi => by rw [World.cell?_of_block (w := w) (c.block g hg (hn g rfl))]; exact hc i b hi⟩
theorem SlB.form {w : World} {v : Value} {bs : List UInt8} (h : SlB w v bs) : ∃ a c, v = .slice a bs.length c := by
  rcases h with ⟨rfl, a, c, rfl⟩ | ⟨g, o, c, rfl, _⟩
  · exact ⟨a, c, rfl⟩
  · exact ⟨_, c, rfl⟩
theorem SlB.so {w : World} {v : Value} {bs : List UInt8} (h : SlB w v bs) : So 1 v bs.length (Lib.byteCells bs) w := by
  refine ⟨by rw [Lib.byteCells_length]; omega, ?_⟩
  rcases h with ⟨rfl, a, c, rfl⟩ | ⟨g, o, c, rfl, hg, hc⟩
  · exact .inl ⟨rfl, a, c, rfl⟩
  · refine .inr ⟨_, c, rfl, fun j x hx => ?_⟩
    rw [byteCells_at] at hx
    obtain ⟨b, hb, rfl⟩ := Option.map_eq_some_iff.1 hx
    rw [Addr.add_lit]
    exact hc j b hb
theorem SlB.take {w : World} {a : Option Addr} {n c : Nat} {bs : List UInt8} (h : SlB w (.slice a bs.length c) bs) (hn : n ≤ bs.length) : SlB w (.slice a n c) (bs.take n) := by
  have hl : (bs.take n).length = n := by rw [List.length_take]; omega
  by_cases h0 : n = 0
  · subst h0
    exact .inl ⟨by simp, a, c, rfl⟩
  · rcases h with ⟨rfl, _⟩ | ⟨g, o, c', e, hg, hc⟩
    · simp at hn; omega
    · cases e
      exact .inr ⟨g, o, c, by rw [hl], hg, fun i b hi => hc i b (by
        rw [List.getElem?_take] at hi
        split at hi
        · exact hi
        · cases hi)⟩
/-- What stands behind the first n. -/
theorem SlB.drop {w : World} {v : Value} {bs : List UInt8} (h : SlB w v bs) {n : Nat} (hn : n ≤ bs.length) {u : Value} (hu : ∃ a c, u = .slice a (bs.length - n) c ∧ (n < bs.length → ∀ g o m c', v = .slice (some ⟨g, o, none⟩) m c' → a = some ⟨g, o + n, none⟩)) : SlB w u (bs.drop n) := by
  obtain ⟨a, c, rfl, ha⟩ := hu
  have hl : (bs.drop n).length = bs.length - n := List.length_drop ..
  by_cases h0 : n = bs.length
  · subst h0
    exact .inl ⟨List.drop_length .., a, c, by rw [Nat.sub_self]⟩
  · rcases h with ⟨rfl, _⟩ | ⟨g, o, c', rfl, hg, hc⟩
    · simp at hn
      exact absurd hn h0
    · refine .inr ⟨g, o + n, c, by rw [ha (by omega) g o _ c' rfl, hl], hg, fun i b hi => ?_⟩
      rw [List.getElem?_drop] at hi
      rw [Nat.add_assoc]
      exact hc _ b hi
theorem SlB.at {w : World} {v : Value} {bs : List UInt8} (h : SlB w v bs) (h0 : bs ≠ []) : ∃ g o c, v = .slice (some ⟨g, o, none⟩) bs.length c ∧ g < w.heap.size ∧ ∀ i b, bs[i]? = some b → w.cell? ⟨g, o + i, none⟩ = some (.int .u8 b.toNat) := by
  rcases h with ⟨rfl, _⟩ | ⟨g, o, c, rfl, hg, hc⟩
  · exact absurd rfl h0
  · exact ⟨g, o, c, rfl, hg, hc⟩
theorem RwB.sl {v : Value} {bs : List UInt8} {w : World} (h : RwB v bs w) : SlB w v bs := by
  have h9 := h
  have hlt := Rw.lt h
  rcases h.2 with ⟨rfl, hn⟩ | ⟨g, cap, cur, rfl, hg, _⟩
  · exact .inl ⟨List.eq_nil_of_length_eq_zero hn, none, 0, rfl⟩
  · refine .inr ⟨g, 0, cap, rfl, hlt g rfl, fun i b hi => ?_⟩
    exact Rw.cells (o := 0) h9 i _ (by rw [List.getElem?_map, hi]; rfl)
end Go.Proofs.YtphdkniplhkkfaaDoor
