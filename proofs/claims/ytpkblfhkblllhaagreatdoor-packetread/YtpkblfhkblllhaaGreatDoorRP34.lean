
/-
  barrowkeep.LendBytes, IntactBytes.
-/
import Derived.Test.YtpkblfhkblllhaaGreatDoorRP33
namespace Go.Proofs.YtpkblfhkblllhaaGreatDoor
open Go.RowKit
set_option maxRecDepth 100000

theorem info_parts {P : Program} {t : TypeId} {z : Value} {s b : Nat} (h : (P.info? t).map (fun i => (i.zero, i.size, i.bytes)) = some (some z, s, b)) : ∃ i, P.info? t = some i ∧ i.zero = some z ∧ i.size = s ∧ i.bytes = b := by
  obtain ⟨i, h1, h2⟩ := Option.map_eq_some_iff.1 h
  simp only [Prod.mk.injEq] at h2
  exact ⟨i, h1, h2.1, h2.2.1, h2.2.2⟩
theorem row_new (w : World) (cs : Array Value) (t : TypeId) : RowAt w.heap.size cs t (w.alloc (.cells cs t)) := heap_alloc_last w _ _
theorem run_app0 {P : Program} (w : World) (t ty e : TypeId) (i : TypeInfo) (z : Value) (size bytes : Nat) (ht : P.underlying t = some (.slice e)) (hi : P.info? e = some i) (hz : i.zero = some z)
    (hsize : i.size = size) (hby : i.bytes = bytes) (hzs : z.cells.size = size) {u : Value} {m ge : Nat} {ys : List Value} (he : RowAt ge #[] e w) (hu : So size u m ys w) (h1 : ∀ y ∈ ys, y.oneCell' = true)
    (h63 : m ≤ maxLen) (hbytes : m * bytes ≤ 140737488355328) :
    ∃ v' w', (Builtin.append_ #[t, t] ty #[.slice (some ⟨ge, 0, none⟩) 0 0, u]).run P w = .ok v' w' ∧ Rw e size v' m ys w' ∧ Below w.heap.size w w' ∧ ∀ k, v'.ownBlock = some k → k = ge ∨ w.heap.size ≤ k := by
  have hv : Rw e size (.slice (some ⟨ge, 0, none⟩) 0 0) 0 [] w := ⟨by simp, .inr ⟨ge, 0, #[], rfl, he, Nat.le_refl _, Nat.zero_le _, by simp, by simp⟩⟩
  obtain ⟨v', w', hr, h2, h3, h4⟩ := run_app (P := P) w t ty e i z size bytes ht hi hz hsize hby hzs hv hu h1 (by omega) (by rw [Nat.zero_add]; exact hbytes)
  rw [Nat.zero_add, List.nil_append] at h2
  refine ⟨v', w', hr, h2, ?_, fun k hk => ?_⟩
  · by_cases hm0 : m = 0
    · subst hm0
      have hy : ys = [] := List.eq_nil_of_length_eq_zero (by simpa using hu.1)
      subst hy
      have hs : Src P size t u 0 [] w := by
        rcases hu.2 with ⟨_, a', c', rfl⟩ | ⟨a', c', rfl, hc⟩
        · cases a' with
          | none => exact Src.ofNil w ht c'
          | some a' => exact Src.ofSlice w ht a' 0 c' [] (by simp) (fun j u h => by simp at h) (fun u h => by simp at h)
        · exact Src.ofSlice w ht a' 0 c' [] (by simp) (fun j u h => by simp at h) (fun u h => by simp at h)
      subst hsize
      have := run_append_nothing w t t ty e i ht hi (some ⟨ge, 0, none⟩) 0 0 (Nat.le_refl _) u hs
      rw [hr] at this
      injection this with _ e2
      rw [e2]
      exact Below.refl _ _
    · obtain ⟨a, c, rfl, hnews⟩ : ∃ a c, u = .slice (some a) m c ∧ ∀ j x, ys[j]? = some x → w.cell? (a.add j) = some x := by
        rcases hu.2 with ⟨q, _⟩ | q
        · exact absurd q hm0
        · exact q
      subst hsize
      subst hby
      have hsm : m ≤ 9223372036854775807 := by simp only [maxLen] at h63; omega
      have := run_append_grow (P := P) w t ty e i z ht hi hz ⟨ge, 0, none⟩ 0 0 [] (by simp) (fun j v h => by simp at h) a m c ys hu.1 hnews (by omega) (by omega) (growslice_fits (by omega) (by rw [Nat.zero_add]; exact hbytes))
      rw [hr] at this
      injection this with _ e2
      rw [e2]
      exact ⟨rfl, rfl, rfl, by simp, fun k hk => heap_alloc_old w.drew _ hk⟩
  · rcases h4 k hk with q | q
    · cases q; exact .inl rfl
    · exact .inr q
theorem opw_app0 {P : Program} {K : Act → World → Prop} {o : Oper} {A : Act} {w : World} {Q : Exit → Act → World → Prop} (s x : Operand) (t : TypeId) (ho : o.op = .call { callee := .builtin .append, args := #[s, x], argTypes := #[t, t] })
    (e : TypeId) (i : TypeInfo) (z : Value) (size bytes : Nat) (ht : P.underlying t = some (.slice e)) (hi : P.info? e = some i) (hz : i.zero = some z) (hsize : i.size = size) (hby : i.bytes = bytes) (hzs : z.cells.size = size)
    {u : Value} {m ge : Nat} {ys : List Value} (hs : A.eval s = .slice (some ⟨ge, 0, none⟩) 0 0) (hx : A.eval x = u) (he : RowAt ge #[] e w) (hu : So size u m ys w) (h1 : ∀ y ∈ ys, y.oneCell' = true) (h63 : m ≤ maxLen) (hbytes : m * bytes ≤ 140737488355328)
    (k : ∀ v' w', Rw e size v' m ys w' → Below w.heap.size w w' → (∀ k, v'.ownBlock = some k → k = ge ∨ w.heap.size ≤ k) → K (A.put o.dst v') w') : o.wp P A w K Q := by
  obtain ⟨v', w', hr, h2, h3, h4⟩ := run_app0 (P := P) w t o.type e i z size bytes ht hi hz hsize hby hzs he hu h1 h63 hbytes
  unfold Oper.wp execOp
  simp only [ho, resolve, invoke, builtin, Sem.run_bind, Sem.run_pure, Result.andThen_ok, List.map_toArray, List.map_cons, List.map_nil, hs, hx, hr]
  exact k v' w' h2 h3 h4
theorem wpL_app0 {P : Program} {ops : Array Oper} {rest : List Oper} {o : Oper} {A : Act} {w : World} {Q : Exit → Act → World → Prop} (hgd : o.guard = none) (s x : Operand) (t : TypeId) (ho : o.op = .call { callee := .builtin .append, args := #[s, x], argTypes := #[t, t] })
    (e : TypeId) (i : TypeInfo) (z : Value) (size bytes : Nat) (ht : P.underlying t = some (.slice e)) (hi : P.info? e = some i) (hz : i.zero = some z) (hsize : i.size = size) (hby : i.bytes = bytes) (hzs : z.cells.size = size)
    {u : Value} {m ge : Nat} {ys : List Value} (hs : A.eval s = .slice (some ⟨ge, 0, none⟩) 0 0) (hx : A.eval x = u) (he : RowAt ge #[] e w) (hu : So size u m ys w) (h1 : ∀ y ∈ ys, y.oneCell' = true) (h63 : m ≤ maxLen) (hbytes : m * bytes ≤ 140737488355328)
    (k : ∀ v' w', Rw e size v' m ys w' → Below w.heap.size w w' → (∀ k, v'.ownBlock = some k → k = ge ∨ w.heap.size ≤ k) → wpList P ops Q rest (A.put o.dst v') w') : wpList P ops Q (o :: rest) A w :=
  wpList_plain hgd fun _ hK => opw_app0 s x t ho e i z size bytes ht hi hz hsize hby hzs hs hx he hu h1 h63 hbytes fun v' w' q1 q2 q3 => hK _ _ (k v' w' q1 q2 q3)
theorem SlB.form {w : World} {v : Value} {bs : List UInt8} (h : SlB w v bs) : ∃ a c, v = .slice a bs.length c := by
  rcases h with ⟨rfl, a, c, rfl⟩ | ⟨g, o, c, rfl, _⟩
  · exact ⟨a, c, rfl⟩
  · exact ⟨_, c, rfl⟩
theorem conv_sl {w : World} {a : Option Addr} {c pl : Nat} {bs : List UInt8} (h : SlB w (.slice a bs.length c) bs) (hp : pl ≤ bs.length) : (convert 23 9 (.slice a pl c)).run Tryz.prog w = .ok (.string ⟨(bs.take pl).toArray⟩) w := by
  rcases h with ⟨rfl, _⟩ | ⟨g, o, c', he, hg, hc⟩
  · obtain rfl : pl = 0 := by simpa using hp
    rw [run_convert_bytes_string w 23 9 5 a 0 c Tryz.underlying23 Tryz.underlying5 Tryz.underlying9]
    cases a <;> rfl
  · simp only [Value.slice.injEq, true_and] at he
    obtain ⟨rfl, rfl⟩ := he
    have hl : (bs.take pl).length = pl := by simp; omega
    have := run_convert_bytes_back (P := Tryz.prog) w 23 9 5 ⟨g, o, none⟩ c (bs.take pl) Tryz.underlying23 Tryz.underlying5 Tryz.underlying9 (fun j hj => by
      rw [Addr.add_lit]
      refine hc j _ ?_
      rw [List.getElem_take]
      exact List.getElem?_eq_getElem _)
    rw [hl] at this
    exact this
theorem conv_all {w : World} {a : Option Addr} {c : Nat} {bs : List UInt8} (h : SlB w (.slice a bs.length c) bs) : (convert 23 9 (.slice a bs.length c)).run Tryz.prog w = .ok (.string ⟨bs.toArray⟩) w := by
  have := conv_sl h (Nat.le_refl _)
  rwa [List.take_length] at this
theorem SlB.so {w : World} {v : Value} {bs : List UInt8} (h : SlB w v bs) : So 1 v bs.length (Lib.byteCells bs) w := by
  refine ⟨by rw [Lib.byteCells_length]; omega, ?_⟩
  rcases h with ⟨rfl, a, c, rfl⟩ | ⟨g, o, c, rfl, hg, hc⟩
  · exact .inl ⟨rfl, a, c, rfl⟩
  · refine .inr ⟨_, c, rfl, fun j x hx => ?_⟩
    rw [byteCells_at] at hx
    obtain ⟨b, hb, rfl⟩ := Option.map_eq_some_iff.1 hx
    rw [Addr.add_lit]
    exact hc j b hb
theorem RowAt.setc {b : Nat} {cs : Array Value} {t : TypeId} {w : World} (h : RowAt b cs t w) (k : Nat) (v : Value) : RowAt b (cs.setIfInBounds k v) t (w.setCell ⟨b, k, none⟩ v) := by
  unfold RowAt at *
  simp [World.setCell, Array.getElem?_modify, h]
theorem Rw.some {e : TypeId} {size n c : Nat} {a : Option Addr} {xs : List Value} {w : World} (h : Rw e size (.slice a n c) n xs w) (hn : 0 < n) : ∃ g, a = some ⟨g, 0, none⟩ := by
  rcases h.2 with ⟨_, q⟩ | ⟨g, cap, cur, q, _⟩
  · omega
  · cases q
    exact ⟨g, rfl⟩
theorem rw_set1 {e n c g : Nat} {xs : List Value} {w : World} (h : Rw e 1 (.slice (some ⟨g, 0, none⟩) n c) n xs w) (i : Nat) (x : Value) : Rw e 1 (.slice (some ⟨g, 0, none⟩) n c) n (xs.set i x) (w.setCell ⟨g, i, none⟩ x) := by
  refine ⟨by rw [List.length_set]; exact h.1, ?_⟩
  rcases h.2 with ⟨q, _⟩ | ⟨g', cap, cur, q, hg, h1, h2, h3, h4⟩
  · cases q
  · cases q
    refine .inr ⟨g, c, cur.setIfInBounds i x, rfl, RowAt.setc hg _ _, h1, h2, by simpa using h3, ?_⟩
    rw [Array.toList_setIfInBounds, List.take_set, h4]
theorem rw_at1 {e n c g : Nat} {xs : List Value} {w : World} (h : Rw e 1 (.slice (some ⟨g, 0, none⟩) n c) n xs w) {i : Nat} {u : Value} (hu : xs[i]? = some u) : w.cell? ⟨g, i, none⟩ = some u ∧ w.frozen? ⟨g, i, none⟩ = false := by
  have h0 := h.cells _ _ hu
  rw [Nat.zero_add] at h0
  rcases h.2 with ⟨q, _⟩ | ⟨g', cap, cur, q, hg, _⟩
  · cases q
  · cases q
    exact ⟨h0, Lib.frozen_of_heap hg _⟩
def u8s (xs : List Value) : Prop := ∀ u ∈ xs, ∃ z : Int, u = .int .u8 z
theorem u8s.set {xs : List Value} (h : u8s xs) (i : Nat) (z : Int) : u8s (xs.set i (.int .u8 z)) := fun u hu => by
  rcases List.mem_or_eq_of_mem_set hu with q | q
  · exact h u q
  · exact ⟨z, q⟩
theorem infoB : (Tryz.prog.info? 5).map (fun i => (i.zero, i.size, i.bytes)) = some (some (.int .u8 0), 1, 1) := by kernel_rfl
def mk4 : List Value := [.int .u8 201, .int .u8 202, .int .u8 203, .int .u8 204]
theorem so_4 (w : World) : So 1 (.slice (some ⟨w.heap.size, 0, none⟩) 4 4) 4 mk4 (w.alloc (.cells #[.int .u8 201, .int .u8 202, .int .u8 203, .int .u8 204] 5)) :=
  ⟨rfl, .inr ⟨_, _, rfl, fun j u hu => by
    rw [Addr.add_lit, Nat.zero_add, (row_new w _ _).cell]
    simpa [mk4] using hu⟩⟩
set_option maxHeartbeats 2000000 in
theorem lend_is {w : World} {v : Value} {bs : List UInt8} (h : SlB w v bs) (hl : bs.length ≤ 4000) :
    Calls Tryz.prog 6 #[v] w fun e w' => ∃ G c, e = .returned (.slice (some ⟨G, 0, none⟩) bs.length c) ∧ Rw 5 1 (.slice (some ⟨G, 0, none⟩) (bs.length + 4) c) (bs.length + 4) (Lib.byteCells bs ++ mk4) w' ∧ w.heap.size ≤ G ∧ Below w.heap.size w w' := by
  obtain ⟨i0, hi0, hz0, hz1, hz2⟩ := info_parts infoB
  have HI := hid_of' (And.intro hi0 (And.intro hz0 (And.intro hz1 hz2)))
  have HS := hid_of' (h.grow (below_one w (.cells #[] 5)))
  clear hi0 hz0 hz1 hz2
  obtain ⟨a, c, rfl⟩ := h.form
  clear h
  go_enter Tryz.func6, Tryz.ntmps6
  go_upto_region 2 with (first | (at_builtin; refine wpL_app0 (P := Tryz.prog) rfl _ _ 23 rfl 5 i0 _ 1 1 Tryz.underlying23 HI.out.1 HI.out.2.1 HI.out.2.2.1 HI.out.2.2.2 rfl rfl rfl (row_new w _ _) HS.out.so (byteCells_one bs) (by unfold maxLen; omega) (by omega) ?_; intro v1 w1 h1 h2 h3; clear HS; have H1 := hid_of' (And.intro h1 (And.intro h2 h3)); clear h1 h2 h3; obtain ⟨va, vc, rfl, _, _⟩ := H1.out.1.form) | (at_builtin; refine wpL_app (P := Tryz.prog) rfl _ _ 23 rfl 5 i0 _ 1 1 Tryz.underlying23 HI.out.1 HI.out.2.1 HI.out.2.2.1 HI.out.2.2.2 rfl rfl rfl (H1.out.1.later (below_one _ _)) (so_4 w1) (fun y hy => by simp only [mk4, List.mem_cons, List.not_mem_nil, or_false] at hy; rcases hy with rfl | rfl | rfl | rfl <;> rfl) (by unfold maxLen; omega) (by omega) ?_; intro v2 w2 q1 q2 q3))
  obtain ⟨ua, uc, hu, hcu, _⟩ := q1.form
  subst hu
  obtain ⟨G, hG⟩ := q1.some (by omega)
  subst hG
  have gx := grown_ch q2
  have hb1 : Below w.heap.size w w1 := bgo (below_one w _) H1.out.2.1
  have hs1 := hb1.size
  have h13 := H1.out.2.2
  rw [World.size_alloc] at h13
  have hlo : w.heap.size ≤ G := by
    rcases q3 G rfl with q | q
    · have := h13 G q; omega
    · rw [World.size_alloc] at q; omega
  have hb2 : Below w.heap.size w w2 := by
    have hb := bgo hb1 (below_one w1 (.cells #[.int .u8 201, .int .u8 202, .int .u8 203, .int .u8 204] 5))
    exact hb.trans (gx.below (fun s hs e => by have := h13 s e; omega) hb.size)
  have HZ := hid_of' (And.intro q1 (And.intro hlo hb2))
  have k1 : (bs.length : Int) ≤ (uc : Int) := by omega
  clear q1 q2 q3 gx hb1 hlo hb2 h13
  go_wp2
  go_ret
  exact ⟨G, uc, rfl, HZ.out.1, HZ.out.2.1, HZ.out.2.2⟩
theorem wpL_convB {ops : Array Oper} {rest : List Oper} {o : Oper} {A : Act} {w : World} {Q : Exit → Act → World → Prop} (hgd : o.guard = none) (x : Operand) (ho : o.op = .convert 23 9 x) {v : Value} {s : ByteArray} (hx : A.eval x = v) (hrun : (convert 23 9 v).run Tryz.prog w = .ok (.string s) w)
    (k : wpList Tryz.prog ops Q rest (A.put o.dst (.string s)) w) : wpList Tryz.prog ops Q (o :: rest) A w := by
  refine wpList_plain hgd fun _ hK => ?_
  unfold Oper.wp execOp
  simp only [ho, hx, Sem.run_bind, hrun, Result.andThen]
  exact hK _ _ k
def mk4b : List UInt8 := [201, 202, 203, 204]
theorem mk4_is : mk4 = Lib.byteCells mk4b := rfl
def BsAt (K : Nat → Prop) (v : Value) (bs : List UInt8) (w : World) : Prop := Rw 5 1 v bs.length (Lib.byteCells bs) w ∧ ∀ g, v.ownBlock = some g → K g
theorem BsAt.sl {K : Nat → Prop} {v : Value} {bs : List UInt8} {w : World} (h : BsAt K v bs w) : SlB w v bs := by
  have h0 := h.1
  rcases h.1.2 with ⟨rfl, hn⟩ | ⟨g, cap, cur, rfl, hg, _⟩
  · exact .inl ⟨List.eq_nil_of_length_eq_zero hn, _, _, rfl⟩
  · refine .inr ⟨g, 0, cap, rfl, (Array.getElem?_eq_some_iff.1 hg).1, fun i b hi => ?_⟩
    exact h0.cells i _ (by rw [byteCells_at, hi]; rfl)
set_option maxHeartbeats 4000000 in
theorem intact_is {w : World} {G c : Nat} {v : Value} {bs : List UInt8} (h : Rw 5 1 (.slice (some ⟨G, 0, none⟩) (bs.length + 4) c) (bs.length + 4) (Lib.byteCells bs ++ mk4) w) (hb : SlB w v bs) (hl : bs.length ≤ 4000) :
    Calls Tryz.prog 9 #[.slice (some ⟨G, 0, none⟩) bs.length c, v] w fun e w' => e = .returned (.bool true) ∧ Ch (fun k => k = G) w w' := by
  obtain ⟨va, vc, rfl⟩ := hb.form
  obtain ⟨N, hN⟩ : ∃ N, bs.length = N := ⟨_, rfl⟩
  obtain ⟨M, hM⟩ : ∃ M, M = N + 4 := ⟨_, rfl⟩
  have hcap : M ≤ c := by
    obtain ⟨a', c', e, h1, _⟩ := h.form
    simp only [Value.slice.injEq] at e
    omega
  have hbl : BsAt (fun _ => True) (.slice (some ⟨G, 0, none⟩) M c) (bs ++ mk4b) w := by
    refine ⟨?_, fun _ _ => trivial⟩
    have e1 : (bs ++ mk4b).length = M := by rw [List.length_append, hN, hM]; rfl
    have e2 : Lib.byteCells (bs ++ mk4b) = Lib.byteCells bs ++ mk4 := by rw [mk4_is]; simp [Lib.byteCells]
    rw [e1, e2]
    rw [hN, ← hM] at h
    exact h
  have hc1 : ∀ (s : Unit), (convert 23 9 (.slice (some ⟨G, 0, none⟩) M c)).run Tryz.prog w = .ok (.string ⟨(bs ++ mk4b).toArray⟩) w := fun _ => by
    have e1 : (bs ++ mk4b).length = M := by rw [List.length_append, hN, hM]; rfl
    have := hbl.sl
    rw [← e1] at this ⊢
    exact conv_all this
  have hc2 : ∀ (s : Unit), (convert 23 9 (.slice va N vc)).run Tryz.prog w = .ok (.string ⟨bs.toArray⟩) w := fun _ => by
    rw [← hN]
    exact conv_all hb
  have HC1 := hid_of' (hc1 ())
  have HC2 := hid_of' (hc2 ())
  have H := hid_of' hbl
  have hMi : IntKind.i64.wrap ((N : Int) + 4) = (M : Int) := by rw [IntKind.wrap_i64]; omega
  have hMw : wrap64 ((N : Int) + 4) = (M : Int) := by unfold wrap64; omega
  have k1 : (0 : Int) ≤ (M : Int) := by omega
  have k2 : (M : Int) ≤ (c : Int) := by omega
  have hM9 : M ≤ 4004 := by omega
  have hc0 : ¬ c = 0 := by omega
  rw [hN]
  have hs : (⟨(bs ++ mk4b).toArray⟩ : ByteArray) = ⟨bs.toArray⟩ ++ ⟨#[201, 202, 203, 204]⟩ := by
    apply ByteArray.ext
    simp [mk4b]
  rw [hs] at HC1
  have hlen : ¬ 9223372036854775807 < bs.length + 4 := by omega
  clear h hb hbl hc1 hc2 hs hN hM hl
  go_enter Tryz.func9, Tryz.ntmps9
  go_wp2_with (first | (refine wpL_convB rfl (.tmp 13) rfl rfl HC1.out ?_) | (refine wpL_convB rfl (.tmp 15) rfl rfl HC2.out ?_))
  clear HC1 HC2 hMi hMw k1 k2 hlen
  go_loopw [7] (fun kv wr => ∃ (k : Nat) (ys : List Value), kv = .int .i64 (k : Int) ∧ k ≤ M ∧ Rw 5 1 (.slice (some ⟨G, 0, none⟩) M c) M ys wr ∧ u8s ys ∧ Ch (fun k => k = G) w wr) (fun kv _ => M - (intOf kv).toNat)
  case atStart =>
    refine ⟨0, Lib.byteCells (bs ++ mk4b), rfl, by omega, ?_, fun u hu => ?_, Ch.refl _ _⟩
    · have h := H.out.1
      obtain ⟨_, _, e, _⟩ := h.form
      simp only [Value.slice.injEq] at e
      rw [← e.2.1] at h
      exact h
    · obtain ⟨z, _, rfl⟩ := List.mem_map.1 hu
      exact ⟨_, rfl⟩
  case round =>
    obtain ⟨k, ys, rfl, hk, hR, hu, hC⟩ := hrel
    by_cases hkl : k < M
    · have hki : (k : Int) < (M : Int) := by omega
      have hyl : ys.length = M := by have := hR.1; omega
      obtain ⟨y, hy⟩ : ∃ y, ys[k]? = some y := ⟨_, List.getElem?_eq_getElem (by omega)⟩
      obtain ⟨z, rfl⟩ := hu y (List.mem_of_getElem? hy)
      have hat := rw_at1 hR hy
      have m1 := hat.1
      have m2 := hat.2
      have HX := hid_of' (And.intro hR (And.intro hu hC))
      clear hR hC hat hy hyl hu
      go_wp2
      go_roundw
      case rel => exact ⟨k + 1, ys.set k _, by go_num, by omega, rw_set1 HX.out.1 k _, HX.out.2.1.set k _, Ch.set (p := ⟨G, k, none⟩) HX.out.2.2 (.inl rfl) _⟩
      case measure => simp [intOf]; omega
    · have hki : ¬ (k : Int) < (M : Int) := by omega
      have HX := hid_of' hC
      clear hR hC
      go_wp2
      go_ret
      exact ⟨rfl, HX.out⟩
end Go.Proofs.YtpkblfhkblllhaaGreatDoor
