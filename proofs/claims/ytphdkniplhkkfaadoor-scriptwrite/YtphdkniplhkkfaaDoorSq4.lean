
/-
  Package script: readStep.
-/
import Derived.Test.YtphdkniplhkkfaaDoorSq3
import Derived.Laws.CopyOwn
namespace Go.Proofs.YtphdkniplhkkfaaDoor
open Go.RowKit Go.Extern.Stop Go.Stop Go.Extern
set_option maxRecDepth 100000

theorem readText_any {w : World} {v : Value} {bs : List UInt8} (h : SlC w v bs) (hl : bs.length ≤ 1000000) :
    Calls Tryd.prog 38 #[v] w fun e w' => ∃ u, e = .returned (.tuple #[.string (tx (rtC bs)), u]) ∧ (∀ w0, SlC w0 v bs → SlC w0 u (rtR bs)) ∧ Below w.heap.size w w' := by
  obtain ⟨hb, a, c, rfl, hc⟩ := h
  cases bs with
  | nil =>
    refine (readText_no a c w).mono ?_
    rintro e w' ⟨rfl, rfl⟩
    exact ⟨_, rfl, fun _ _ => ⟨.inl ⟨rfl, none, 0, rfl⟩, none, 0, rfl, Nat.le_refl _⟩, Below.refl _ _⟩
  | cons n0 r =>
    obtain ⟨g, o, c', e, _, _⟩ := hb.at (by simp)
    cases e
    rw [List.length_cons] at *
    refine (readText_ok hb hc (by omega)).mono ?_
    rintro e w' ⟨u, h1, h2, h3⟩
    exact ⟨u, h1, fun w0 h0 => h2 w0 h0.1, h3⟩
theorem hasT_at {k : Int} {b : Bool} (h : hasT k = b) (w : World) : Calls Tryd.prog 23 #[.int .i64 k] w fun e w' => e = .returned (.bool b) ∧ w' = w := by
  rw [← h]
  exact hasT_is k w
theorem size_u8 : (Tryd.prog.info? 5).map (·.size) = some 1 := by kernel_rfl
/-- A step's cells, in an array. -/
def stv (k a b c : Int) (t : ByteArray) : Array Value := #[.int .i64 k, .int .i64 a, .int .i64 b, .int .i64 c, .string t]
theorem stv_is (s : Stp) : (stc s).toArray = stv s.k s.a s.b s.c s.t := rfl
theorem stv_size (k a b c : Int) (t : ByteArray) : (Tryd.prog.info? 30).map (·.size) = some (stv k a b c t).size := by
  show (Tryd.prog.info? 30).map (·.size) = some 5
  kernel_rfl
theorem stv_one (k a b c : Int) (t : ByteArray) : (stv k a b c t).all (·.oneCell') = true := by simp [stv, Value.oneCell']
section
variable {ops : Array Oper} {rest : List Oper} {o : Oper} {a : Act} {w : World} {Q : Exit → Act → World → Prop}
theorem wpL_ldT (hgd : o.guard = none) (x : Operand) (ho : o.op = .load 30 x) {b off : Nat} (hx : a.eval x = .pointer (some ⟨b, off, none⟩)) {k p q r : Int} {t : ByteArray} (h : CsIn b off (stv k p q r t) w)
    (K : wpList Tryd.prog ops Q rest (a.put o.dst (.agg (stv k p q r t))) w) : wpList Tryd.prog ops Q (o :: rest) a w :=
  wpList_plain hgd fun _ hK => by
    unfold Oper.wp execOp
    simp only [ho, hx, Instr.loadAt, Instr.sureAddr, Sem.run_bind, Sem.run_pure, Result.andThen_ok, run_loadVar_in h Tryd.underlying30 rfl (stv_size k p q r t)]
    exact hK _ _ K
theorem wpL_stT (hgd : o.guard = none) (x y : Operand) (ho : o.op = .store 30 x y) {b : Nat} (hx : a.eval x = .pointer (some ⟨b, 0, none⟩)) {k p q r : Int} {t : ByteArray} (hy : a.eval y = .agg (stv k p q r t)) {k' p' q' r' : Int} {t' : ByteArray} (h : RowAt b (stv k' p' q' r' t') 30 w)
    (K : wpList Tryd.prog ops Q rest (a.put o.dst undef) (w.setRow b (stv k p q r t))) : wpList Tryd.prog ops Q (o :: rest) a w :=
  wpList_store_row hgd _ x y ho b (stv k p q r t) hx hy _ _ h (stv_size k p q r t) rfl (stv_one k p q r t) K
end
theorem results_st {fn : Func} {u p : Tmp} {tmps : Array Value} {w : World} {g : Nat} {k a b c : Int} {t : ByteArray} (h : fn.results = #[.cell u 30, .tmp p]) (hp : tmps.getD u undef = .pointer (some ⟨g, 0, none⟩)) (hg : RowAt g (stv k a b c t) 30 w) :
    (results fn tmps).run Tryd.prog w = .ok (.tuple #[.agg (stv k a b c t), tmps.getD p undef]) w := by
  have hp' : tmps[u]?.getD undef = .pointer (some ⟨g, 0, none⟩) := by simpa using hp
  simp [results, h, hp', asAddr, run_loadVar_row w g _ _ _ _ _ hg Tryd.underlying30 rfl (stv_size k a b c t)]
theorem wpL_copyH {ops : Array Oper} {rest : List Oper} {o : Oper} {A : Act} {w : World} {Q : Exit → Act → World → Prop} (hgd : o.guard = none) (d s : Operand) (ho : o.op = .call { callee := .builtin .copy, args := #[d, s], argTypes := #[24, 24] })
    {G N c m : Nat} {a : Option Addr} (hd : A.eval d = .slice (some ⟨G, 0, none⟩) 4 4) (hs : A.eval s = .slice a N c) (hg : RowAt G #[.int .u8 0, .int .u8 0, .int .u8 0, .int .u8 0] 62 w) {cs : List Value} (hm : m = min N 4) (hn : cs.length = m)
    (hpos : 0 < cs.length → ∃ ad, a = some ad ∧ ∀ j v, cs[j]? = some v → w.cell? (ad.add j) = some v) (h1 : ∀ v ∈ cs, v.oneCell' = true)
    (k : ∀ w', RowAt G (splice [Value.int .u8 0, .int .u8 0, .int .u8 0, .int .u8 0] 0 cs).toArray 62 w' → Below G w w' → wpList Tryd.prog ops Q rest (A.put o.dst (.int .i64 (m : Int))) w') : wpList Tryd.prog ops Q (o :: rest) A w := by
  subst hn
  refine wpList_copy_splice hgd d s 24 24 ho 5 Tryd.underlying24 size_u8 _ _ 4 4 N c hd hs G 0 [.int .u8 0, .int .u8 0, .int .u8 0, .int .u8 0] 62 hg cs hm (fun h0 => ⟨rfl, hpos h0⟩) ?_ h1 G w (Below.refl _ _) (Nat.le_refl _) fun w' q1 q2 => ?_
  · rw [hm]
    show 0 + min N 4 ≤ 4
    omega
  · exact k w' q1 q2
/-- The first four bytes, 0 where there is none. -/
theorem head_is (bs : List UInt8) : splice [Value.int .u8 0, .int .u8 0, .int .u8 0, .int .u8 0] 0 (Lib.byteCells (bs.take 4)) = [Value.int .u8 (hd bs 0 : Int), .int .u8 (hd bs 1 : Int), .int .u8 (hd bs 2 : Int), .int .u8 (hd bs 3 : Int)] := by
  match bs with
  | [] => rfl
  | [_] => rfl
  | [_, _] => rfl
  | [_, _, _] => rfl
  | _ :: _ :: _ :: _ :: _ => rfl
theorem behind_ok {w : World} {v : Value} {bs : List UInt8} (h : SlB w v bs) {a : Option Addr} {c n X C : Nat} {A : Option Addr} (hv : v = .slice a bs.length c) (hn : n = min bs.length 4) (hX : X = bs.length - n) (hC : X ≤ C) (hA : 0 < X → A = a.map (·.add n)) : SlC w (.slice A X C) (bs.drop 4) := by
  have e : bs.drop 4 = bs.drop n := by
    by_cases h4 : 4 ≤ bs.length
    · rw [hn, Nat.min_eq_right h4]
    · rw [List.drop_of_length_le (by omega), List.drop_of_length_le (by omega)]
  have hl : bs.length - n = X := by omega
  rw [e]
  refine ⟨h.drop (by omega) ⟨A, C, by rw [hl], fun hlt g o m c' hv' => ?_⟩, A, C, by rw [List.length_drop, hl], by rw [List.length_drop, hl]; exact hC⟩
  rw [hv] at hv'
  cases hv'
  rw [hA (by omega), Option.map_some, Addr.add_lit]
set_option maxHeartbeats 4000000 in
theorem readStep_ok {w : World} {v : Value} {bs : List UInt8} (h : SlC w v bs) (hl : bs.length ≤ 1000000) :
    Calls Tryd.prog 31 #[v] w fun e w' => ∃ u, e = .returned (.tuple #[.agg (stc (rdS bs)).toArray, u]) ∧ (∀ w0, SlC w0 v bs → SlC w0 u (rdR bs)) ∧ Below w.heap.size w w' := by
  obtain ⟨hb, a, c, rfl, hc⟩ := h
  obtain ⟨N, hN⟩ : ∃ N, N = bs.length := ⟨_, rfl⟩
  have hpos : 0 < (Lib.byteCells (bs.take 4)).length → ∃ ad, a = some ad ∧ ∀ j v, (Lib.byteCells (bs.take 4))[j]? = some v → w.cell? (ad.add j) = some v := fun h0 => by
    have hne : bs ≠ [] := by
      rintro rfl
      exact absurd h0 (Nat.lt_irrefl 0)
    obtain ⟨g, o, c', e, _, hcell⟩ := hb.at hne
    cases e
    refine ⟨_, rfl, fun j v hv => ?_⟩
    rw [byteCells_at] at hv
    obtain ⟨b, hb', rfl⟩ := Option.map_eq_some_iff.1 hv
    rw [Addr.add_lit]
    refine hcell j b ?_
    rw [List.getElem?_take] at hb'
    split at hb'
    · exact hb'
    · cases hb'
  have hcl : (Lib.byteCells (bs.take 4)).length = min N 4 := by rw [Lib.byteCells_length, List.length_take, hN, Nat.min_comm]
  have H := hid_of' (And.intro hb (And.intro hN (And.intro hpos (And.intro hcl hl))))
  rw [← hN] at hc ⊢
  clear hb hpos hcl hl hN
  go_enter Tryd.func31, Tryd.ntmps31
  go_upto_region 2 with fail
  have r0 : RowAt w.heap.size (stv 0 0 0 0 .empty) 30 (w.alloc (.cells (stv 0 0 0 0 .empty) 30)) := RowAt.new w _ _
  have r1 := RowAt.new (w.alloc (.cells (stv 0 0 0 0 .empty) 30)) #[.int .u8 0, .int .u8 0, .int .u8 0, .int .u8 0] 62
  have r0' := r0.later (below_one _ (.cells #[.int .u8 0, .int .u8 0, .int .u8 0, .int .u8 0] 62))
  have b1 : Below w.heap.size w ((w.alloc (.cells (stv 0 0 0 0 .empty) 30)).alloc (.cells #[.int .u8 0, .int .u8 0, .int .u8 0, .int .u8 0] 62)) := bgo (below_one _ _) (below_one _ _)
  rw [World.size_alloc] at r1
  have hs1 : ((w.alloc (.cells (stv 0 0 0 0 .empty) 30)).alloc (.cells #[.int .u8 0, .int .u8 0, .int .u8 0, .int .u8 0] 62)).heap.size = w.heap.size + 2 := by rw [World.size_alloc, World.size_alloc]
  change Code.wp Tryd.prog _ _ _ ((w.alloc (.cells (stv 0 0 0 0 .empty) 30)).alloc (.cells #[.int .u8 0, .int .u8 0, .int .u8 0, .int .u8 0] 62))
  generalize (w.alloc (.cells (stv 0 0 0 0 .empty) 30)).alloc (.cells #[.int .u8 0, .int .u8 0, .int .u8 0, .int .u8 0] 62) = W2 at r0' r1 b1 hs1 ⊢
  clear r0
  obtain ⟨P0, hP0⟩ : ∃ P0, P0 = w.heap.size := ⟨_, rfl⟩
  rw [← hP0] at r0' r1 hs1 b1 ⊢
  have HW2 : 0 < (Lib.byteCells (bs.take 4)).length → ∃ ad, a = some ad ∧ ∀ j v, (Lib.byteCells (bs.take 4))[j]? = some v → W2.cell? (ad.add j) = some v := fun h0 => by
    obtain ⟨ad, h1, h2⟩ := H.out.2.2.1 h0
    exact ⟨ad, h1, fun j v hv => by
      have h3 := h2 j v hv
      rw [b1.cell (by rw [hP0]; exact World.block_lt_of_cell? _ _ h3)]
      exact h3⟩
  have H2 := hid_of' (And.intro r0' (And.intro r1 (And.intro b1 (And.intro hs1 hP0))))
  clear r0' r1 b1 hs1 hP0
  obtain ⟨m, hm⟩ : ∃ m, m = min N 4 := ⟨_, rfl⟩
  have HM := hid_of' (And.intro hm (H.out.2.2.2.1.trans hm.symm))
  go_upto_region 3 with (refine wpL_copyH rfl _ _ rfl rfl rfl H2.out.2.1 HM.out.1 HM.out.2 HW2 (byteCells_one _) ?_; intro w3 hg3 hb3)
  rw [head_is] at hg3
  have r0 : RowAt P0 (stv 0 0 0 0 .empty) 30 w3 := by
    have := hb3.block P0 (by omega)
    unfold RowAt
    rw [this]
    exact H2.out.1
  have bw3 : Below P0 w w3 := H2.out.2.2.1.trans (hb3.mono (by omega))
  have c0 : w3.cell? ⟨P0 + 1, 0, none⟩ = some (.int .u8 (hd bs 0 : Int)) := hg3.is rfl
  have c1 : w3.cell? ⟨P0 + 1, 1, none⟩ = some (.int .u8 (hd bs 1 : Int)) := hg3.is rfl
  have c2 : w3.cell? ⟨P0 + 1, 2, none⟩ = some (.int .u8 (hd bs 2 : Int)) := hg3.is rfl
  have c3 : w3.cell? ⟨P0 + 1, 3, none⟩ = some (.int .u8 (hd bs 3 : Int)) := hg3.is rfl
  have l0 := hd_lt bs 0
  have l1 := hd_lt bs 1
  have l2 := hd_lt bs 2
  have l3 := hd_lt bs 3
  have hkd : ((hd bs 0 : Int)) % 14 = kd bs := by unfold kd; omega
  obtain ⟨h0, eh0⟩ : ∃ h0, h0 = hd bs 0 := ⟨_, rfl⟩
  obtain ⟨h1, eh1⟩ : ∃ h1, h1 = hd bs 1 := ⟨_, rfl⟩
  obtain ⟨h2, eh2⟩ : ∃ h2, h2 = hd bs 2 := ⟨_, rfl⟩
  obtain ⟨h3, eh3⟩ : ∃ h3, h3 = hd bs 3 := ⟨_, rfl⟩
  rw [← eh0] at c0 l0 hkd
  rw [← eh1] at c1 l1
  rw [← eh2] at c2 l2
  rw [← eh3] at c3 l3
  have H3 := hid_of' (And.intro r0 (And.intro bw3 (And.intro eh1 (And.intro eh2 eh3))))
  clear r0 bw3 hg3 hb3 eh0 eh1 eh2 eh3
  have hS4 : ∀ w0, SlB w0 (.slice a N c) bs → SlC w0 (.slice (if c = min N 4 then a else Option.map (fun x => x.add (min N 4)) a) (N - min N 4) (c - min N 4)) (bs.drop 4) := fun w0 h0 => behind_ok (n := min N 4) (c := c) h0 (by rw [H.out.2.1]) (by rw [H.out.2.1]) (by rw [H.out.2.1]) (by omega) (fun h0 => if_neg (by omega))
  go_upto_region 4 with fail
  generalize Value.slice (if c = min N 4 then a else Option.map (fun x => x.add (min N 4)) a) (N - min N 4) (c - min N 4) = v4 at hS4 ⊢
  clear c0 c1 c2 c3
  have r5 : RowAt w3.heap.size (stv (kd bs) h1 h2 h3 .empty) 30 (w3.alloc (.cells (stv (kd bs) h1 h2 h3 .empty) 30)) := RowAt.new w3 _ _
  have b5 := below_one w3 (.cells (stv (kd bs) h1 h2 h3 .empty) 30)
  change Code.wp Tryd.prog _ _ _ (w3.alloc (.cells (stv (kd bs) h1 h2 h3 .empty) 30))
  obtain ⟨P5, hP5⟩ : ∃ P5, P5 = w3.heap.size := ⟨_, rfl⟩
  rw [← hP5] at r5 ⊢
  generalize w3.alloc (.cells (stv (kd bs) h1 h2 h3 .empty) 30) = w5 at r5 b5 ⊢
  have ck5 : w5.cell? ⟨P5, 0, none⟩ = some (.int .i64 (kd bs)) := r5.is rfl
  have r05 := H3.out.1.later b5
  have hne : ¬ P0 = P5 := by have := H3.out.1.lt; omega
  have bw5 : Below P0 w w5 := H3.out.2.1.trans (b5.mono (by have := H3.out.1.lt; omega))
  have HS4' := hid_of' hS4
  have HS4 := hid_of' ((hS4 w (by rw [H.out.2.1]; exact H.out.1)).later (by rw [H2.out.2.2.2.2] at bw5; exact bw5))
  have H5 := hid_of' (And.intro r5 (And.intro r05 (And.intro hne (And.intro bw5 hP5))))
  clear r5 b5 r05 hne bw5 hP5 hS4
  cases hT : hasT (kd bs)
  · have HT := hid_of' (fun x => hasT_at hT x)
    go_upto_region 6 with (go_at_call 23; with_reducible refine (HT.out _).mono ?_; rintro e wx ⟨rfl, hwx⟩; rw [hwx]; clear hwx)
    go_wp2_with (first | (refine wpL_ldT rfl _ rfl rfl H5.out.1.in ?_) | (refine wpL_stT rfl _ _ rfl rfl rfl H5.out.2.1 ?_))
    have r6 : RowAt P0 (stv (kd bs) h1 h2 h3 .empty) 30 (w5.setRow P0 (stv (kd bs) h1 h2 h3 .empty)) := setRow_heap _ _ _ _ _ _ H5.out.2.1
    have b6 : Below w.heap.size w (w5.setRow P0 (stv (kd bs) h1 h2 h3 .empty)) := by
      have := H5.out.2.2.2.1
      rw [H2.out.2.2.2.2] at this
      exact below_row this (by rw [H2.out.2.2.2.2]; exact Nat.le_refl _) _
    generalize w5.setRow P0 (stv (kd bs) h1 h2 h3 .empty) = w6 at r6 b6 ⊢
    refine bodyPost_ret (results_st (fn := Tryd.f31) (u := 2) (p := 3) rfl rfl r6) rfl ?_
    refine ⟨v4, ?_, ?_, b6⟩
    · have e : rdS bs = ⟨kd bs, h1, h2, h3, .empty⟩ := by
        unfold rdS
        rw [H3.out.2.2.1, H3.out.2.2.2.1, H3.out.2.2.2.2, if_neg (by rw [hT]; decide)]
      rw [e]
      rfl
    · have e : rdR bs = bs.drop 4 := by
        unfold rdR
        rw [if_neg (by rw [hT]; decide)]
      rw [e]
      exact fun w0 h0 => HS4'.out w0 h0.1
  · have HT := hid_of' (fun x => hasT_at hT x)
    go_upto_region 5 with (go_at_call 23; with_reducible refine (HT.out _).mono ?_; rintro e wx ⟨rfl, hwx⟩; rw [hwx]; clear hwx)
    have HR := hid_of' (readText_any HS4.out (by have := H.out.2.2.2.2; rw [List.length_drop]; omega))
    go_upto_region 6 with (go_at_call 38; refine HR.out.mono ?_; rintro e w6 ⟨u6, rfl, hu6, hb6⟩; have r6 := H5.out.1.later hb6; have f6 : w6.frozen? ⟨P5, 4, none⟩ = false := r6.free 4; have s6 : w6.cell? ⟨P5, 4, none⟩ = some (.string .empty) := r6.is rfl)
    have r7 : RowAt P5 (stv (kd bs) h1 h2 h3 (tx (rtC (bs.drop 4)))) 30 (w6.setCell ⟨P5, 4, none⟩ (.string (tx (rtC (bs.drop 4))))) := r6.setc 4 _
    have r70 := (H5.out.2.1.later hb6).setO ⟨P5, 4, none⟩ (.string (tx (rtC (bs.drop 4)))) H5.out.2.2.1
    have b60 : Below P0 w w6 := H5.out.2.2.2.1.trans (hb6.mono (by have := H5.out.2.1.lt; omega))
    have b7 : Below P0 w (w6.setCell ⟨P5, 4, none⟩ (.string (tx (rtC (bs.drop 4))))) := b60.setCell (show P0 ≤ P5 by have e1 := H5.out.2.2.2.2; have e2 := H3.out.1.lt; omega) _
    generalize w6.setCell ⟨P5, 4, none⟩ (.string (tx (rtC (bs.drop 4)))) = w7 at r7 r70 b7 ⊢
    have H7 := hid_of' (And.intro r7 (And.intro r70 (And.intro b7 hu6)))
    clear r7 r70 b7 hu6 b60 r6 f6 s6 hb6
    go_wp2_with (first | (refine wpL_ldT rfl _ rfl rfl H7.out.1.in ?_) | (refine wpL_stT rfl _ _ rfl rfl rfl H7.out.2.1 ?_))
    have r8 : RowAt P0 (stv (kd bs) h1 h2 h3 (tx (rtC (bs.drop 4)))) 30 (w7.setRow P0 (stv (kd bs) h1 h2 h3 (tx (rtC (bs.drop 4))))) := setRow_heap _ _ _ _ _ _ H7.out.2.1
    have b8 : Below w.heap.size w (w7.setRow P0 (stv (kd bs) h1 h2 h3 (tx (rtC (bs.drop 4))))) := by
      have := H7.out.2.2.1
      rw [H2.out.2.2.2.2] at this
      exact below_row this (by rw [H2.out.2.2.2.2]; exact Nat.le_refl _) _
    generalize w7.setRow P0 (stv (kd bs) h1 h2 h3 (tx (rtC (bs.drop 4)))) = w8 at r8 b8 ⊢
    refine bodyPost_ret (results_st (fn := Tryd.f31) (u := 2) (p := 3) rfl rfl r8) rfl ?_
    refine ⟨u6, ?_, ?_, b8⟩
    · have e : rdS bs = ⟨kd bs, h1, h2, h3, tx (rtC (bs.drop 4))⟩ := by
        unfold rdS
        rw [H3.out.2.2.1, H3.out.2.2.2.1, H3.out.2.2.2.2, if_pos hT]
      rw [e]
      rfl
    · have e : rdR bs = rtR (bs.drop 4) := by
        unfold rdR
        rw [if_pos hT]
      rw [e]
      exact fun w0 h0 => H7.out.2.2.2 w0 (HS4'.out w0 h0.1)
end Go.Proofs.YtphdkniplhkkfaaDoor
