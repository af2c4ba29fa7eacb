
/-
  barrowlaw02.WireWrites.
-/
import Derived.Test.YthabeapgkaggmaaDoorWw4
namespace Go.Proofs.YthabeapgkaggmaaDoor
open Go.RowKit Go.Extern.Stop Go.Stop Go.Extern
set_option maxRecDepth 100000

theorem own_ne {v : Value} {n b : Nat} {xs : List Value} {cs : Array Value} {t : TypeId} {w : World} (h : Rw 5 1 v n xs w) (hr : RowAt b cs t w) (ht : t ≠ 5) : ∀ k, v.ownBlock = some k → ¬ k = b := fun k hk e => by
  subst e
  rcases h.2 with ⟨rfl, _⟩ | ⟨g, cap, cur, rfl, hg, _⟩
  · cases hk
  · cases hk
    unfold RowAt at hr
    rw [hg] at hr
    simp at hr
    exact ht hr.2.symm
theorem row_ne {a b : Nat} {cs ds : Array Value} {t u : TypeId} {w : World} (h : RowAt a cs t w) (g : RowAt b ds u w) (ht : t ≠ u) : ¬ a = b := fun e => by
  subst e
  unfold RowAt at h g
  rw [h] at g
  simp at g
  exact ht g.2
/-- Both Writers, the row, the Item and the refusal, each in its place. -/
structure InB (W : World) (b1 b2 xa na : Nat) (p q r : List UInt8) (v3 : Value) (xc nc : Array Value) (w : World) : Prop where
  tri : TriE W b1 b2 p q r v3 w
  x : RowAt xa xc 29 w
  n : RowAt na nc 33 w
section
variable {W w w' : World} {b1 b2 xa na : Nat} {p q r p' r' : List UInt8} {v1 v3 : Value} {xc nc : Array Value}
theorem InB.later (h : InB W b1 b2 xa na p q r v3 xc nc w) (hb : Below w.heap.size w w') : InB W b1 b2 xa na p q r v3 xc nc w' := ⟨h.tri.later hb, h.x.later hb, h.n.later hb⟩
theorem InB.swap (h : InB W b1 b2 xa na p q r v3 xc nc w) : InB W b2 b1 xa na q p r v3 xc nc w := by
  obtain ⟨⟨v1, v2, ht⟩, h2, h3⟩ := h
  exact ⟨⟨v2, v1, ht.swap⟩, h2, h3⟩
theorem put_row {b k : Nat} {cs : Array Value} {t : TypeId} (h : WwAt b p v1 w) (hp : PutW b p' v1 w w') (hr : RowAt k cs t w) (h1 : t ≠ 5) (h2 : 27 ≠ t) : RowAt k cs t w' := by
  obtain ⟨v', _, _, hc⟩ := hp
  exact hr.ch hc (fun e => e.elim (fun e => row_ne h.row hr h2 e.symm) (fun e => own_ne h.own hr h1 _ e rfl))
theorem InB.one (h : InB W b1 b2 xa na p q r v3 xc nc w) {F : Nat} {args : Array Value} {e0 : Ending} (hc : ∀ v1, WwAt b1 p v1 w → Calls Tryd.prog F args w fun e w' => e = e0 ∧ PutW b1 p' v1 w w') :
    Calls Tryd.prog F args w fun e w' => e = e0 ∧ InB W b1 b2 xa na p' q r v3 xc nc w' := by
  obtain ⟨⟨v1, v2, ht⟩, h2, h3⟩ := h
  refine (hc v1 ht.a).mono ?_
  rintro e w' ⟨he, hp⟩
  obtain ⟨v1', ht'⟩ := ht.one hp
  exact ⟨he, ⟨v1', v2, ht'⟩, put_row ht.a hp h2 (by decide) (by decide), put_row ht.a hp h3 (by decide) (by decide)⟩
theorem InB.two (h : InB W b1 b2 xa na p q r v3 xc nc w) {F : Nat} {args : Array Value} {e0 : Ending} (hc : ∀ v1, WwAt b2 q v1 w → Calls Tryd.prog F args w fun e w' => e = e0 ∧ PutW b2 p' v1 w w') :
    Calls Tryd.prog F args w fun e w' => e = e0 ∧ InB W b1 b2 xa na p p' r v3 xc nc w' := (h.swap.one hc).mono fun _ _ ⟨h1, h2⟩ => ⟨h1, h2.swap⟩
theorem InB.three (h : InB W b1 b2 xa na p q r v3 xc nc w) {v : Value} (q1 : Rw 5 1 v r'.length (Lib.byteCells r') w') (q2 : w.grownBy w' v3.ownBlock) (q3 : At' w v3 v) : InB W b1 b2 xa na p q r' v xc nc w' := by
  obtain ⟨⟨v1, v2, ht⟩, h2, h3⟩ := h
  exact ⟨⟨v1, v2, ht.three q1 q2 q3⟩, h2.grow q2 (fun e => own_ne ht.c h2 (by decide) _ e rfl), h3.grow q2 (fun e => own_ne ht.c h3 (by decide) _ e rfl)⟩
theorem InB.setNo (h : InB W b1 b2 xa na p q r v3 xc nc w) (hna : W.heap.size ≤ na) (nc' : Array Value) : InB W b1 b2 xa na p q r v3 xc nc' (w.setRow na nc') := by
  obtain ⟨⟨v1, v2, ht⟩, h2, h3⟩ := h
  have c : Ch (fun k => k = na) w (w.setRow na nc') := Ch.row (S := fun k => k = na) (Ch.refl _ _) (.inl rfl) nc'
  exact ⟨⟨v1, v2, ht.a.ch c (row_ne ht.a.row h3 (by decide)) (own_ne ht.a.own h3 (by decide)), ht.b.ch c (row_ne ht.b.row h3 (by decide)) (own_ne ht.b.own h3 (by decide)), ht.c.ch c (own_ne ht.c h3 (by decide)), ht.nb, ht.d12, ht.d13, ht.d23, ht.o1, ht.o2, ht.o3, ht.ob1, ht.ob2, ht.bel.trans (c.below (fun s hs e => by omega) ht.bel.size)⟩, h2.ch c (row_ne h2 h3 (by decide)), RowAt.put h3 nc'⟩
theorem InB.row (h : InB W b1 b2 xa na p q r v3 xc nc w) : Rw 5 1 v3 r.length (Lib.byteCells r) w := by
  obtain ⟨⟨v1, v2, ht⟩, _, _⟩ := h
  exact ht.c
end
/-- Ahead of a number that is refused: all in its place, and the document's refusal. -/
structure NegB (W : World) (b1 b2 xa na g g' : Nat) (p : List UInt8) (v3 : Value) (xc : Array Value) (w : World) : Prop where
  i : InB W b1 b2 xa na p p p v3 xc (nov 1 (some ⟨g', 0, none⟩) 1 1 (some ⟨g, 0, none⟩) 1 1) w
  c1 : CsIn g' 0 #[.string nmW, .string ⟨#[78, 117, 109, 98, 101, 114]⟩, .int .i64 (p.length : Int)] w
  c2 : CsIn g 0 #[.int .i64 1] w
theorem NegB.later {W w w' : World} {b1 b2 xa na g g' : Nat} {p : List UInt8} {v3 : Value} {xc : Array Value} (h : NegB W b1 b2 xa na g g' p v3 xc w) (hb : Below w.heap.size w w') : NegB W b1 b2 xa na g g' p v3 xc w' := ⟨h.i.later hb, h.c1.later hb, h.c2.later hb⟩
theorem number_n {b : Nat} {bs m2 F : List UInt8} {v : Value} {w : World} (h : WwAt b bs v w) (m : Nat) (hm : m < 9223372036854775808) (hlen : bs.length + 9 ≤ 140737488355328) (e : m2 = bs ++ F) (eF : F = formN m) :
    Calls Tryd.prog 8 #[.pointer (some ⟨b, 0, none⟩), .int .i64 (m : Int)] w fun e w' => e = .returned .nilIface ∧ PutW b m2 v w w' := by
  subst e eF
  have := number_ww h (m : Int) (by omega) (by omega) hlen
  rwa [Int.toNat_natCast] at this
theorem text_n {b : Nat} {bs m2 F : List UInt8} {v : Value} {w : World} (h : WwAt b bs v w) (s : ByteArray) (hlen : bs.length + 9 + s.size ≤ 140737488355328) (e : m2 = bs ++ F) (eF : F = formN s.size ++ s.data.toList) :
    Calls Tryd.prog 10 #[.pointer (some ⟨b, 0, none⟩), .string s] w fun e w' => e = .returned .nilIface ∧ PutW b m2 v w w' := by
  subst e eF
  exact text_ww h s hlen
theorem byte_n {b : Nat} {bs m2 : List UInt8} {c : UInt8} {v : Value} {w : World} (h : WwAt b bs v w) (hlen : bs.length + 1 ≤ 140737488355328) (e : m2 = bs ++ [c]) :
    Calls Tryd.prog 11 #[.pointer (some ⟨b, 0, none⟩), .int .u8 (c.toNat : Int)] w fun e w' => e = .returned (.tuple #[]) ∧ PutW b m2 v w w' := by
  subst e
  exact byte_ww h _ c rfl hlen
theorem app_grown {v : Value} {m bs f : List UInt8} {w : World} (hm : m = bs ++ f) (q : Rw 5 1 v (bs.length + f.length) (Lib.byteCells bs ++ Lib.byteCells f) w) : Rw 5 1 v m.length (Lib.byteCells m) w := by
  subst hm
  rw [List.length_append]
  simpa [Lib.byteCells] using q
theorem no_size3 : (Tryd.prog.info? 33).map (·.size) = some 3 := by kernel_rfl
theorem wpL_ldNo3 {ops : Array Oper} {rest : List Oper} {o : Oper} {a : Act} {w : World} {Q : Exit → Act → World → Prop} (hgd : o.guard = none) (x : Operand) (ho : o.op = .load 33 x) {b : Nat} (hx : a.eval x = .pointer (some ⟨b, 0, none⟩)) {n0 n1 n2 : Value} (h : RowAt b #[n0, n1, n2] 33 w)
    (K : wpList Tryd.prog ops Q rest (a.put o.dst (.agg #[n0, n1, n2])) w) : wpList Tryd.prog ops Q (o :: rest) a w :=
  wpList_plain hgd fun _ hK => by
    unfold Oper.wp execOp
    simp only [ho, hx, Instr.loadAt, Instr.sureAddr, Sem.run_bind, Sem.run_pure, Result.andThen_ok, run_loadVar_in h.in Tryd.underlying33 rfl no_size3]
    exact hK _ _ K
theorem newBytes {b : Nat} {bs : List UInt8} {v : Value} {x : World} (h : WwAt b bs v x) (hl : bs.length ≤ 140737488355328) : Calls Tryd.prog 14 #[.pointer (some ⟨b, 0, none⟩)] x fun e x' => ∃ u, e = .returned u ∧ SlB x' u bs ∧ Below x.heap.size x x' := by
  refine (bytes_ww h hl).mono ?_
  rintro e x' ⟨rfl, hg, hb⟩
  refine ⟨_, rfl, .inr ⟨_, 0, _, rfl, lt_of_heap hg, fun i b hi => ?_⟩, hb⟩
  rw [Nat.zero_add, cellW_of hg]
  simp [Lib.byteCells, hi]
theorem newLen {b N : Nat} {bs : List UInt8} {v : Value} {x : World} (hN : bs.length = N) (h : WwAt b bs v x) : Calls Tryd.prog 13 #[.pointer (some ⟨b, 0, none⟩)] x fun e x' => e = .returned (.int .i64 (N : Int)) ∧ Below x.heap.size x x' := by
  subst hN
  refine (len_ww h).mono ?_
  rintro e x' ⟨rfl, rfl⟩
  exact ⟨rfl, Below.refl _ _⟩

/-- Behind the loop: Bytes of the first, compared and spoilt; both again, and Len. -/
theorem spoil_new {w w2 : World} {n : Nat} {bs : List UInt8} (hn : n = bs.length) (hl : n ≤ 140737488355280) (hg : w2.heap[w.heap.size]? = some (.cells (Lib.byteCells bs).toArray 5 (0, 0))) (hb : Below w.heap.size w w2) :
    Calls Tryd.prog 15 #[.slice (some ⟨w.heap.size, 0, none⟩) n n] w2 fun e w' => (∃ z, e = .returned z) ∧ Below w.heap.size w w' := by
  subst hn
  have hR : Rw 5 1 (.slice (some ⟨w.heap.size, 0, none⟩) bs.length bs.length) bs.length (Lib.byteCells bs) w2 := ⟨by simp [Lib.byteCells], .inr ⟨_, _, _, rfl, hg, Nat.le_refl _, by unfold maxLen; omega, by simp [Lib.byteCells], by rw [Nat.mul_one]; exact List.take_of_length_le (by simp [Lib.byteCells])⟩⟩
  refine (spoilBytes_is hR (fun u hu => by obtain ⟨b, _, rfl⟩ := List.mem_map.1 hu; exact ⟨_, rfl⟩) hl).mono ?_
  rintro e w' ⟨h1, h2⟩
  exact ⟨h1, hb.trans (h2.below (n := w.heap.size) (fun s hs e => by have e' : w.heap.size = s := Option.some.inj e; omega) hb.size)⟩

set_option maxHeartbeats 8000000 in
theorem writes_ok {ad : Nat → Addr} {W : World} (L : Laid ad W) (v0 : Value) (l : List Itm) (h0 : SlI W v0 l) (hz : ∀ x ∈ l, x.s.size ≤ 140737488351232) :
    Calls Tryd.prog 3 #[v0] W fun e w' => e = .returned (.bool true) ∧ Below W.heap.size W w' := by
  obtain ⟨a0, c0, rfl⟩ : ∃ a c, v0 = .slice a l.length c := by
    rcases h0 with ⟨rfl, a, c, rfl⟩ | ⟨g, o, c, rfl, _⟩
    · exact ⟨a, c, rfl⟩
    · exact ⟨_, c, rfl⟩
  have HL := hid_of' (And.intro L (And.intro h0 hz))
  obtain ⟨i0, hi0, hz0, hz1, hz2⟩ := info_parts infoB
  have HZ := hid_of' (And.intro hi0 (And.intro hz0 (And.intro hz1 hz2)))
  clear hi0 hz0 hz1 hz2
  have HRf := hid_of' (fun (x : World) => refused_none none none 0 0 0 0 x)
  have hB0 := bgo (below_one W (.cells #[.slice none 0 0] 27)) (below_one _ (.cells #[.slice none 0 0] 27))
  have T0 : Tri W W.heap.size (W.heap.size + 1) [] [] [] (.slice none 0 0) (.slice none 0 0) (.slice none 0 0) ((W.alloc (.cells #[.slice none 0 0] 27)).alloc (.cells #[.slice none 0 0] 27)) :=
    ⟨(ww_new W).later (below_one _ _), by have := ww_new (W.alloc (.cells #[.slice none 0 0] 27)); simpa using this, Rw.nil _ _ _, by omega, (fun _ e => by cases e), (fun _ e => by cases e), (fun _ e => by cases e), (fun _ e => by cases e), (fun _ e => by cases e), (fun _ e => by cases e), by omega, by omega, hB0⟩
  clear L h0 hz hB0
  go_enter Tryd.func3, Tryd.ntmps3
  go_upto_region 3 with (go_at_call 4; refine (new_any _).mono ?_; rintro e w0 ⟨rfl, rfl⟩)
  go_upto_region 5 with fail
  generalize (W.alloc (.cells #[.slice none 0 0] 27)).alloc (.cells #[.slice none 0 0] 27) = w1 at T0 ⊢
  go_upto_region 7 with fail
  go_loopw [5, 6] (fun wv iv wr => ∃ (i : Nat) (bs : List UInt8) (wa : Option Addr) (wc : Nat) (v1 v2 : Value), wv = .slice wa bs.length wc ∧ iv = .int .i64 (i : Int) ∧ i ≤ l.length ∧ bs.length ≤ 140737488355280 ∧ Tri W W.heap.size (W.heap.size + 1) bs bs bs v1 v2 (.slice wa bs.length wc) wr) (fun _ iv _ => l.length - (intOf iv).toNat)
  case atStart => exact ⟨0, [], none, 0, _, _, rfl, rfl, Nat.zero_le _, by decide, T0⟩
  case round =>
    clear T0
    obtain ⟨i, bs, wa, wc, v1, v2, rfl, rfl, hi, hl, hT⟩ := hrel
    by_cases hgo : i < l.length ∧ i < 200 ∧ bs.length < 4000
    · obtain ⟨hlt, h200, h4000⟩ := hgo
      have hi1 : (i : Int) < (l.length : Int) := by omega
      have hi2 : (i : Int) < 200 := by omega
      have hi3 : (bs.length : Int) < 4000 := by omega
      have hx : l[i]? = some l[i] := List.getElem?_eq_getElem hlt
      generalize l[i] = x at hx
      obtain ⟨gx, ox, hga, hgl, hfit, hit⟩ : ∃ gx ox, a0 = some ⟨gx, ox, none⟩ ∧ gx < W.heap.size ∧ x.Fit ∧ ItAt W gx (ox + i * 4) x := by
        rcases HL.out.2.1 with ⟨h0, _⟩ | ⟨g, o, c, he, hg, hc⟩
        · rw [h0] at hlt; simp at hlt
        · simp only [Value.slice.injEq, true_and] at he
          exact ⟨g, o, he.1, hg, hc i x hx⟩
      subst hga
      have hsz := HL.out.2.2 x (List.mem_of_getElem? hx)
      have hcs := hit.cs.later hT.bel
      obtain ⟨⟨_, _⟩, ⟨hn1, hn2⟩, _⟩ := hfit
      obtain ⟨k, n, s, c⟩ := x
      dsimp only at hcs hsz hn1 hn2
      clear hx hit
      go_upto_region 10 with (first | (refine wpL_ldIt rfl _ rfl rfl hcs ?_) | (refine wpL_stIt rfl _ _ rfl rfl rfl rfl ?_))
      go_upto_region 12 with fail
      have hB1 := bgo (below_one wr (.cells (itv k n s c) 29)) (below_one _ (.cells #[.int .i64 0, .slice none 0 0, .slice none 0 0] 33))
      have hI : InB W W.heap.size (W.heap.size + 1) wr.heap.size (wr.heap.size + 1) bs bs bs (.slice wa bs.length wc) (itv k n s c) #[.int .i64 0, .slice none 0 0, .slice none 0 0] ((wr.alloc (.cells (itv k n s c) 29)).alloc (.cells #[.int .i64 0, .slice none 0 0, .slice none 0 0] 33)) :=
        ⟨⟨v1, v2, hT.later hB1⟩, (row_new wr _ _).later (below_one _ _), by have := row_new (wr.alloc (.cells (itv k n s c) 29)) #[.int .i64 0, .slice none 0 0, .slice none 0 0] 33; simpa using this⟩
      have hna : W.heap.size ≤ wr.heap.size + 1 := by have := hT.bel.size; omega
      generalize (wr.alloc (.cells (itv k n s c) 29)).alloc (.cells #[.int .i64 0, .slice none 0 0, .slice none 0 0] 33) = w1 at hI ⊢
      clear hT hcs hB1
      generalize wr.heap.size + 1 = na at hI hna ⊢
      generalize wr.heap.size = xa at hI ⊢
      have d0 : w1.cell? ⟨xa, 0, none⟩ = some (.int .i64 k) := hI.x.cell 0
      have d1 : w1.cell? ⟨xa, 1, none⟩ = some (.int .i64 n) := hI.x.cell 1
      have d2 : w1.cell? ⟨xa, 2, none⟩ = some (.string s) := hI.x.cell 2
      have d3 : w1.cell? ⟨xa, 3, none⟩ = some (.int .u8 (c.toNat : Int)) := hI.x.cell 3
      have HQ := hid_of' hI
      clear hI
      by_cases hk0 : k % 3 = 0
      · have hb0 : (k % 3 == 0) = true := by rw [hk0]; rfl
        by_cases hn0 : n < 0
        · have hpl : place (bs.length : Int) = (bs.length : Int) := if_neg (by omega)
          have HP := hid_of' hpl
          clear hpl
          go_upto_region 20 with (first | (go_at_call 5; refine (within3 k _).mono ?_; rintro e wz ⟨rfl, hz⟩; obtain rfl := hz.symm) | (go_at_call 6; refine (say_any _ _ (bs.length : Int) 1 _ rfl).mono ?_; rintro e w2 ⟨g, g', rfl, hg', hg, c1, c2, hb2⟩; have hI2 := HQ.out.later hb2) | (refine wpL_storeNo rfl _ _ rfl rfl rfl hI2.n ?_))
          have hnl := HQ.out.n.lt
          have hI3 := hI2.setNo hna (nov 1 (some ⟨g', 0, none⟩) 1 1 (some ⟨g, 0, none⟩) 1 1)
          have c1' := c1.other na (nov 1 (some ⟨g', 0, none⟩) 1 1 (some ⟨g, 0, none⟩) 1 1) (by omega)
          have c2' := c2.other na (nov 1 (some ⟨g', 0, none⟩) 1 1 (some ⟨g, 0, none⟩) 1 1) (by omega)
          rw [HP.out] at c1'
          generalize w2.setRow na (nov 1 (some ⟨g', 0, none⟩) 1 1 (some ⟨g, 0, none⟩) 1 1) = w3 at hI3 c1' c2' ⊢
          obtain ⟨M, hM⟩ : ∃ M, w3.heap.size = M := ⟨_, rfl⟩
          have HI3 := hid_of' (And.intro (show NegB W W.heap.size (W.heap.size + 1) xa na g g' bs (.slice wa bs.length wc) (itv k n s c) w3 from ⟨hI3, c1', c2'⟩) hM)
          clear hI2 hI3 c1 c2 c1' c2' hb2 hg hg' hnl hM
          have HA := hid_of' (show ∀ X, (fun X => NegB W W.heap.size (W.heap.size + 1) xa na g g' bs (.slice wa bs.length wc) (itv k n s c) X ∧ X.heap.size = M) X → Calls Tryd.prog 8 #[.pointer (some ⟨W.heap.size, 0, none⟩), .int .i64 n] X (fun e w' => e = .returned (refv M) ∧ (fun X => NegB W W.heap.size (W.heap.size + 1) xa na g g' bs (.slice wa bs.length wc) (itv k n s c) X ∧ X.heap.size = M + 1 ∧ FaultAt ad (M) nmW ⟨#[78, 117, 109, 98, 101, 114]⟩ (bs.length : Int) 0 X) w') from fun X ⟨h, hs⟩ => by
            obtain ⟨v1, v2, ht⟩ := h.i.tri
            refine (number_neg_ww ((lwOf (HL.out.1.below ht.bel)).var 0 (.inl rfl)) ht.a n hn0).mono ?_
            rintro e w' ⟨rfl, hf, hz, hb⟩
            rw [hs] at hf hz ⊢
            exact ⟨rfl, h.later hb, hz, hf⟩)
          have HB := hid_of' (show ∀ X, (fun X => NegB W W.heap.size (W.heap.size + 1) xa na g g' bs (.slice wa bs.length wc) (itv k n s c) X ∧ X.heap.size = M + 1 ∧ FaultAt ad (M) nmW ⟨#[78, 117, 109, 98, 101, 114]⟩ (bs.length : Int) 0 X) X → Calls Tryd.prog 8 #[.pointer (some ⟨W.heap.size + 1, 0, none⟩), .int .i64 n] X (fun e w' => e = .returned (refv (M + 1)) ∧ (fun X => NegB W W.heap.size (W.heap.size + 1) xa na g g' bs (.slice wa bs.length wc) (itv k n s c) X ∧ FaultAt ad (M) nmW ⟨#[78, 117, 109, 98, 101, 114]⟩ (bs.length : Int) 0 X ∧ FaultAt ad (M + 1) nmW ⟨#[78, 117, 109, 98, 101, 114]⟩ (bs.length : Int) 0 X) w') from fun X ⟨h, hs, hf1⟩ => by
            obtain ⟨v1, v2, ht⟩ := h.i.tri
            refine (number_neg_ww ((lwOf (HL.out.1.below ht.bel)).var 0 (.inl rfl)) ht.b n hn0).mono ?_
            rintro e w' ⟨rfl, hf, hz, hb⟩
            rw [hs] at hf ⊢
            exact ⟨rfl, h.later hb, RowAt.later hf1 hb, hf⟩)
          have HD := hid_of' (show ∀ X listed, RJ2 (fun X => NegB W W.heap.size (W.heap.size + 1) xa na g g' bs (.slice wa bs.length wc) (itv k n s c) X ∧ X.heap.size = M) (fun X => NegB W W.heap.size (W.heap.size + 1) xa na g g' bs (.slice wa bs.length wc) (itv k n s c) X ∧ X.heap.size = M + 1 ∧ FaultAt ad (M) nmW ⟨#[78, 117, 109, 98, 101, 114]⟩ (bs.length : Int) 0 X) (fun X => NegB W W.heap.size (W.heap.size + 1) xa na g g' bs (.slice wa bs.length wc) (itv k n s c) X ∧ FaultAt ad (M) nmW ⟨#[78, 117, 109, 98, 101, 114]⟩ (bs.length : Int) 0 X ∧ FaultAt ad (M + 1) nmW ⟨#[78, 117, 109, 98, 101, 114]⟩ (bs.length : Int) 0 X) listed X → X.cell? ⟨xa, 1, none⟩ = some (.int .i64 n) from fun X _ h => h.any (D := fun X => X.cell? ⟨xa, 1, none⟩ = some (.int .i64 n)) (fun _ h => h.1.i.x.cell 1) (fun _ h => h.1.i.x.cell 1) (fun _ h => h.1.i.x.cell 1))
          refine wp_region_invg' (by kernel_rfl) (fun z => match z with
            | 0 => .pointer (some ⟨W.heap.size, 0, none⟩)
            | 1 => .pointer (some ⟨xa, 1, none⟩)
            | 2 => .int .i64 n
            | 3 => refv M
            | 4 => .pointer (some ⟨W.heap.size + 1, 0, none⟩)
            | 5 => .pointer (some ⟨xa, 1, none⟩)
            | 6 => .int .i64 n
            | 7 => refv (M + 1)
            | 8 => refv M
            | _ => refv (M + 1)) (fun _ => none) (by kernel_rfl) (fun _ _ h => by cases h) (RJ2 (fun X => NegB W W.heap.size (W.heap.size + 1) xa na g g' bs (.slice wa bs.length wc) (itv k n s c) X ∧ X.heap.size = M) (fun X => NegB W W.heap.size (W.heap.size + 1) xa na g g' bs (.slice wa bs.length wc) (itv k n s c) X ∧ X.heap.size = M + 1 ∧ FaultAt ad (M) nmW ⟨#[78, 117, 109, 98, 101, 114]⟩ (bs.length : Int) 0 X) (fun X => NegB W W.heap.size (W.heap.size + 1) xa na g g' bs (.slice wa bs.length wc) (itv k n s c) X ∧ FaultAt ad (M) nmW ⟨#[78, 117, 109, 98, 101, 114]⟩ (bs.length : Int) 0 X ∧ FaultAt ad (M + 1) nmW ⟨#[78, 117, 109, 98, 101, 114]⟩ (bs.length : Int) 0 X)) ⟨fun _ => ⟨HI3.out.1.later (below_drewN _ 1), HI3.out.2⟩, fun h => absurd ((rep_getD _ _).symm.trans h) (by decide), fun h => absurd ((rep_getD _ _).symm.trans h) (by decide), fun h => absurd ((rep_getD _ _).symm.trans h) (by decide)⟩ ?_ ?_
          · intro ii o ho listed y X hT hsz0 hun haft hdf hb hbo
            match ii, ho with
            | 0, ho =>
              simp only [List.getElem?_toArray, List.getElem?_cons_zero, Option.some.injEq] at ho
              subst ho
              have u : y.tmps[3]? = some (.pointer (some ⟨W.heap.size, 0, none⟩)) := by rw [hbo 3 (by kernel_rfl)]; rfl
              unfold Oper.wp
              simp [go_sem, u]
              exact hT.same 0 (by decide) (by decide)
            | 1, ho =>
              simp only [List.getElem?_toArray, List.getElem?_cons_succ, List.getElem?_cons_zero, Option.some.injEq] at ho
              subst ho
              have u : y.tmps[7]? = some (.pointer (some ⟨xa, 0, none⟩)) := by rw [hbo 7 (by kernel_rfl)]; rfl
              unfold Oper.wp
              simp [go_sem, u]
              exact hT.same 1 (by decide) (by decide)
            | 2, ho =>
              simp only [List.getElem?_toArray, List.getElem?_cons_succ, List.getElem?_cons_zero, Option.some.injEq] at ho
              subst ho
              have u1 : y.tmps[66]? = some (.pointer (some ⟨xa, 1, none⟩)) := hb 1 _ 66 rfl rfl (haft ⟨1, .data⟩ (by simp) rfl)
              have d := HD.out X _ hT
              unfold Oper.wp
              simp [go_sem, u1, d]
              exact hT.same 2 (by decide) (by decide)
            | 3, ho =>
              simp only [List.getElem?_toArray, List.getElem?_cons_succ, List.getElem?_cons_zero, Option.some.injEq] at ho
              subst ho
              have u0 : y.tmps[65]? = some (.pointer (some ⟨W.heap.size, 0, none⟩)) := hb 0 _ 65 rfl rfl (haft ⟨0, .data⟩ (by simp) rfl)
              have u2 : y.tmps[67]? = some (.int .i64 n) := hb 2 _ 67 rfl rfl (haft ⟨2, .data⟩ (by simp) rfl)
              unfold Oper.wp
              simp [go_sem, u0, u2]
              refine (HA.out X (hT.at0 (getD_flip hun))).mono ?_
              rintro e x1 ⟨rfl, h1⟩
              exact ⟨rfl, hT.first (getD_flip hun) (by rw [hsz0]; decide) h1⟩
            | 4, ho =>
              simp only [List.getElem?_toArray, List.getElem?_cons_succ, List.getElem?_cons_zero, Option.some.injEq] at ho
              subst ho
              have u : y.tmps[4]? = some (.pointer (some ⟨W.heap.size + 1, 0, none⟩)) := by rw [hbo 4 (by kernel_rfl)]; rfl
              unfold Oper.wp
              simp [go_sem, u]
              exact hT.same 4 (by decide) (by decide)
            | 5, ho =>
              simp only [List.getElem?_toArray, List.getElem?_cons_succ, List.getElem?_cons_zero, Option.some.injEq] at ho
              subst ho
              have u : y.tmps[7]? = some (.pointer (some ⟨xa, 0, none⟩)) := by rw [hbo 7 (by kernel_rfl)]; rfl
              unfold Oper.wp
              simp [go_sem, u]
              exact hT.same 5 (by decide) (by decide)
            | 6, ho =>
              simp only [List.getElem?_toArray, List.getElem?_cons_succ, List.getElem?_cons_zero, Option.some.injEq] at ho
              subst ho
              have u5 : y.tmps[70]? = some (.pointer (some ⟨xa, 1, none⟩)) := hb 5 _ 70 rfl rfl (haft ⟨5, .data⟩ (by simp) rfl)
              have d := HD.out X _ hT
              unfold Oper.wp
              simp [go_sem, u5, d]
              exact hT.same 6 (by decide) (by decide)
            | 7, ho =>
              simp only [List.getElem?_toArray, List.getElem?_cons_succ, List.getElem?_cons_zero, Option.some.injEq] at ho
              subst ho
              have u4 : y.tmps[69]? = some (.pointer (some ⟨W.heap.size + 1, 0, none⟩)) := hb 4 _ 69 rfl rfl (haft ⟨4, .data⟩ (by simp) rfl)
              have u6 : y.tmps[71]? = some (.int .i64 n) := hb 6 _ 71 rfl rfl (haft ⟨6, .data⟩ (by simp) rfl)
              unfold Oper.wp
              simp [go_sem, u4, u6]
              refine (HB.out X (hT.b (haft ⟨3, .chain⟩ (by simp) rfl) (getD_flip hun))).mono ?_
              rintro e x1 ⟨rfl, h1⟩
              exact ⟨rfl, hT.second (haft ⟨3, .chain⟩ (by simp) rfl) (by rw [hsz0]; decide) h1⟩
            | 8, ho =>
              simp only [List.getElem?_toArray, List.getElem?_cons_succ, List.getElem?_cons_zero, Option.some.injEq] at ho
              subst ho
              have u3 : y.tmps[68]? = some (refv M) := hb 3 _ 68 rfl rfl (haft ⟨3, .data⟩ (by simp) rfl)
              unfold Oper.wp
              simp [go_sem, u3]
              exact hT.same 8 (by decide) (by decide)
            | 9, ho =>
              simp only [List.getElem?_toArray, List.getElem?_cons_succ, List.getElem?_cons_zero, Option.some.injEq] at ho
              subst ho
              have u7 : y.tmps[72]? = some (refv (M + 1)) := hb 7 _ 72 rfl rfl (haft ⟨7, .data⟩ (by simp) rfl)
              unfold Oper.wp
              simp [go_sem, u7]
              exact hT.same 9 (by decide) (by decide)
            | m + 10, ho => simp at ho
          · intro listed y X hall hT hs hdf hb hbo
            have hfin := hT.c (hall 7 (by decide))
            obtain rfl := frame_is hs hdf hb hbo
            simp only [putAll]
            have HF := hid_of' hfin
            clear hall hT hs hdf hb hbo hfin
            obtain ⟨⟨⟨⟨v1', v2', hT9⟩, hX9, hN9⟩, k1, k2⟩, f1, f2⟩ := HF.out
            have hL9 := HL.out.1.below hT9.bel
            have HR1 := hid_of' (show ∀ x, Below X.heap.size X x → Calls Tryd.prog 12 #[refv M, .agg #[.int .i64 1, .slice (some ⟨g', 0, none⟩) 1 1, .slice (some ⟨g, 0, none⟩) 1 1]] x (fun e w' => e = .returned (.bool true) ∧ Below x.heap.size x w') from fun x hx => refused_some (hL9.below hx) (RowAt.later f1 hx) (by decide) (k1.later hx) (k2.later hx))
            have HR2 := hid_of' (show ∀ x, Below X.heap.size X x → Calls Tryd.prog 12 #[refv (M + 1), .agg #[.int .i64 1, .slice (some ⟨g', 0, none⟩) 1 1, .slice (some ⟨g, 0, none⟩) 1 1]] x (fun e w' => e = .returned (.bool true) ∧ Below x.heap.size x w') from fun x hx => refused_some (hL9.below hx) (RowAt.later f2 hx) (by decide) (k1.later hx) (k2.later hx))
            have HE := hid_of' hT9
            clear hT9 hX9 k1 k2 f1 f2 hL9
            go_wp2_with (first
              | (refine wpL_ldNo3 rfl _ rfl rfl (by first | exact hN9.later hb9 | exact hN9) ?_)
              | (go_at_call 12; refine (HR2.out _ hb9).mono ?_; rintro e w10 ⟨rfl, hb10⟩; have HC := hid_of' (HE.out.later (bgo hb9 hb10)))
              | (go_at_call 12; refine (HR1.out _ (Below.refl _ _)).mono ?_; rintro e w9 ⟨rfl, hb9⟩; have n0 : w9.cell? ⟨na, 0, none⟩ = some (.int .i64 1) := (hN9.later hb9).cell 0; have n1 : w9.cell? ⟨na, 1, none⟩ = some (.slice (some ⟨g', 0, none⟩) 1 1) := (hN9.later hb9).cell 1; have n2 : w9.cell? ⟨na, 2, none⟩ = some (.slice (some ⟨g, 0, none⟩) 1 1) := (hN9.later hb9).cell 2)
              | (go_at_call 13; refine (newLen rfl HC.out.a).mono ?_; rintro e w11 ⟨rfl, hb11⟩))
            go_roundw
            case rel => exact ⟨i + 1, bs, wa, wc, v1', v2', rfl, by go_num, by omega, by omega, HC.out.later hb11⟩
            case measure => simp [intOf]; omega
        · obtain ⟨m, rfl⟩ : ∃ m : Nat, n = (m : Int) := ⟨n.toNat, by omega⟩
          go_upto_region 20 with (first | (go_at_call 5; refine (within3 k _).mono ?_; rintro e wz ⟨rfl, hz⟩; obtain rfl := hz.symm) | (go_at_call 7; refine (refForm_ww m (by omega) _).mono ?_; rintro e w2 ⟨vf, rfl, hF⟩; obtain ⟨F, hFm⟩ : ∃ F, F = formN m := ⟨_, rfl⟩; rw [← hFm] at hF; have HFm := hid_of' hFm; have hFl : F.length ≤ 9 + s.size := (by have h9 := form_len9 (m) (by omega); have e9 := size_list s; rw [hFm]; omega); clear hFm; obtain ⟨fa, fc, rfl, _, _⟩ := hF.own.form; have hI2 := HQ.out.later hF.below; have HO := hid_of' (And.intro hI2.row (And.intro hF.own.so (show bs.length + F.length ≤ 140737488355280 by omega)))) | (at_builtin; refine wpL_app (P := Tryd.prog) rfl _ _ 25 rfl 5 i0 _ 1 1 Tryd.underlying25 HZ.out.1 HZ.out.2.1 HZ.out.2.2.1 HZ.out.2.2.2 rfl rfl rfl HO.out.1 HO.out.2.1 (byteCells_one _) (by have := HO.out.2.2; unfold maxLen; omega) (by have := HO.out.2.2; omega) ?_; intro v3 w3 q1 q2 q3; obtain ⟨m2, hm2⟩ : ∃ m2, m2 = bs ++ F := ⟨_, rfl⟩; have q1' := app_grown hm2 q1; obtain ⟨va, vc, rfl, _, _⟩ := q1'.form; have HI3 := hid_of' (And.intro (hI2.three q1' q2 q3) hm2); clear q1 q1' q2 q3 hm2))
          have HM := hid_of' (show m2.length ≤ 140737488355280 by have := HI3.out.2; rw [this, List.length_append]; exact HO.out.2.2)
          have HA := hid_of' (show ∀ X, (fun X => InB W W.heap.size (W.heap.size + 1) xa na bs bs m2 (.slice va m2.length vc) (itv k (m : Int) s c) #[.int .i64 0, .slice none 0 0, .slice none 0 0] X) X → Calls Tryd.prog 8 #[.pointer (some ⟨W.heap.size, 0, none⟩), .int .i64 (m : Int)] X (fun e w' => e = .returned .nilIface ∧ (fun X => InB W W.heap.size (W.heap.size + 1) xa na m2 bs m2 (.slice va m2.length vc) (itv k (m : Int) s c) #[.int .i64 0, .slice none 0 0, .slice none 0 0] X) w') from fun X h => InB.one h (fun _ hv => number_n hv m (by omega) (by omega) HI3.out.2 HFm.out))
          have HB := hid_of' (show ∀ X, (fun X => InB W W.heap.size (W.heap.size + 1) xa na m2 bs m2 (.slice va m2.length vc) (itv k (m : Int) s c) #[.int .i64 0, .slice none 0 0, .slice none 0 0] X) X → Calls Tryd.prog 8 #[.pointer (some ⟨W.heap.size + 1, 0, none⟩), .int .i64 (m : Int)] X (fun e w' => e = .returned .nilIface ∧ (fun X => InB W W.heap.size (W.heap.size + 1) xa na m2 m2 m2 (.slice va m2.length vc) (itv k (m : Int) s c) #[.int .i64 0, .slice none 0 0, .slice none 0 0] X) w') from fun X h => InB.two h (fun _ hv => number_n hv m (by omega) (by omega) HI3.out.2 HFm.out))
          have HD := hid_of' (show ∀ X listed, RJ2 (fun X => InB W W.heap.size (W.heap.size + 1) xa na bs bs m2 (.slice va m2.length vc) (itv k (m : Int) s c) #[.int .i64 0, .slice none 0 0, .slice none 0 0] X) (fun X => InB W W.heap.size (W.heap.size + 1) xa na m2 bs m2 (.slice va m2.length vc) (itv k (m : Int) s c) #[.int .i64 0, .slice none 0 0, .slice none 0 0] X) (fun X => InB W W.heap.size (W.heap.size + 1) xa na m2 m2 m2 (.slice va m2.length vc) (itv k (m : Int) s c) #[.int .i64 0, .slice none 0 0, .slice none 0 0] X) listed X → X.cell? ⟨xa, 1, none⟩ = some (.int .i64 (m : Int)) from fun X _ h => h.any (D := fun X => X.cell? ⟨xa, 1, none⟩ = some (.int .i64 (m : Int))) (fun _ h => h.x.cell 1) (fun _ h => h.x.cell 1) (fun _ h => h.x.cell 1))
          refine wp_region_invg' (by kernel_rfl) (fun z => match z with
            | 0 => .pointer (some ⟨W.heap.size, 0, none⟩)
            | 1 => .pointer (some ⟨xa, 1, none⟩)
            | 2 => .int .i64 (m : Int)
            | 3 => .nilIface
            | 4 => .pointer (some ⟨W.heap.size + 1, 0, none⟩)
            | 5 => .pointer (some ⟨xa, 1, none⟩)
            | 6 => .int .i64 (m : Int)
            | 7 => .nilIface
            | 8 => .nilIface
            | _ => .nilIface) (fun _ => none) (by kernel_rfl) (fun _ _ h => by cases h) (RJ2 (fun X => InB W W.heap.size (W.heap.size + 1) xa na bs bs m2 (.slice va m2.length vc) (itv k (m : Int) s c) #[.int .i64 0, .slice none 0 0, .slice none 0 0] X) (fun X => InB W W.heap.size (W.heap.size + 1) xa na m2 bs m2 (.slice va m2.length vc) (itv k (m : Int) s c) #[.int .i64 0, .slice none 0 0, .slice none 0 0] X) (fun X => InB W W.heap.size (W.heap.size + 1) xa na m2 m2 m2 (.slice va m2.length vc) (itv k (m : Int) s c) #[.int .i64 0, .slice none 0 0, .slice none 0 0] X)) ⟨fun _ => HI3.out.1.later (below_drewN _ 1), fun h => absurd ((rep_getD _ _).symm.trans h) (by decide), fun h => absurd ((rep_getD _ _).symm.trans h) (by decide), fun h => absurd ((rep_getD _ _).symm.trans h) (by decide)⟩ ?_ ?_
          · intro ii o ho listed y X hT hsz0 hun haft hdf hb hbo
            match ii, ho with
            | 0, ho =>
              simp only [List.getElem?_toArray, List.getElem?_cons_zero, Option.some.injEq] at ho
              subst ho
              have u : y.tmps[3]? = some (.pointer (some ⟨W.heap.size, 0, none⟩)) := by rw [hbo 3 (by kernel_rfl)]; rfl
              unfold Oper.wp
              simp [go_sem, u]
              exact hT.same 0 (by decide) (by decide)
            | 1, ho =>
              simp only [List.getElem?_toArray, List.getElem?_cons_succ, List.getElem?_cons_zero, Option.some.injEq] at ho
              subst ho
              have u : y.tmps[7]? = some (.pointer (some ⟨xa, 0, none⟩)) := by rw [hbo 7 (by kernel_rfl)]; rfl
              unfold Oper.wp
              simp [go_sem, u]
              exact hT.same 1 (by decide) (by decide)
            | 2, ho =>
              simp only [List.getElem?_toArray, List.getElem?_cons_succ, List.getElem?_cons_zero, Option.some.injEq] at ho
              subst ho
              have u1 : y.tmps[66]? = some (.pointer (some ⟨xa, 1, none⟩)) := hb 1 _ 66 rfl rfl (haft ⟨1, .data⟩ (by simp) rfl)
              have d := HD.out X _ hT
              unfold Oper.wp
              simp [go_sem, u1, d]
              exact hT.same 2 (by decide) (by decide)
            | 3, ho =>
              simp only [List.getElem?_toArray, List.getElem?_cons_succ, List.getElem?_cons_zero, Option.some.injEq] at ho
              subst ho
              have u0 : y.tmps[65]? = some (.pointer (some ⟨W.heap.size, 0, none⟩)) := hb 0 _ 65 rfl rfl (haft ⟨0, .data⟩ (by simp) rfl)
              have u2 : y.tmps[67]? = some (.int .i64 (m : Int)) := hb 2 _ 67 rfl rfl (haft ⟨2, .data⟩ (by simp) rfl)
              unfold Oper.wp
              simp [go_sem, u0, u2]
              refine (HA.out X (hT.at0 (getD_flip hun))).mono ?_
              rintro e x1 ⟨rfl, h1⟩
              exact ⟨rfl, hT.first (getD_flip hun) (by rw [hsz0]; decide) h1⟩
            | 4, ho =>
              simp only [List.getElem?_toArray, List.getElem?_cons_succ, List.getElem?_cons_zero, Option.some.injEq] at ho
              subst ho
              have u : y.tmps[4]? = some (.pointer (some ⟨W.heap.size + 1, 0, none⟩)) := by rw [hbo 4 (by kernel_rfl)]; rfl
              unfold Oper.wp
              simp [go_sem, u]
              exact hT.same 4 (by decide) (by decide)
            | 5, ho =>
              simp only [List.getElem?_toArray, List.getElem?_cons_succ, List.getElem?_cons_zero, Option.some.injEq] at ho
              subst ho
              have u : y.tmps[7]? = some (.pointer (some ⟨xa, 0, none⟩)) := by rw [hbo 7 (by kernel_rfl)]; rfl
              unfold Oper.wp
              simp [go_sem, u]
              exact hT.same 5 (by decide) (by decide)
            | 6, ho =>
              simp only [List.getElem?_toArray, List.getElem?_cons_succ, List.getElem?_cons_zero, Option.some.injEq] at ho
              subst ho
              have u5 : y.tmps[70]? = some (.pointer (some ⟨xa, 1, none⟩)) := hb 5 _ 70 rfl rfl (haft ⟨5, .data⟩ (by simp) rfl)
              have d := HD.out X _ hT
              unfold Oper.wp
              simp [go_sem, u5, d]
              exact hT.same 6 (by decide) (by decide)
            | 7, ho =>
              simp only [List.getElem?_toArray, List.getElem?_cons_succ, List.getElem?_cons_zero, Option.some.injEq] at ho
              subst ho
              have u4 : y.tmps[69]? = some (.pointer (some ⟨W.heap.size + 1, 0, none⟩)) := hb 4 _ 69 rfl rfl (haft ⟨4, .data⟩ (by simp) rfl)
              have u6 : y.tmps[71]? = some (.int .i64 (m : Int)) := hb 6 _ 71 rfl rfl (haft ⟨6, .data⟩ (by simp) rfl)
              unfold Oper.wp
              simp [go_sem, u4, u6]
              refine (HB.out X (hT.b (haft ⟨3, .chain⟩ (by simp) rfl) (getD_flip hun))).mono ?_
              rintro e x1 ⟨rfl, h1⟩
              exact ⟨rfl, hT.second (haft ⟨3, .chain⟩ (by simp) rfl) (by rw [hsz0]; decide) h1⟩
            | 8, ho =>
              simp only [List.getElem?_toArray, List.getElem?_cons_succ, List.getElem?_cons_zero, Option.some.injEq] at ho
              subst ho
              have u3 : y.tmps[68]? = some (.nilIface) := hb 3 _ 68 rfl rfl (haft ⟨3, .data⟩ (by simp) rfl)
              unfold Oper.wp
              simp [go_sem, u3]
              exact hT.same 8 (by decide) (by decide)
            | 9, ho =>
              simp only [List.getElem?_toArray, List.getElem?_cons_succ, List.getElem?_cons_zero, Option.some.injEq] at ho
              subst ho
              have u7 : y.tmps[72]? = some (.nilIface) := hb 7 _ 72 rfl rfl (haft ⟨7, .data⟩ (by simp) rfl)
              unfold Oper.wp
              simp [go_sem, u7]
              exact hT.same 9 (by decide) (by decide)
            | m + 10, ho => simp at ho
          · intro listed y X hall hT hs hdf hb hbo
            have hfin := hT.c (hall 7 (by decide))
            obtain rfl := frame_is hs hdf hb hbo
            simp only [putAll, List.setIfInBounds_toArray, List.set_cons_succ, List.set_cons_zero]
            have HF := hid_of' hfin
            clear hall hT hs hdf hb hbo hfin
            obtain ⟨⟨v1', v2', hT9⟩, hX9, hN9⟩ := HF.out
            have HE := hid_of' hT9
            clear hT9 hX9
            go_wp2_with (first
              | (refine wpL_ldNo3 rfl _ rfl rfl (by first | exact hN9.later hb9 | exact hN9) ?_)
              | (go_at_call 12; refine (HRf.out _).mono ?_; rintro e w10 ⟨rfl, hb10⟩; have HC := hid_of' (HE.out.later (bgo hb9 hb10)))
              | (go_at_call 12; refine (HRf.out _).mono ?_; rintro e w9 ⟨rfl, hb9⟩; have n0 : w9.cell? ⟨na, 0, none⟩ = some (.int .i64 0) := (hN9.later hb9).cell 0; have n1 : w9.cell? ⟨na, 1, none⟩ = some (.slice none 0 0) := (hN9.later hb9).cell 1; have n2 : w9.cell? ⟨na, 2, none⟩ = some (.slice none 0 0) := (hN9.later hb9).cell 2)
              | (go_at_call 13; refine (newLen rfl HC.out.a).mono ?_; rintro e w11 ⟨rfl, hb11⟩))
            go_roundw
            case rel => exact ⟨i + 1, m2, va, vc, v1', v2', rfl, by go_num, by omega, HM.out, HC.out.later hb11⟩
            case measure => simp [intOf]; omega
      · have hb0 : (k % 3 == 0) = false := by simpa using hk0
        by_cases hk1 : k % 3 = 1
        · have hb1 : (k % 3 == 1) = true := by rw [hk1]; rfl
          go_upto_region 23 with (first | (go_at_call 5; refine (within3 k _).mono ?_; rintro e wz ⟨rfl, hz⟩; obtain rfl := hz.symm) | (go_at_call 9; refine (refText_ww s (by omega) _).mono ?_; rintro e w2 ⟨vf, rfl, hF⟩; obtain ⟨F, hFm⟩ : ∃ F, F = formN s.size ++ s.data.toList := ⟨_, rfl⟩; rw [← hFm] at hF; have HFm := hid_of' hFm; have hFl : F.length ≤ 9 + s.size := (by have h9 := form_len9 (s.size) (by omega); have e9 := size_list s; rw [hFm]; rw [List.length_append]; omega); clear hFm; obtain ⟨fa, fc, rfl, _, _⟩ := hF.own.form; have hI2 := HQ.out.later hF.below; have HO := hid_of' (And.intro hI2.row (And.intro hF.own.so (show bs.length + F.length ≤ 140737488355280 by omega)))) | (at_builtin; refine wpL_app (P := Tryd.prog) rfl _ _ 25 rfl 5 i0 _ 1 1 Tryd.underlying25 HZ.out.1 HZ.out.2.1 HZ.out.2.2.1 HZ.out.2.2.2 rfl rfl rfl HO.out.1 HO.out.2.1 (byteCells_one _) (by have := HO.out.2.2; unfold maxLen; omega) (by have := HO.out.2.2; omega) ?_; intro v3 w3 q1 q2 q3; obtain ⟨m2, hm2⟩ : ∃ m2, m2 = bs ++ F := ⟨_, rfl⟩; have q1' := app_grown hm2 q1; obtain ⟨va, vc, rfl, _, _⟩ := q1'.form; have HI3 := hid_of' (And.intro (hI2.three q1' q2 q3) hm2); clear q1 q1' q2 q3 hm2))
          have HM := hid_of' (show m2.length ≤ 140737488355280 by have := HI3.out.2; rw [this, List.length_append]; exact HO.out.2.2)
          have HA := hid_of' (show ∀ X, (fun X => InB W W.heap.size (W.heap.size + 1) xa na bs bs m2 (.slice va m2.length vc) (itv k n s c) #[.int .i64 0, .slice none 0 0, .slice none 0 0] X) X → Calls Tryd.prog 10 #[.pointer (some ⟨W.heap.size, 0, none⟩), .string s] X (fun e w' => e = .returned .nilIface ∧ (fun X => InB W W.heap.size (W.heap.size + 1) xa na m2 bs m2 (.slice va m2.length vc) (itv k n s c) #[.int .i64 0, .slice none 0 0, .slice none 0 0] X) w') from fun X h => InB.one h (fun _ hv => text_n hv s (by omega) HI3.out.2 HFm.out))
          have HB := hid_of' (show ∀ X, (fun X => InB W W.heap.size (W.heap.size + 1) xa na m2 bs m2 (.slice va m2.length vc) (itv k n s c) #[.int .i64 0, .slice none 0 0, .slice none 0 0] X) X → Calls Tryd.prog 10 #[.pointer (some ⟨W.heap.size + 1, 0, none⟩), .string s] X (fun e w' => e = .returned .nilIface ∧ (fun X => InB W W.heap.size (W.heap.size + 1) xa na m2 m2 m2 (.slice va m2.length vc) (itv k n s c) #[.int .i64 0, .slice none 0 0, .slice none 0 0] X) w') from fun X h => InB.two h (fun _ hv => text_n hv s (by omega) HI3.out.2 HFm.out))
          have HD := hid_of' (show ∀ X listed, RJ2 (fun X => InB W W.heap.size (W.heap.size + 1) xa na bs bs m2 (.slice va m2.length vc) (itv k n s c) #[.int .i64 0, .slice none 0 0, .slice none 0 0] X) (fun X => InB W W.heap.size (W.heap.size + 1) xa na m2 bs m2 (.slice va m2.length vc) (itv k n s c) #[.int .i64 0, .slice none 0 0, .slice none 0 0] X) (fun X => InB W W.heap.size (W.heap.size + 1) xa na m2 m2 m2 (.slice va m2.length vc) (itv k n s c) #[.int .i64 0, .slice none 0 0, .slice none 0 0] X) listed X → X.cell? ⟨xa, 2, none⟩ = some (.string s) from fun X _ h => h.any (D := fun X => X.cell? ⟨xa, 2, none⟩ = some (.string s)) (fun _ h => h.x.cell 2) (fun _ h => h.x.cell 2) (fun _ h => h.x.cell 2))
          refine wp_region_invg' (by kernel_rfl) (fun z => match z with
            | 0 => .pointer (some ⟨W.heap.size, 0, none⟩)
            | 1 => .pointer (some ⟨xa, 2, none⟩)
            | 2 => .string s
            | 3 => .nilIface
            | 4 => .pointer (some ⟨W.heap.size + 1, 0, none⟩)
            | 5 => .pointer (some ⟨xa, 2, none⟩)
            | 6 => .string s
            | 7 => .nilIface
            | 8 => .nilIface
            | _ => .nilIface) (fun _ => none) (by kernel_rfl) (fun _ _ h => by cases h) (RJ2 (fun X => InB W W.heap.size (W.heap.size + 1) xa na bs bs m2 (.slice va m2.length vc) (itv k n s c) #[.int .i64 0, .slice none 0 0, .slice none 0 0] X) (fun X => InB W W.heap.size (W.heap.size + 1) xa na m2 bs m2 (.slice va m2.length vc) (itv k n s c) #[.int .i64 0, .slice none 0 0, .slice none 0 0] X) (fun X => InB W W.heap.size (W.heap.size + 1) xa na m2 m2 m2 (.slice va m2.length vc) (itv k n s c) #[.int .i64 0, .slice none 0 0, .slice none 0 0] X)) ⟨fun _ => HI3.out.1.later (below_drewN _ 1), fun h => absurd ((rep_getD _ _).symm.trans h) (by decide), fun h => absurd ((rep_getD _ _).symm.trans h) (by decide), fun h => absurd ((rep_getD _ _).symm.trans h) (by decide)⟩ ?_ ?_
          · intro ii o ho listed y X hT hsz0 hun haft hdf hb hbo
            match ii, ho with
            | 0, ho =>
              simp only [List.getElem?_toArray, List.getElem?_cons_zero, Option.some.injEq] at ho
              subst ho
              have u : y.tmps[3]? = some (.pointer (some ⟨W.heap.size, 0, none⟩)) := by rw [hbo 3 (by kernel_rfl)]; rfl
              unfold Oper.wp
              simp [go_sem, u]
              exact hT.same 0 (by decide) (by decide)
            | 1, ho =>
              simp only [List.getElem?_toArray, List.getElem?_cons_succ, List.getElem?_cons_zero, Option.some.injEq] at ho
              subst ho
              have u : y.tmps[7]? = some (.pointer (some ⟨xa, 0, none⟩)) := by rw [hbo 7 (by kernel_rfl)]; rfl
              unfold Oper.wp
              simp [go_sem, u]
              exact hT.same 1 (by decide) (by decide)
            | 2, ho =>
              simp only [List.getElem?_toArray, List.getElem?_cons_succ, List.getElem?_cons_zero, Option.some.injEq] at ho
              subst ho
              have u1 : y.tmps[81]? = some (.pointer (some ⟨xa, 2, none⟩)) := hb 1 _ 81 rfl rfl (haft ⟨1, .data⟩ (by simp) rfl)
              have d := HD.out X _ hT
              unfold Oper.wp
              simp [go_sem, u1, d]
              exact hT.same 2 (by decide) (by decide)
            | 3, ho =>
              simp only [List.getElem?_toArray, List.getElem?_cons_succ, List.getElem?_cons_zero, Option.some.injEq] at ho
              subst ho
              have u0 : y.tmps[80]? = some (.pointer (some ⟨W.heap.size, 0, none⟩)) := hb 0 _ 80 rfl rfl (haft ⟨0, .data⟩ (by simp) rfl)
              have u2 : y.tmps[82]? = some (.string s) := hb 2 _ 82 rfl rfl (haft ⟨2, .data⟩ (by simp) rfl)
              unfold Oper.wp
              simp [go_sem, u0, u2]
              refine (HA.out X (hT.at0 (getD_flip hun))).mono ?_
              rintro e x1 ⟨rfl, h1⟩
              exact ⟨rfl, hT.first (getD_flip hun) (by rw [hsz0]; decide) h1⟩
            | 4, ho =>
              simp only [List.getElem?_toArray, List.getElem?_cons_succ, List.getElem?_cons_zero, Option.some.injEq] at ho
              subst ho
              have u : y.tmps[4]? = some (.pointer (some ⟨W.heap.size + 1, 0, none⟩)) := by rw [hbo 4 (by kernel_rfl)]; rfl
              unfold Oper.wp
              simp [go_sem, u]
              exact hT.same 4 (by decide) (by decide)
            | 5, ho =>
              simp only [List.getElem?_toArray, List.getElem?_cons_succ, List.getElem?_cons_zero, Option.some.injEq] at ho
              subst ho
              have u : y.tmps[7]? = some (.pointer (some ⟨xa, 0, none⟩)) := by rw [hbo 7 (by kernel_rfl)]; rfl
              unfold Oper.wp
              simp [go_sem, u]
              exact hT.same 5 (by decide) (by decide)
            | 6, ho =>
              simp only [List.getElem?_toArray, List.getElem?_cons_succ, List.getElem?_cons_zero, Option.some.injEq] at ho
              subst ho
              have u5 : y.tmps[85]? = some (.pointer (some ⟨xa, 2, none⟩)) := hb 5 _ 85 rfl rfl (haft ⟨5, .data⟩ (by simp) rfl)
              have d := HD.out X _ hT
              unfold Oper.wp
              simp [go_sem, u5, d]
              exact hT.same 6 (by decide) (by decide)
            | 7, ho =>
              simp only [List.getElem?_toArray, List.getElem?_cons_succ, List.getElem?_cons_zero, Option.some.injEq] at ho
              subst ho
              have u4 : y.tmps[84]? = some (.pointer (some ⟨W.heap.size + 1, 0, none⟩)) := hb 4 _ 84 rfl rfl (haft ⟨4, .data⟩ (by simp) rfl)
              have u6 : y.tmps[86]? = some (.string s) := hb 6 _ 86 rfl rfl (haft ⟨6, .data⟩ (by simp) rfl)
              unfold Oper.wp
              simp [go_sem, u4, u6]
              refine (HB.out X (hT.b (haft ⟨3, .chain⟩ (by simp) rfl) (getD_flip hun))).mono ?_
              rintro e x1 ⟨rfl, h1⟩
              exact ⟨rfl, hT.second (haft ⟨3, .chain⟩ (by simp) rfl) (by rw [hsz0]; decide) h1⟩
            | 8, ho =>
              simp only [List.getElem?_toArray, List.getElem?_cons_succ, List.getElem?_cons_zero, Option.some.injEq] at ho
              subst ho
              have u3 : y.tmps[83]? = some (.nilIface) := hb 3 _ 83 rfl rfl (haft ⟨3, .data⟩ (by simp) rfl)
              unfold Oper.wp
              simp [go_sem, u3]
              exact hT.same 8 (by decide) (by decide)
            | 9, ho =>
              simp only [List.getElem?_toArray, List.getElem?_cons_succ, List.getElem?_cons_zero, Option.some.injEq] at ho
              subst ho
              have u7 : y.tmps[87]? = some (.nilIface) := hb 7 _ 87 rfl rfl (haft ⟨7, .data⟩ (by simp) rfl)
              unfold Oper.wp
              simp [go_sem, u7]
              exact hT.same 9 (by decide) (by decide)
            | m + 10, ho => simp at ho
          · intro listed y X hall hT hs hdf hb hbo
            have hfin := hT.c (hall 7 (by decide))
            obtain rfl := frame_is hs hdf hb hbo
            simp only [putAll, List.setIfInBounds_toArray, List.set_cons_succ, List.set_cons_zero]
            have HF := hid_of' hfin
            clear hall hT hs hdf hb hbo hfin
            obtain ⟨⟨v1', v2', hT9⟩, hX9, hN9⟩ := HF.out
            have HE := hid_of' hT9
            clear hT9 hX9
            go_wp2_with (first
              | (refine wpL_ldNo3 rfl _ rfl rfl (by first | exact hN9.later hb9 | exact hN9) ?_)
              | (go_at_call 12; refine (HRf.out _).mono ?_; rintro e w10 ⟨rfl, hb10⟩; have HC := hid_of' (HE.out.later (bgo hb9 hb10)))
              | (go_at_call 12; refine (HRf.out _).mono ?_; rintro e w9 ⟨rfl, hb9⟩; have n0 : w9.cell? ⟨na, 0, none⟩ = some (.int .i64 0) := (hN9.later hb9).cell 0; have n1 : w9.cell? ⟨na, 1, none⟩ = some (.slice none 0 0) := (hN9.later hb9).cell 1; have n2 : w9.cell? ⟨na, 2, none⟩ = some (.slice none 0 0) := (hN9.later hb9).cell 2)
              | (go_at_call 13; refine (newLen rfl HC.out.a).mono ?_; rintro e w11 ⟨rfl, hb11⟩))
            go_roundw
            case rel => exact ⟨i + 1, m2, va, vc, v1', v2', rfl, by go_num, by omega, HM.out, HC.out.later hb11⟩
            case measure => simp [intOf]; omega
        · have hb1 : (k % 3 == 1) = false := by simpa using hk1
          have hI2 := HQ.out.later (below_one w1 (.cells #[.int .u8 (c.toNat : Int)] 5))
          have HO := hid_of' (And.intro hI2.row (so_1 w1 (c.toNat : Int)))
          go_upto_region 14 with (first | (go_at_call 5; refine (within3 k _).mono ?_; rintro e wz ⟨rfl, hz⟩; obtain rfl := hz.symm) | (at_builtin; refine wpL_app (P := Tryd.prog) rfl _ _ 25 rfl 5 i0 _ 1 1 Tryd.underlying25 HZ.out.1 HZ.out.2.1 HZ.out.2.2.1 HZ.out.2.2.2 rfl rfl rfl HO.out.1 HO.out.2 (fun y hy => by rw [List.mem_singleton] at hy; subst hy; rfl) (by unfold maxLen; omega) (by omega) ?_; intro v3 w3 q1 q2 q3; obtain ⟨m2, hm2⟩ : ∃ m2, m2 = bs ++ [c] := ⟨_, rfl⟩; have q1' := byte_grown q1; rw [← hm2] at q1'; obtain ⟨va, vc, rfl, _, _⟩ := q1'.form; have HI3 := hid_of' (And.intro (hI2.three q1' q2 q3) hm2); clear q1 q1' q2 q3 hm2))
          have HM := hid_of' (show m2.length ≤ 140737488355280 by have := HI3.out.2; rw [this, List.length_append]; simp; omega)
          have d4 : w3.cell? ⟨xa, 3, none⟩ = some (.int .u8 (c.toNat : Int)) := HI3.out.1.x.cell 3
          go_upto_region 15 with (go_at_call 11; refine (InB.one HI3.out.1 (fun _ hv => byte_n hv (by omega) HI3.out.2)).mono ?_; rintro e w4 ⟨rfl, hI4⟩)
          have d5 : w4.cell? ⟨xa, 3, none⟩ = some (.int .u8 (c.toNat : Int)) := hI4.x.cell 3
          go_upto_region 24 with (go_at_call 11; refine (InB.two hI4 (fun _ hv => byte_n hv (by omega) HI3.out.2)).mono ?_; rintro e w5 ⟨rfl, hI5⟩)
          have HF := hid_of' hI5
          clear hI4 hI5 hI2
          obtain ⟨⟨v1', v2', hT9⟩, hX9, hN9⟩ := HF.out
          have HE := hid_of' hT9
          clear hT9 hX9
          go_wp2_with (first
            | (refine wpL_ldNo3 rfl _ rfl rfl (by first | exact hN9.later hb9 | exact hN9) ?_)
            | (go_at_call 12; refine (HRf.out _).mono ?_; rintro e w10 ⟨rfl, hb10⟩; have HC := hid_of' (HE.out.later (bgo hb9 hb10)))
            | (go_at_call 12; refine (HRf.out _).mono ?_; rintro e w9 ⟨rfl, hb9⟩; have n0 : w9.cell? ⟨na, 0, none⟩ = some (.int .i64 0) := (hN9.later hb9).cell 0; have n1 : w9.cell? ⟨na, 1, none⟩ = some (.slice none 0 0) := (hN9.later hb9).cell 1; have n2 : w9.cell? ⟨na, 2, none⟩ = some (.slice none 0 0) := (hN9.later hb9).cell 2)
            | (go_at_call 13; refine (newLen rfl HC.out.a).mono ?_; rintro e w11 ⟨rfl, hb11⟩))
          go_roundw
          case rel => exact ⟨i + 1, m2, va, vc, v1', v2', rfl, by go_num, by omega, HM.out, HC.out.later hb11⟩
          case measure => simp [intOf]; omega
    · have hex : (¬ (i : Int) < (l.length : Int)) ∨ ((i : Int) < (l.length : Int) ∧ ¬ (i : Int) < 200) ∨ ((i : Int) < (l.length : Int) ∧ (i : Int) < 200 ∧ ¬ (bs.length : Int) < 4000) := by omega
      rcases hex with h1 | ⟨h1, h2⟩ | ⟨h1, h2, h3⟩
      all_goals
        go_upto_region 27 with (go_at_call 14; refine (bytes_ww hT.a (by omega)).mono ?_; rintro e w2 ⟨rfl, hg2, hb2⟩)
        have hT2 := hT.later hb2
        have HSp := hid_of' (spoil_new (n := bs.length) rfl (by omega) hg2 hb2)
        obtain ⟨SW, hSW⟩ : ∃ SW : ByteArray, (⟨bs.toArray⟩ : ByteArray) = SW := ⟨_, rfl⟩
        have hc1 : (convert 25 9 (.slice (some ⟨wr.heap.size, 0, none⟩) bs.length bs.length)).run Tryd.prog w2 = .ok (.string SW) w2 := by
          rw [← hSW]
          refine conv_v (.inr ⟨_, 0, _, rfl, lt_of_heap hg2, fun i b hi => ?_⟩)
          rw [Nat.zero_add, cellW_of hg2]
          simp [Lib.byteCells, hi]
        have hc2 : (convert 25 9 (.slice wa bs.length wc)).run Tryd.prog w2 = .ok (.string SW) w2 := by rw [← hSW]; exact conv_v (rw_sl hT2.c)
        have HT := hid_of' hT
        have hNl : bs.length ≤ 140737488355280 := hl
        clear hT hT2 hg2 hb2
        obtain ⟨N, hN⟩ : ∃ N, bs.length = N := ⟨_, rfl⟩
        rw [hN] at hc1 hc2 HSp ⊢
        have HN := hid_of' hN
        clear hN
        go_upto_region 29 with (first | (refine wpL_convB rfl _ rfl rfl hc1 ?_) | (refine wpL_convB rfl _ rfl rfl hc2 ?_))
        go_upto_region 30 with (go_at_call 15; refine HSp.out.mono ?_; rintro e w5 ⟨⟨z5, rfl⟩, hb5⟩)
        have HT5 := hid_of' (HT.out.later hb5)
        have hB5 := HT5.out.bel
        have HY1 := hid_of' (fun (x : World) (hx : Below w5.heap.size w5 x) => newBytes (HT5.out.later hx).a (by have := HN.out; omega))
        have HY2 := hid_of' (fun (x : World) (hx : Below w5.heap.size w5 x) => newBytes (HT5.out.later hx).b (by have := HN.out; omega))
        have HY3 := hid_of' (fun (x : World) (hx : Below w5.heap.size w5 x) => rw_sl (HT5.out.later hx).c)
        rw [HN.out] at HY3
        have HY4 := hid_of' (fun (x : World) (hx : Below w5.heap.size w5 x) => newLen HN.out (HT5.out.later hx).b)
        have HY5 := hid_of' (fun (x : World) (hx : Below w5.heap.size w5 x) => wakes_ok (lwOf (HL.out.1.below (bgo hB5 hx))))
        refine wp_region_tail 24 (by kernel_rfl) (fun j => if j = 6 then some true else if j = 14 then some true else if j = 21 then some true else none) (by kernel_rfl) (by kernel_rfl) (by decide) (fun i v x => match i with
          | 0 => v = .pointer (some ⟨W.heap.size, 0, none⟩)
          | 1 => SlB x v bs
          | 2 => v = .string SW
          | 3 => v = .slice wa N wc
          | 4 => v = .string SW
          | 5 => v = .bool true
          | 6 => v = .bool true
          | 7 => v = .pointer (some ⟨W.heap.size + 1, 0, none⟩)
          | 8 => SlB x v bs
          | 9 => v = .string SW
          | 10 => v = .slice wa N wc
          | 11 => v = .string SW
          | 12 => v = .bool true
          | 13 => v = .bool true
          | 14 => v = .bool true
          | 15 => v = .pointer (some ⟨W.heap.size + 1, 0, none⟩)
          | 16 => v = .int .i64 (N : Int)
          | 17 => v = .slice wa N wc
          | 18 => v = .int .i64 (N : Int)
          | 19 => v = .bool true
          | 20 => v = .bool true
          | 21 => v = .bool true
          | 22 => v = .bool true
          | 23 => v = .bool true
          | _ => True) (fun _ => false) (fun j v x b hj hR => by
            by_cases e6 : j = 6
            · subst e6; simp at hj; subst hj; exact hR
            by_cases e14 : j = 14
            · subst e14; simp at hj; subst hj; exact hR
            by_cases e21 : j = 21
            · subst e21; simp at hj; subst hj; exact hR
            simp [e6, e14, e21] at hj) ?_ ?_ ?_
        · intro i v x x' hR hb
          match i, hR with
          | 0, h => exact h
          | 1, h => exact SlB.laterX h hb
          | 2, h => exact h
          | 3, h => exact h
          | 4, h => exact h
          | 5, h => exact h
          | 6, h => exact h
          | 7, h => exact h
          | 8, h => exact SlB.laterX h hb
          | 9, h => exact h
          | 10, h => exact h
          | 11, h => exact h
          | 12, h => exact h
          | 13, h => exact h
          | 14, h => exact h
          | 15, h => exact h
          | 16, h => exact h
          | 17, h => exact h
          | 18, h => exact h
          | 19, h => exact h
          | 20, h => exact h
          | 21, h => exact h
          | 22, h => exact h
          | 23, h => exact h
          | m + 24, h => exact h
        · intro i o hi ho q x vals hX hdep hoth
          have t3 : q.tmps[3]? = some (.pointer (some ⟨W.heap.size, 0, none⟩)) := by rw [hoth 3 (by kernel_rfl)]; rfl
          have t4 : q.tmps[4]? = some (.pointer (some ⟨W.heap.size + 1, 0, none⟩)) := by rw [hoth 4 (by kernel_rfl)]; rfl
          have t5 : q.tmps[5]? = some (.slice wa N wc) := by rw [hoth 5 (by kernel_rfl)]; rfl
          match i, hi, ho with
          | 0, _, ho =>
            simp only [List.getElem?_cons_zero, Option.some.injEq] at ho
            subst ho
            unfold Oper.wp
            simp [execOp, go_sem, t3]
            exact came _ rfl (Below.refl _ _) rfl (fun h => absurd h (by decide))
          | 1, _, ho =>
            simp only [List.getElem?_cons_succ, List.getElem?_cons_zero, Option.some.injEq] at ho
            subst ho
            obtain ⟨u0, e0⟩ := hdep ⟨0, .data⟩ (by simp) rfl _ 114 rfl rfl
            rw [show vals 0 = .pointer (some ⟨W.heap.size, 0, none⟩) from e0] at u0
            unfold Oper.wp
            simp [go_sem, u0]
            refine (HY1.out x hX).mono ?_
            rintro r x1 ⟨v9, rfl, h9, hb1⟩
            exact came _ rfl hb1 h9 (fun h => absurd h (by decide))
          | 2, _, ho =>
            simp only [List.getElem?_cons_succ, List.getElem?_cons_zero, Option.some.injEq] at ho
            subst ho
            obtain ⟨u1, e1⟩ := hdep ⟨1, .data⟩ (by simp) rfl _ 115 rfl rfl
            exact opw_strB _ rfl (by simp [Act.eval, u1]) (hSW ▸ conv_v e1) (came _ rfl (Below.refl _ _) rfl (fun h => absurd h (by decide)))
          | 3, _, ho =>
            simp only [List.getElem?_cons_succ, List.getElem?_cons_zero, Option.some.injEq] at ho
            subst ho
            unfold Oper.wp
            simp [execOp, go_sem, t5]
            exact came _ rfl (Below.refl _ _) rfl (fun h => absurd h (by decide))
          | 4, _, ho =>
            simp only [List.getElem?_cons_succ, List.getElem?_cons_zero, Option.some.injEq] at ho
            subst ho
            obtain ⟨u3, e3⟩ := hdep ⟨3, .data⟩ (by simp) rfl _ 117 rfl rfl
            rw [show vals 3 = .slice wa N wc from e3] at u3
            exact opw_strB _ rfl (by simp [Act.eval, u3]) (hSW ▸ conv_v (HY3.out x hX)) (came _ rfl (Below.refl _ _) rfl (fun h => absurd h (by decide)))
          | 5, _, ho =>
            simp only [List.getElem?_cons_succ, List.getElem?_cons_zero, Option.some.injEq] at ho
            subst ho
            obtain ⟨u2, e2⟩ := hdep ⟨2, .data⟩ (by simp) rfl _ 116 rfl rfl
            rw [show vals 2 = .string SW from e2] at u2
            obtain ⟨u4, e4⟩ := hdep ⟨4, .data⟩ (by simp) rfl _ 118 rfl rfl
            rw [show vals 4 = .string SW from e4] at u4
            unfold Oper.wp
            simp [execOp, go_sem, u2, u4]
            exact came _ rfl (Below.refl _ _) rfl (fun h => absurd h (by decide))
          | 6, _, ho =>
            simp only [List.getElem?_cons_succ, List.getElem?_cons_zero, Option.some.injEq] at ho
            subst ho
            obtain ⟨u5, e5⟩ := hdep ⟨5, .data⟩ (by simp) rfl _ 119 rfl rfl
            rw [show vals 5 = .bool true from e5] at u5
            unfold Oper.wp
            simp [execOp, go_sem, u5]
            exact came _ rfl (Below.refl _ _) rfl (fun h => absurd h (by decide))
          | 7, _, ho =>
            simp only [List.getElem?_cons_succ, List.getElem?_cons_zero, Option.some.injEq] at ho
            subst ho
            unfold Oper.wp
            simp [execOp, go_sem, t4]
            exact came _ rfl (Below.refl _ _) rfl (fun h => absurd h (by decide))
          | 8, _, ho =>
            simp only [List.getElem?_cons_succ, List.getElem?_cons_zero, Option.some.injEq] at ho
            subst ho
            obtain ⟨u7, e7⟩ := hdep ⟨7, .data⟩ (by simp) rfl _ 121 rfl rfl
            rw [show vals 7 = .pointer (some ⟨W.heap.size + 1, 0, none⟩) from e7] at u7
            unfold Oper.wp
            simp [go_sem, u7]
            refine (HY2.out x hX).mono ?_
            rintro r x1 ⟨v9, rfl, h9, hb1⟩
            exact came _ rfl hb1 h9 (fun h => absurd h (by decide))
          | 9, _, ho =>
            simp only [List.getElem?_cons_succ, List.getElem?_cons_zero, Option.some.injEq] at ho
            subst ho
            obtain ⟨u8, e8⟩ := hdep ⟨8, .data⟩ (by simp) rfl _ 122 rfl rfl
            exact opw_strB _ rfl (by simp [Act.eval, u8]) (hSW ▸ conv_v e8) (came _ rfl (Below.refl _ _) rfl (fun h => absurd h (by decide)))
          | 10, _, ho =>
            simp only [List.getElem?_cons_succ, List.getElem?_cons_zero, Option.some.injEq] at ho
            subst ho
            unfold Oper.wp
            simp [execOp, go_sem, t5]
            exact came _ rfl (Below.refl _ _) rfl (fun h => absurd h (by decide))
          | 11, _, ho =>
            simp only [List.getElem?_cons_succ, List.getElem?_cons_zero, Option.some.injEq] at ho
            subst ho
            obtain ⟨u10, e10⟩ := hdep ⟨10, .data⟩ (by simp) rfl _ 124 rfl rfl
            rw [show vals 10 = .slice wa N wc from e10] at u10
            exact opw_strB _ rfl (by simp [Act.eval, u10]) (hSW ▸ conv_v (HY3.out x hX)) (came _ rfl (Below.refl _ _) rfl (fun h => absurd h (by decide)))
          | 12, _, ho =>
            simp only [List.getElem?_cons_succ, List.getElem?_cons_zero, Option.some.injEq] at ho
            subst ho
            obtain ⟨u9, e9⟩ := hdep ⟨9, .data⟩ (by simp) rfl _ 123 rfl rfl
            rw [show vals 9 = .string SW from e9] at u9
            obtain ⟨u11, e11⟩ := hdep ⟨11, .data⟩ (by simp) rfl _ 125 rfl rfl
            rw [show vals 11 = .string SW from e11] at u11
            unfold Oper.wp
            simp [execOp, go_sem, u9, u11]
            exact came _ rfl (Below.refl _ _) rfl (fun h => absurd h (by decide))
          | 13, _, ho =>
            simp only [List.getElem?_cons_succ, List.getElem?_cons_zero, Option.some.injEq] at ho
            subst ho
            obtain ⟨u6, e6⟩ := hdep ⟨6, .data⟩ (by simp) rfl _ 120 rfl rfl
            rw [show vals 6 = .bool true from e6] at u6
            obtain ⟨u12, e12⟩ := hdep ⟨12, .data⟩ (by simp) rfl _ 126 rfl rfl
            rw [show vals 12 = .bool true from e12] at u12
            unfold Oper.wp
            simp [execOp, go_sem, u6, u12]
            exact came _ rfl (Below.refl _ _) rfl (fun h => absurd h (by decide))
          | 14, _, ho =>
            simp only [List.getElem?_cons_succ, List.getElem?_cons_zero, Option.some.injEq] at ho
            subst ho
            obtain ⟨u13, e13⟩ := hdep ⟨13, .data⟩ (by simp) rfl _ 127 rfl rfl
            rw [show vals 13 = .bool true from e13] at u13
            unfold Oper.wp
            simp [execOp, go_sem, u13]
            exact came _ rfl (Below.refl _ _) rfl (fun h => absurd h (by decide))
          | 15, _, ho =>
            simp only [List.getElem?_cons_succ, List.getElem?_cons_zero, Option.some.injEq] at ho
            subst ho
            unfold Oper.wp
            simp [execOp, go_sem, t4]
            exact came _ rfl (Below.refl _ _) rfl (fun h => absurd h (by decide))
          | 16, _, ho =>
            simp only [List.getElem?_cons_succ, List.getElem?_cons_zero, Option.some.injEq] at ho
            subst ho
            obtain ⟨u15, e15⟩ := hdep ⟨15, .data⟩ (by simp) rfl _ 129 rfl rfl
            rw [show vals 15 = .pointer (some ⟨W.heap.size + 1, 0, none⟩) from e15] at u15
            unfold Oper.wp
            simp [go_sem, u15]
            refine (HY4.out x hX).mono ?_
            rintro r x1 ⟨rfl, hb1⟩
            exact came _ rfl hb1 rfl (fun h => absurd h (by decide))
          | 17, _, ho =>
            simp only [List.getElem?_cons_succ, List.getElem?_cons_zero, Option.some.injEq] at ho
            subst ho
            unfold Oper.wp
            simp [execOp, go_sem, t5]
            exact came _ rfl (Below.refl _ _) rfl (fun h => absurd h (by decide))
          | 18, _, ho =>
            simp only [List.getElem?_cons_succ, List.getElem?_cons_zero, Option.some.injEq] at ho
            subst ho
            obtain ⟨u17, e17⟩ := hdep ⟨17, .data⟩ (by simp) rfl _ 131 rfl rfl
            rw [show vals 17 = .slice wa N wc from e17] at u17
            unfold Oper.wp
            simp [go_sem, u17]
            exact came _ rfl (Below.refl _ _) rfl (fun h => absurd h (by decide))
          | 19, _, ho =>
            simp only [List.getElem?_cons_succ, List.getElem?_cons_zero, Option.some.injEq] at ho
            subst ho
            obtain ⟨u16, e16⟩ := hdep ⟨16, .data⟩ (by simp) rfl _ 130 rfl rfl
            rw [show vals 16 = .int .i64 (N : Int) from e16] at u16
            obtain ⟨u18, e18⟩ := hdep ⟨18, .data⟩ (by simp) rfl _ 132 rfl rfl
            rw [show vals 18 = .int .i64 (N : Int) from e18] at u18
            unfold Oper.wp
            simp [execOp, go_sem, u16, u18]
            exact came _ rfl (Below.refl _ _) rfl (fun h => absurd h (by decide))
          | 20, _, ho =>
            simp only [List.getElem?_cons_succ, List.getElem?_cons_zero, Option.some.injEq] at ho
            subst ho
            obtain ⟨u14, e14⟩ := hdep ⟨14, .data⟩ (by simp) rfl _ 128 rfl rfl
            rw [show vals 14 = .bool true from e14] at u14
            obtain ⟨u19, e19⟩ := hdep ⟨19, .data⟩ (by simp) rfl _ 133 rfl rfl
            rw [show vals 19 = .bool true from e19] at u19
            unfold Oper.wp
            simp [execOp, go_sem, u14, u19]
            exact came _ rfl (Below.refl _ _) rfl (fun h => absurd h (by decide))
          | 21, _, ho =>
            simp only [List.getElem?_cons_succ, List.getElem?_cons_zero, Option.some.injEq] at ho
            subst ho
            obtain ⟨u20, e20⟩ := hdep ⟨20, .data⟩ (by simp) rfl _ 134 rfl rfl
            rw [show vals 20 = .bool true from e20] at u20
            unfold Oper.wp
            simp [execOp, go_sem, u20]
            exact came _ rfl (Below.refl _ _) rfl (fun h => absurd h (by decide))
          | 22, _, ho =>
            simp only [List.getElem?_cons_succ, List.getElem?_cons_zero, Option.some.injEq] at ho
            subst ho
            unfold Oper.wp
            simp [go_sem, ]
            refine (HY5.out x hX).mono ?_
            rintro r x1 ⟨rfl, hb1⟩
            exact came _ rfl hb1 rfl (fun h => absurd h (by decide))
          | 23, _, ho =>
            simp only [List.getElem?_cons_succ, List.getElem?_cons_zero, Option.some.injEq] at ho
            subst ho
            obtain ⟨u21, e21⟩ := hdep ⟨21, .data⟩ (by simp) rfl _ 135 rfl rfl
            rw [show vals 21 = .bool true from e21] at u21
            obtain ⟨u22, e22⟩ := hdep ⟨22, .data⟩ (by simp) rfl _ 136 rfl rfl
            rw [show vals 22 = .bool true from e22] at u22
            unfold Oper.wp
            simp [execOp, go_sem, u21, u22]
            exact came _ rfl (Below.refl _ _) rfl (fun h => absurd h (by decide))
          | m + 24, hi, _ => exact absurd hi (by omega)
        · intro vals W2 hX hR _
          have f23 : vals 23 = .bool true := hR 23 (by decide)
          simp only [List.drop, List.take, putAll, List.setIfInBounds_toArray, List.set_cons_succ, List.set_cons_zero, f23]
          clear f23 hR
          have hBW := bgo hB5 hX
          go_wp2
          go_ret
          exact ⟨rfl, hBW⟩
end Go.Proofs.YthabeapgkaggmaaDoor
