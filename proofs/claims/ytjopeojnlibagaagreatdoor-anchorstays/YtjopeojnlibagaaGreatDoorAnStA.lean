
/-
  What an Insert and an Add do to an anchor's gap; a list of elements that is only read; barrowref05.Add. barrowlaw13.AnchorStays. barrowlaw13.AnchorStays: the walk. Changes that came in, in a row; a number that came in.
-/
import Derived.Test.YtjopeojnlibagaaGreatDoorAnA
import Derived.Test.YtjopeojnlibagaaGreatDoorApAz
import Derived.Deep.CutRange
import Derived.Test.YtjopeojnlibagaaGreatDoorMboA
namespace Go.Proofs.YtjopeojnlibagaaGreatDoor
open Go.RowKit Go.Extern.Stop Go.Stop Go.Extern
set_option maxRecDepth 100000

/-- An anchor over a row: where its element stands, and its gap. -/
def AnIn (l : List El) (F : Bool) (A B C own q : Int) : Prop := (F = true ∧ own = -1 ∧ q = 0) ∨ (F = false ∧ ∃ (k : Nat) (e : El), l[k]? = some e ∧ e.id = ⟨A, B, C⟩ ∧ own = (k : Int) ∧ q = liveL (l.take (k + 1)))
theorem AnIn.wh {l : List El} {F : Bool} {A B C own q : Int} (h : AnIn l F A B C own q) : WhOf l F A B C q true := by
  rcases h with ⟨h1, _, h2⟩ | ⟨h1, k, e, h2, h3, _, h4⟩
  · exact .inl ⟨h1, h2, rfl⟩
  · exact .inr (.inr ⟨h1, rfl, k, e, h2, h3, h4⟩)
theorem live_ins {l : List El} {p k : Nat} {e : El} (hp : p ≤ l.length) (h : p ≤ k) : liveL ((insE l p e).take (k + 2)) = liveL (l.take (k + 1)) + wLive e := by
  have hl : (l.take p).length = p := by rw [List.length_take]; omega
  have h1 : (insE l p e).take (k + 2) = l.take p ++ e :: (l.drop p).take (k + 1 - p) := by
    unfold insE
    rw [List.take_append, hl, List.take_of_length_le (by omega), show k + 2 - p = (k + 1 - p) + 1 by omega, List.take_succ_cons]
  have h2 : l.take (k + 1) = l.take p ++ (l.drop p).take (k + 1 - p) := by
    rw [← List.take_add, show p + (k + 1 - p) = k + 1 by omega]
  rw [h1, h2, liveL_app, liveL_app]
  simp only [liveL]
  omega
theorem live_ins0 {l : List El} {p k : Nat} {e : El} (hp : p ≤ l.length) (h : k < p) : (insE l p e).take (k + 1) = l.take (k + 1) := by
  have hl : (l.take p).length = p := by rw [List.length_take]; omega
  unfold insE
  rw [List.take_append_of_le_length (by omega), List.take_take, Nat.min_eq_left (by omega)]
theorem AnIn.ins {l : List El} {F : Bool} {A B C own q : Int} (h : AnIn l F A B C own q) {p : Nat} (hp : p ≤ l.length) (e : El) : ∃ own', AnIn (insE l p e) F A B C own' (q + if (p : Int) ≤ own then wLive e else 0) := by
  rcases h with ⟨h1, h2, h3⟩ | ⟨h1, k, x, h2, h3, h4, h5⟩
  · exact ⟨-1, .inl ⟨h1, rfl, by rw [h2, if_neg (by omega), h3]; rfl⟩⟩
  · by_cases c : p ≤ k
    · refine ⟨((k + 1 : Nat) : Int), .inr ⟨h1, k + 1, x, ?_, h3, rfl, ?_⟩⟩
      · rw [insE_at hp, if_neg (by omega), if_neg (by omega)]; exact h2
      · rw [h4, if_pos (by omega), h5, live_ins hp c]
    · refine ⟨(k : Int), .inr ⟨h1, k, x, ?_, h3, rfl, ?_⟩⟩
      · rw [insE_at hp, if_pos (by omega)]; exact h2
      · rw [h4, if_neg (by omega), h5, live_ins0 hp (by omega)]; omega
theorem live_add : ∀ (l : List El) (p n : Nat) (d : Int) (e : El), l[p]? = some e → liveL ((addE l p d).take n) = liveL (l.take n) + if p < n then wLive (e.add d) - wLive e else 0
  | [], p, n, d, e, h => by simp at h
  | a :: l, 0, 0, d, e, h => by simp [liveL]
  | a :: l, 0, n + 1, d, e, h => by
    simp at h
    subst h
    rw [if_pos (by omega)]
    show liveL ((a.add d :: l).take (n + 1)) = _
    simp only [List.take_succ_cons, liveL]
    omega
  | a :: l, p + 1, 0, d, e, h => by simp [liveL]
  | a :: l, p + 1, n + 1, d, e, h => by
    have ih := live_add l p n d e (by simpa using h)
    show liveL ((a :: addE l p d).take (n + 1)) = _
    simp only [List.take_succ_cons, liveL]
    rw [ih]
    by_cases c : p < n
    · rw [if_pos c, if_pos (by omega)]; omega
    · rw [if_neg c, if_neg (by omega)]; omega
theorem AnIn.add {l : List El} {F : Bool} {A B C own q : Int} (h : AnIn l F A B C own q) {p : Nat} {e : El} (he : l[p]? = some e) (d : Int) : AnIn (addE l p d) F A B C own (q + if (p : Int) ≤ own then wLive (e.add d) - wLive e else 0) := by
  rcases h with ⟨h1, h2, h3⟩ | ⟨h1, k, x, h2, h3, h4, h5⟩
  · exact .inl ⟨h1, h2, by rw [h2, if_neg (by omega), h3]; rfl⟩
  · have hx : ∃ y, (addE l p d)[k]? = some y ∧ y.id = x.id := by
      by_cases c : k = p
      · exact ⟨x.add d, by rw [addE_at, if_pos c, h2]; rfl, rfl⟩
      · exact ⟨x, by rw [addE_at, if_neg c]; exact h2, rfl⟩
    obtain ⟨y, hy, hyi⟩ := hx
    refine .inr ⟨h1, k, y, hy, hyi.trans h3, h4, ?_⟩
    rw [h5, live_add l p (k + 1) d e he, h4]
    by_cases c : p < k + 1
    · rw [if_pos c, if_pos (by omega)]
    · rw [if_neg c, if_neg (by omega)]
theorem AnIn.b {l : List El} {F : Bool} {A B C own q : Int} (h : AnIn l F A B C own q) : 0 ≤ q ∧ q ≤ l.length ∧ -1 ≤ own ∧ own < l.length := by
  have h1 := whOf_b h.wh
  have h2 := liveL_b l
  refine ⟨h1.1, by omega, ?_⟩
  rcases h with ⟨_, h, _⟩ | ⟨_, k, e, h, _, h4, _⟩
  · omega
  · have := (List.getElem?_eq_some_iff.1 h).1; omega
/-- A list of elements that lies in a block of elements. -/
def XsAt (w : World) (v : Value) (l : List El) : Prop := (l = [] ∧ v = .slice none 0 0) ∨ ∃ g c cs, v = .slice (some ⟨g, 0, none⟩) l.length c ∧ ElsAt g 0 l w ∧ RowAt g cs 66 w ∧ l.length ≤ c ∧ c ≤ 9223372036854775807
theorem XsAt.of_own {base : Nat} {v : Value} {l : List El} {w : World} (h : OwnE base v l w) : XsAt w v l := by
  rcases PlAt.of_own (R := R00) h (Nat.zero_le _) with ⟨h1, h2⟩ | ⟨g, c, h1, h2, _, h4, h5⟩
  · exact .inl ⟨h1, h2⟩
  · subst h1
    obtain ⟨cs, hcs⟩ := h.rowEx
    exact .inr ⟨g, c, cs, rfl, h2, hcs, h4, h5⟩
theorem XsAt.pl {v : Value} {l : List El} {w : World} (h : XsAt w v l) : PlAt R00 w v l := by
  rcases h with h | ⟨g, c, cs, h1, h2, _, h4, h5⟩
  · exact .inl h
  · exact .inr ⟨g, c, h1, h2, fun q => q, h4, h5⟩
theorem XsAt.sl {v : Value} {l : List El} {w : World} (h : XsAt w v l) : SlE w v l := h.pl.sl
theorem XsAt.form {v : Value} {l : List El} {w : World} (h : XsAt w v l) : ∃ a c, v = .slice a l.length c := h.pl.form
theorem XsAt.later {v : Value} {l : List El} {w w' : World} (h : XsAt w v l) (hb : Below w.heap.size w w') : XsAt w' v l := by
  rcases h with h | ⟨g, c, cs, h1, h2, h3, h4⟩
  · exact .inl h
  · exact .inr ⟨g, c, cs, h1, h2.later hb, h3.later hb, h4⟩
theorem XsAt.k2 {v : Value} {l : List El} {w w' : World} {x y : Nat} {cs : Array Value} {ty : TypeId} (h : XsAt w v l) (k : K2 x y w w') (hx : RowAt x cs ty w) (ht : ty ≠ 66) (hy : ∃ o : Obj, w.heap[y]? = some o ∧ o.isCells = false) : XsAt w' v l := by
  rcases h with h | ⟨g, c, cs', h1, h2, h3, h4⟩
  · exact .inl h
  · have n1 : ¬ g = x := rowsNe h3 hx (fun q => ht q.symm)
    have n2 : ¬ g = y := fun q => by
      obtain ⟨o, ho, hc⟩ := hy
      rw [← q] at ho
      have h3' : w.heap[g]? = _ := h3
      rw [h3'] at ho
      cases ho
      cases hc
    exact .inr ⟨g, c, cs', h1, fun i e he => (h2 i e he).k2 k n1 n2, h3.k2 k n1 n2, h4⟩
theorem els_hd {g : Nat} {l : List El} {w : World} {cs : Array Value} (h : ElsAt g 0 l w) (hr : RowAt g cs 66 w) {ip : Nat} {e : El} (he : l[ip]? = some e) (d : Int) : ElsAt g 0 (addE l ip d) (w.setCell ⟨g, ip * 5 + 4, none⟩ (.int .i64 (e.hd + d))) := by
  have h2 : RowAt g (cs.setIfInBounds (ip * 5 + 4) (.int .i64 (e.hd + d))) 66 (w.setCell ⟨g, ip * 5 + 4, none⟩ (.int .i64 (e.hd + d))) := heap_setCell_at hr _ _
  have hz : ip * 5 + 4 < cs.size := by
    have := (h ip e he).2 4 (.int .i64 e.hd) rfl
    rw [hr.cell, Nat.zero_add] at this
    exact (Array.getElem?_eq_some_iff.1 this).1
  intro k y hy
  refine ⟨h2.lt, fun j v hv => ?_⟩
  have hj : j < 5 := by
    have := (Array.getElem?_eq_some_iff.1 hv).1
    simpa [ev] using this
  rw [Nat.zero_add, h2.cell]
  by_cases c : ip * 5 + 4 = k * 5 + j
  · obtain ⟨rfl, rfl⟩ : k = ip ∧ j = 4 := by omega
    rw [addE_at, if_pos rfl, he] at hy
    cases hy
    cases hv
    rw [Array.getElem?_setIfInBounds_self_of_lt hz]
    rfl
  · rw [Array.getElem?_setIfInBounds_ne (by omega)]
    rw [addE_at] at hy
    by_cases q : k = ip
    · subst q
      rw [if_pos rfl, he] at hy
      cases hy
      have hj4 : j ≠ 4 := by omega
      have hv' : (ev e)[j]? = some v := by
        match j, hj, hj4, hv with
        | 0, _, _, hv => exact hv
        | 1, _, _, hv => exact hv
        | 2, _, _, hv => exact hv
        | 3, _, _, hv => exact hv
        | 4, _, hj4, _ => exact absurd rfl hj4
      have := (h k e he).2 j v hv'
      rw [hr.cell, Nat.zero_add] at this
      exact this
    · rw [if_neg q] at hy
      have := (h k y hy).2 j v hv
      rw [hr.cell, Nat.zero_add] at this
      exact this
def bAdd : ByteArray := ⟨#[65, 100, 100]⟩
set_option maxHeartbeats 2000000 in
theorem refAdd_up {w : World} {u : Value} {l : List El} (hl : XsAt w u l) (ip : Nat) (e : El) (he : l[ip]? = some e) (h1 : -1099511627776 ≤ e.hd) (h2 : e.hd ≤ 1099511627776) (hfr : fairH (e.hd + 1) = true) (hn : l.length ≤ 1000000) :
    Calls Tryz.prog 30 #[u, .int .i64 (ip : Int), .int .i64 (1)] w fun r w' => ∃ v, r = .returned (.tuple #[v, .agg (nov 0 none 0 0 none 0 0)]) ∧ XsAt w' v (addE l ip (1)) ∧ Below w.heap.size w w' := by
  have r0 := row_new w (nov 0 none 0 0 none 0 0) 38
  have b0 := below_one w (.cells (nov 0 none 0 0 none 0 0) 38)
  have HC : Hid (∀ x, Below w.heap.size w x → _) := fun x hx => copy_ok (hl.later hx).sl (by omega)
  have HF := hid_of' (refFair_any (e.hd + 1))
  rw [hfr] at HF
  have hk := (List.getElem?_eq_some_iff.1 he).1
  have hlen : (addE l ip (1)).length = l.length := addE_len
  rcases hl with ⟨h0, _⟩ | ⟨g, c, cs, rfl, hE, hR, hlc, hcc⟩
  · exfalso; subst h0; simp at he
  have HE := hid_of' he
  have hc4 : Hid (∀ x, Below w.heap.size w x → x.cell? ⟨g, ip * 5 + 4, none⟩ = some (.int .i64 e.hd)) := fun x hx => by
    have := ((hE ip e he).later hx).2 4 (.int .i64 e.hd) rfl
    rwa [Nat.zero_add] at this
  have e1 : ¬ (ip : Int) < 0 := by omega
  have e2 : ¬ (l.length : Int) ≤ (ip : Int) := by omega
  have e3 : (ip : Int) < (l.length : Int) := by omega
  have e4 : ¬ l.length ≤ ip := by omega
  have ew : wrap64 (e.hd + 1) = e.hd + 1 := wrapIs (by omega) (by omega)
  clear hE hR he hlc hcc
  go_enter Tryz.func30, Tryz.ntmps30
  go_upto_region 1 with fail
  change Code.wp _ _ _ _ (w.alloc (.cells (nov 0 none 0 0 none 0 0) 38))
  generalize w.alloc (.cells (nov 0 none 0 0 none 0 0) 38) = W0 at r0 b0 ⊢
  have c4 := hc4.out _ b0
  go_upto_region 6 with (first | (go_at_call 58; refine (HF.out _).mono ?_; rintro r w1 ⟨rfl, hw1⟩; obtain rfl := hw1.symm) | (go_at_call 59; refine (HC.out _ b0).mono ?_; rintro r w2 ⟨v2, rfl, ho2, hb2⟩))
  clear c4
  obtain ⟨g2, c2, cs2, rfl, hE2, hR2, hlc2, hcc2⟩ : ∃ g2 c2 cs2, v2 = .slice (some ⟨g2, 0, none⟩) l.length c2 ∧ ElsAt g2 0 l w2 ∧ RowAt g2 cs2 66 w2 ∧ l.length ≤ c2 ∧ c2 ≤ 9223372036854775807 := by
    rcases XsAt.of_own ho2 with ⟨h0, _⟩ | ⟨g2, c2, cs2, q1, q2, q3, q4, q5⟩
    · exfalso; subst h0; simp at hk
    · exact ⟨g2, c2, cs2, q1, q2, q3, q4, q5⟩
  have d4 : w2.cell? ⟨g2, ip * 5 + 4, none⟩ = some (.int .i64 e.hd) := by
    have := (hE2 ip e HE.out).2 4 (.int .i64 e.hd) rfl
    rwa [Nat.zero_add] at this
  have f4 : w2.frozen? ⟨g2, ip * 5 + 4, none⟩ = false := Lib.frozen_of_heap hR2 _
  have r2 := r0.later hb2
  have hne : ¬ w.heap.size = g2 := rowsNe r2 hR2 (by decide)
  have hge : w.heap.size ≤ g2 := Nat.le_trans b0.size (ho2.lt g2 rfl).1
  go_upto_region 7 with fail
  have hE3 := els_hd hE2 hR2 HE.out (1)
  have hR3 : RowAt g2 (cs2.setIfInBounds (ip * 5 + 4) (.int .i64 (e.hd + 1))) 66 (w2.setCell ⟨g2, ip * 5 + 4, none⟩ (.int .i64 (e.hd + 1))) := heap_setCell_at hR2 _ _
  have k3 : Kp g2 w2 (w2.setCell ⟨g2, ip * 5 + 4, none⟩ (.int .i64 (e.hd + 1))) := Kp.cell _ _ _
  generalize w2.setCell ⟨g2, ip * 5 + 4, none⟩ (.int .i64 (e.hd + 1)) = W3 at hE3 hR3 k3 ⊢
  have r3 := r2.kp k3 hne
  have hB3 := k3.new (bgo b0 hb2) hge
  go_wp2_with (refine wpL_storeNo rfl _ _ rfl rfl rfl r3 ?_)
  have k4 : Kp w.heap.size W3 (W3.setRow w.heap.size (nov 0 none 0 0 none 0 0)) := Kp.row _ _
  exact bodyPost_ret (v := .tuple #[.slice (some ⟨g2, 0, none⟩) l.length c2, .agg (nov 0 none 0 0 none 0 0)]) (results_tNo (fn := Tryz.f30) (t := 6) (u := 7) rfl rfl (r3.put (nov 0 none 0 0 none 0 0)) rfl) rfl ⟨_, rfl, .inr ⟨g2, c2, _, by rw [hlen], fun i x hx => (hE3 i x hx).kp k4 (fun q => hne q.symm), hR3.kp k4 (fun q => hne q.symm), by omega, hcc2⟩, below_row hB3 (Nat.le_refl _) _⟩
set_option maxHeartbeats 2000000 in
theorem refAdd_down {w : World} {u : Value} {l : List El} (hl : XsAt w u l) (ip : Nat) (e : El) (he : l[ip]? = some e) (h1 : -1099511627776 ≤ e.hd) (h2 : e.hd ≤ 1099511627776) (hfr : fairH (e.hd + -1) = true) (hn : l.length ≤ 1000000) :
    Calls Tryz.prog 30 #[u, .int .i64 (ip : Int), .int .i64 (-1)] w fun r w' => ∃ v, r = .returned (.tuple #[v, .agg (nov 0 none 0 0 none 0 0)]) ∧ XsAt w' v (addE l ip (-1)) ∧ Below w.heap.size w w' := by
  have r0 := row_new w (nov 0 none 0 0 none 0 0) 38
  have b0 := below_one w (.cells (nov 0 none 0 0 none 0 0) 38)
  have HC : Hid (∀ x, Below w.heap.size w x → _) := fun x hx => copy_ok (hl.later hx).sl (by omega)
  have HF := hid_of' (refFair_any (e.hd + -1))
  rw [hfr] at HF
  have hk := (List.getElem?_eq_some_iff.1 he).1
  have hlen : (addE l ip (-1)).length = l.length := addE_len
  rcases hl with ⟨h0, _⟩ | ⟨g, c, cs, rfl, hE, hR, hlc, hcc⟩
  · exfalso; subst h0; simp at he
  have HE := hid_of' he
  have hc4 : Hid (∀ x, Below w.heap.size w x → x.cell? ⟨g, ip * 5 + 4, none⟩ = some (.int .i64 e.hd)) := fun x hx => by
    have := ((hE ip e he).later hx).2 4 (.int .i64 e.hd) rfl
    rwa [Nat.zero_add] at this
  have e1 : ¬ (ip : Int) < 0 := by omega
  have e2 : ¬ (l.length : Int) ≤ (ip : Int) := by omega
  have e3 : (ip : Int) < (l.length : Int) := by omega
  have e4 : ¬ l.length ≤ ip := by omega
  have ew : wrap64 (e.hd + -1) = e.hd + -1 := wrapIs (by omega) (by omega)
  clear hE hR he hlc hcc
  go_enter Tryz.func30, Tryz.ntmps30
  go_upto_region 1 with fail
  change Code.wp _ _ _ _ (w.alloc (.cells (nov 0 none 0 0 none 0 0) 38))
  generalize w.alloc (.cells (nov 0 none 0 0 none 0 0) 38) = W0 at r0 b0 ⊢
  have c4 := hc4.out _ b0
  go_upto_region 6 with (first | (go_at_call 58; refine (HF.out _).mono ?_; rintro r w1 ⟨rfl, hw1⟩; obtain rfl := hw1.symm) | (go_at_call 59; refine (HC.out _ b0).mono ?_; rintro r w2 ⟨v2, rfl, ho2, hb2⟩))
  clear c4
  obtain ⟨g2, c2, cs2, rfl, hE2, hR2, hlc2, hcc2⟩ : ∃ g2 c2 cs2, v2 = .slice (some ⟨g2, 0, none⟩) l.length c2 ∧ ElsAt g2 0 l w2 ∧ RowAt g2 cs2 66 w2 ∧ l.length ≤ c2 ∧ c2 ≤ 9223372036854775807 := by
    rcases XsAt.of_own ho2 with ⟨h0, _⟩ | ⟨g2, c2, cs2, q1, q2, q3, q4, q5⟩
    · exfalso; subst h0; simp at hk
    · exact ⟨g2, c2, cs2, q1, q2, q3, q4, q5⟩
  have d4 : w2.cell? ⟨g2, ip * 5 + 4, none⟩ = some (.int .i64 e.hd) := by
    have := (hE2 ip e HE.out).2 4 (.int .i64 e.hd) rfl
    rwa [Nat.zero_add] at this
  have f4 : w2.frozen? ⟨g2, ip * 5 + 4, none⟩ = false := Lib.frozen_of_heap hR2 _
  have r2 := r0.later hb2
  have hne : ¬ w.heap.size = g2 := rowsNe r2 hR2 (by decide)
  have hge : w.heap.size ≤ g2 := Nat.le_trans b0.size (ho2.lt g2 rfl).1
  go_upto_region 7 with fail
  have hE3 := els_hd hE2 hR2 HE.out (-1)
  have hR3 : RowAt g2 (cs2.setIfInBounds (ip * 5 + 4) (.int .i64 (e.hd + -1))) 66 (w2.setCell ⟨g2, ip * 5 + 4, none⟩ (.int .i64 (e.hd + -1))) := heap_setCell_at hR2 _ _
  have k3 : Kp g2 w2 (w2.setCell ⟨g2, ip * 5 + 4, none⟩ (.int .i64 (e.hd + -1))) := Kp.cell _ _ _
  generalize w2.setCell ⟨g2, ip * 5 + 4, none⟩ (.int .i64 (e.hd + -1)) = W3 at hE3 hR3 k3 ⊢
  have r3 := r2.kp k3 hne
  have hB3 := k3.new (bgo b0 hb2) hge
  go_wp2_with (refine wpL_storeNo rfl _ _ rfl rfl rfl r3 ?_)
  have k4 : Kp w.heap.size W3 (W3.setRow w.heap.size (nov 0 none 0 0 none 0 0)) := Kp.row _ _
  exact bodyPost_ret (v := .tuple #[.slice (some ⟨g2, 0, none⟩) l.length c2, .agg (nov 0 none 0 0 none 0 0)]) (results_tNo (fn := Tryz.f30) (t := 6) (u := 7) rfl rfl (r3.put (nov 0 none 0 0 none 0 0)) rfl) rfl ⟨_, rfl, .inr ⟨g2, c2, _, by rw [hlen], fun i x hx => (hE3 i x hx).kp k4 (fun q => hne q.symm), hR3.kp k4 (fun q => hne q.symm), by omega, hcc2⟩, below_row hB3 (Nat.le_refl _) _⟩
set_option maxHeartbeats 2000000 in
theorem refAdd_upNo {w : World} {u : Value} {l : List El} (hl : XsAt w u l) (ip : Nat) (e : El) (he : l[ip]? = some e) (h1 : -1099511627776 ≤ e.hd) (h2 : e.hd ≤ 1099511627776) (hfr : fairH (e.hd + 1) = false) :
    Calls Tryz.prog 30 #[u, .int .i64 (ip : Int), .int .i64 (1)] w fun r w' => ∃ g g', r = .returned (.tuple #[u, .agg (nov 1 (some ⟨g', 0, none⟩) 1 1 (some ⟨g, 0, none⟩) 1 1)]) ∧ Below w.heap.size w w' := by
  have r0 := row_new w (nov 0 none 0 0 none 0 0) 38
  have b0 := below_one w (.cells (nov 0 none 0 0 none 0 0) 38)
  have HF := hid_of' (refFair_any (e.hd + 1))
  rw [hfr] at HF
  have hk := (List.getElem?_eq_some_iff.1 he).1
  rcases hl with ⟨h0, _⟩ | ⟨g, c, cs, rfl, hE, hR, hlc, hcc⟩
  · exfalso; subst h0; simp at he
  have HS := hid_of' (fun x => say_any bModel bAdd (ip : Int) 1 x (by decide))
  have hc4 : Hid (∀ x, Below w.heap.size w x → x.cell? ⟨g, ip * 5 + 4, none⟩ = some (.int .i64 e.hd)) := fun x hx => by
    have := ((hE ip e he).later hx).2 4 (.int .i64 e.hd) rfl
    rwa [Nat.zero_add] at this
  have e1 : ¬ (ip : Int) < 0 := by omega
  have e2 : ¬ (l.length : Int) ≤ (ip : Int) := by omega
  have e3 : (ip : Int) < (l.length : Int) := by omega
  have e4 : ¬ l.length ≤ ip := by omega
  have ew : wrap64 (e.hd + 1) = e.hd + 1 := wrapIs (by omega) (by omega)
  clear hE hR he hlc hcc
  go_enter Tryz.func30, Tryz.ntmps30
  go_upto_region 1 with fail
  change Code.wp _ _ _ _ (w.alloc (.cells (nov 0 none 0 0 none 0 0) 38))
  generalize w.alloc (.cells (nov 0 none 0 0 none 0 0) 38) = W0 at r0 b0 ⊢
  have c4 := hc4.out _ b0
  go_wp2_with (first | (go_at_call 58; refine (HF.out _).mono ?_; rintro r w1 ⟨rfl, hw1⟩; obtain rfl := hw1.symm) | (go_at_call 38; refine (HS.out _).mono ?_; rintro r w2 ⟨g2, g3, rfl, k1, k2, k3, k4, hb2⟩) | (refine wpL_storeNo rfl _ _ rfl rfl rfl (r0.later hb2) ?_))
  exact bodyPost_ret (v := .tuple #[.slice (some ⟨g, 0, none⟩) l.length c, .agg (nov 1 (some ⟨g3, 0, none⟩) 1 1 (some ⟨g2, 0, none⟩) 1 1)]) (results_tNo (fn := Tryz.f30) (t := 6) (u := 7) rfl rfl ((r0.later hb2).put (nov 1 (some ⟨g3, 0, none⟩) 1 1 (some ⟨g2, 0, none⟩) 1 1)) rfl) rfl ⟨g2, g3, rfl, below_row (bgo b0 hb2) (Nat.le_refl _) _⟩
set_option maxHeartbeats 2000000 in
theorem refAdd_downNo {w : World} {u : Value} {l : List El} (hl : XsAt w u l) (ip : Nat) (e : El) (he : l[ip]? = some e) (h1 : -1099511627776 ≤ e.hd) (h2 : e.hd ≤ 1099511627776) (hfr : fairH (e.hd + -1) = false) :
    Calls Tryz.prog 30 #[u, .int .i64 (ip : Int), .int .i64 (-1)] w fun r w' => ∃ g g', r = .returned (.tuple #[u, .agg (nov 1 (some ⟨g', 0, none⟩) 1 1 (some ⟨g, 0, none⟩) 1 1)]) ∧ Below w.heap.size w w' := by
  have r0 := row_new w (nov 0 none 0 0 none 0 0) 38
  have b0 := below_one w (.cells (nov 0 none 0 0 none 0 0) 38)
  have HF := hid_of' (refFair_any (e.hd + -1))
  rw [hfr] at HF
  have hk := (List.getElem?_eq_some_iff.1 he).1
  rcases hl with ⟨h0, _⟩ | ⟨g, c, cs, rfl, hE, hR, hlc, hcc⟩
  · exfalso; subst h0; simp at he
  have HS := hid_of' (fun x => say_any bModel bAdd (ip : Int) 1 x (by decide))
  have hc4 : Hid (∀ x, Below w.heap.size w x → x.cell? ⟨g, ip * 5 + 4, none⟩ = some (.int .i64 e.hd)) := fun x hx => by
    have := ((hE ip e he).later hx).2 4 (.int .i64 e.hd) rfl
    rwa [Nat.zero_add] at this
  have e1 : ¬ (ip : Int) < 0 := by omega
  have e2 : ¬ (l.length : Int) ≤ (ip : Int) := by omega
  have e3 : (ip : Int) < (l.length : Int) := by omega
  have e4 : ¬ l.length ≤ ip := by omega
  have ew : wrap64 (e.hd + -1) = e.hd + -1 := wrapIs (by omega) (by omega)
  clear hE hR he hlc hcc
  go_enter Tryz.func30, Tryz.ntmps30
  go_upto_region 1 with fail
  change Code.wp _ _ _ _ (w.alloc (.cells (nov 0 none 0 0 none 0 0) 38))
  generalize w.alloc (.cells (nov 0 none 0 0 none 0 0) 38) = W0 at r0 b0 ⊢
  have c4 := hc4.out _ b0
  go_wp2_with (first | (go_at_call 58; refine (HF.out _).mono ?_; rintro r w1 ⟨rfl, hw1⟩; obtain rfl := hw1.symm) | (go_at_call 38; refine (HS.out _).mono ?_; rintro r w2 ⟨g2, g3, rfl, k1, k2, k3, k4, hb2⟩) | (refine wpL_storeNo rfl _ _ rfl rfl rfl (r0.later hb2) ?_))
  exact bodyPost_ret (v := .tuple #[.slice (some ⟨g, 0, none⟩) l.length c, .agg (nov 1 (some ⟨g3, 0, none⟩) 1 1 (some ⟨g2, 0, none⟩) 1 1)]) (results_tNo (fn := Tryz.f30) (t := 6) (u := 7) rfl rfl ((r0.later hb2).put (nov 1 (some ⟨g3, 0, none⟩) 1 1 (some ⟨g2, 0, none⟩) 1 1)) rfl) rfl ⟨g2, g3, rfl, below_row (bgo b0 hb2) (Nat.le_refl _) _⟩
end Go.Proofs.YtjopeojnlibagaaGreatDoor
namespace Go.Proofs.YtjopeojnlibagaaGreatDoor
open Go.RowKit Go.Extern.Stop Go.Stop Go.Extern
set_option maxRecDepth 100000

/-- How far the ranks are apart behind so many Inserts. -/
def gk : Nat → Int
  | 0 => 18014398509481984
  | k + 1 => gk k / 2
theorem gk_two : ∀ k : Nat, k < 41 → 2 ≤ gk k := by decide
/-- A change that came in. -/
structure Chg where
  d : Int
  i : Int
  dn : Bool
  e : El
def chv (c : Chg) : Array Value := #[.int .i64 c.d, .int .i64 c.i, .bool c.dn, .int .i64 c.e.ep, .int .i64 c.e.rp, .int .i64 c.e.no, .int .i32 c.e.ch, .int .i64 c.e.hd]
def Chg.In (c : Chg) : Prop := In64 c.d ∧ In64 c.i ∧ c.e.id.In
theorem ch_size (c : Chg) : (Tryz.prog.info? 68).map (·.size) = some (chv c).size := (by kernel_rfl : (Tryz.prog.info? 68).map (·.size) = some 8)
theorem ch_el {w : World} {g o_ : Nat} {c : Chg} (h : CsIn g o_ (chv c) w) : CsIn g (o_ + 3) (ev c.e) w :=
  ⟨h.1, fun j v hv => by
    rw [show o_ + 3 + j = o_ + (j + 3) by omega]
    refine h.2 (j + 3) v ?_
    match j, hv with
    | 0, hv => exact hv
    | 1, hv => exact hv
    | 2, hv => exact hv
    | 3, hv => exact hv
    | 4, hv => exact hv
    | j + 5, hv => exact absurd hv (by simp [ev])⟩
/-- A row of changes. -/
def SlH (w : World) (v : Value) (l : List Chg) : Prop := (l = [] ∧ ∃ a c, v = .slice a 0 c) ∨ ∃ g o_ c, v = .slice (some ⟨g, o_, none⟩) l.length c ∧ ∀ (i : Nat) (x : Chg), l[i]? = some x → CsIn g (o_ + i * 8) (chv x) w
theorem SlH.form {w : World} {v : Value} {l : List Chg} (h : SlH w v l) : ∃ a c, v = .slice a l.length c := by
  rcases h with ⟨rfl, a, c, h⟩ | ⟨g, o_, c, h, _⟩
  · exact ⟨a, c, h⟩
  · exact ⟨_, c, h⟩
section
variable {ops : Array Oper} {rest : List Oper} {o : Oper} {A : Act} {w : World} {Q : Exit → Act → World → Prop}
theorem wpL_loadH (hgd : o.guard = none) (x : Operand) (ho : o.op = .load 68 x) {b off : Nat} (hx : A.eval x = .pointer (some ⟨b, off, none⟩)) {c : Chg} (h : CsIn b off (chv c) w)
    (k : wpList Tryz.prog ops Q rest (A.put o.dst (.agg (chv c))) w) : wpList Tryz.prog ops Q (o :: rest) A w :=
  wpList_plain hgd fun _ hK => by
    unfold Oper.wp execOp
    simp only [ho, hx, Instr.loadAt, Instr.sureAddr, Sem.run_bind, Sem.run_pure, Result.andThen_ok, run_loadVar_in h Tryz.underlying68 rfl (ch_size c)]
    exact hK _ _ k
theorem wpL_storeH (hgd : o.guard = none) (x y : Operand) (ho : o.op = .store 68 x y) {g : Nat} (hx : A.eval x = .pointer (some ⟨g, 0, none⟩)) {c : Chg} (hy : A.eval y = .agg (chv c)) {c0 c1 c2 c3 c4 c5 c6 c7 : Value} (h : RowAt g #[c0, c1, c2, c3, c4, c5, c6, c7] 68 w)
    (k : wpList Tryz.prog ops Q rest (A.put o.dst undef) (w.setRow g (chv c))) : wpList Tryz.prog ops Q (o :: rest) A w :=
  wpList_store_row hgd _ x y ho g (chv c) hx hy _ _ h (ch_size c) rfl (by simp [chv, Value.oneCell']) k
end
/-- The law's state: a Model, a list of the same elements, and an anchor over it. -/
structure StM (w0 : World) (mb ab : Nat) (F : Bool) (A B C : Int) (G : Int) (N : Nat) (v : Value) (xs : List El) (wr : World) : Prop where
  md : ∃ tb kb n R f, MdAt mb tb kb n R xs f wr ∧ Rks f xs G ∧ n ≤ N ∧ w0.heap.size ≤ tb ∧ w0.heap.size ≤ kb ∧ ¬ ab = tb ∧ ¬ ab = kb
  xa : XsAt wr v xs
  an : RowAt ab (anc F A B C) 31 wr
  good : ∀ (i : Nat) (e : El), xs[i]? = some e → e.Good
  apart : Apart xs
  len : xs.length ≤ N
  low : Below w0.heap.size w0 wr
theorem StM.later {w0 : World} {mb ab : Nat} {F : Bool} {A B C G : Int} {N : Nat} {v : Value} {xs : List El} {wr w' : World} (h : StM w0 mb ab F A B C G N v xs wr) (hb : Below wr.heap.size wr w') : StM w0 mb ab F A B C G N v xs w' := by
  obtain ⟨tb, kb, n, R, f, h1, h2⟩ := h.md
  exact ⟨⟨tb, kb, n, R, f, h1.later hb, h2⟩, h.xa.later hb, h.an.later hb, h.good, h.apart, h.len, bgo h.low hb⟩
theorem StM.weak {w0 : World} {mb ab : Nat} {F : Bool} {A B C G G' : Int} {N N' : Nat} {v : Value} {xs : List El} {wr : World} (h : StM w0 mb ab F A B C G N v xs wr) (hg : G' ≤ G) (hn : N ≤ N') : StM w0 mb ab F A B C G' N' v xs wr := by
  obtain ⟨tb, kb, n, R, f, h1, h2, h3, h4⟩ := h.md
  exact ⟨⟨tb, kb, n, R, f, h1, h2.weak hg, by omega, h4⟩, h.xa, h.an, h.good, h.apart, by have := h.len; omega, h.low⟩
theorem StM.mrk {w0 : World} {mb ab : Nat} {F : Bool} {A B C G : Int} {N : Nat} {v : Value} {xs : List El} {wr : World} (h : StM w0 mb ab F A B C G N v xs wr) (hg : 1 ≤ G) (hN : N ≤ 1000000) : Mrk mb xs wr := by
  obtain ⟨tb, kb, n, R, f, h1, h2, _⟩ := h.md
  exact ⟨⟨tb, kb, n, R, f, h1, h2.weak hg⟩, fun j e he => (h.good j e he).1, by have := h.len; omega⟩
/-- The Model takes an element at a place, the list is another one with it. -/
theorem StM.ins {w0 : World} {mb ab : Nat} {F : Bool} {A B C G : Int} {N : Nat} {v v' : Value} {xs : List El} {w1 w2 : World} (h : StM w0 mb ab F A B C G N v xs w1) (hb : Below w1.heap.size w1 w2) {p : Nat} {e : El} (hp : p ≤ xs.length) (hw : wrK xs e = none) (hi : e.id.In) (hx : XsAt w2 v' (insE xs p e)) (hg : 2 ≤ G) (hN : N ≤ 1000000) :
    Calls Tryz.prog 28 #[pv mb, .int .i64 (p : Int), .agg (ev e)] w2 fun r w' => r = .returned .nilIface ∧ StM w0 mb ab F A B C (G / 2) (N + 1) v' (insE xs p e) w' ∧ w2.heap.size ≤ w'.heap.size ∧ ∀ b cs (t : TypeId), RowAt b cs t w2 → t = 68 → RowAt b cs t w' := by
  obtain ⟨tb, kb, n, R, f, h1, h2, h3, h4, h5, h6, h7⟩ := (h.later hb).md
  obtain ⟨q1, q2, q3⟩ := wrK_none hw
  have hfn : (f e.id).isSome = false := by
    cases hq : (f e.id).isSome with
    | false => rfl
    | true => rw [h2.only _ hq] at q3; cases q3
  have hlen := h.len
  refine (insert_rk h1 h2 hg p e hp ⟨hi, q1, q2⟩ (fun j x hj => (h.good j x hj).1) hfn (by omega) (by omega)).mono ?_
  rintro r w' ⟨n', f', rfl, r1, r2, r3, r4⟩
  obtain ⟨ls, tv, ht, _⟩ := h1.tree
  have hno : ∀ x ∈ xs, x.id ≠ e.id := fun x hx q => by
    have : hasI xs e.id = true := List.any_eq_true.2 ⟨x, hx, by simp [q]⟩
    rw [this] at q3; cases q3
  refine ⟨rfl, ⟨⟨tb, kb, n', R, f', r2, r3, by omega, h4, h5, h6, h7⟩, hx.k2 r4 ht (by decide) h1.map.obj, ((h.an.later hb).k2 r4 h6 h7), fun i x hx => ?_, h.apart.ins hp hno, by rw [insE_len hp]; omega, K2.below (bgo h.low hb) r4 h4 h5 (bgo h.low hb).size⟩, r4.size, fun b cs t hr ht2 => ?_⟩
  · rcases mem_ins (List.mem_of_getElem? hx) with q | q
    · rw [q]; exact ⟨hi, q1, q2⟩
    · obtain ⟨j, hj⟩ := List.getElem?_of_mem q; exact h.good j x hj
  · refine hr.k2 r4 (rowsNe hr ht (by rw [ht2]; decide)) (fun q => ?_)
    obtain ⟨o, ho, hc⟩ := h1.map.obj
    have hr' : w2.heap[b]? = _ := hr
    rw [q, ho] at hr'
    cases hr'
    cases hc
theorem good_add {xs : List El} {p : Nat} {e : El} {d : Int} (h : ∀ (i : Nat) (e : El), xs[i]? = some e → e.Good) (he : xs[p]? = some e) (hf : fairH (e.hd + d) = true) : ∀ (i : Nat) (e : El), (addE xs p d)[i]? = some e → e.Good := fun i x hx => by
  rw [addE_at] at hx
  by_cases q : i = p
  · rw [if_pos q, q, he] at hx
    cases hx
    have := h p e he
    exact ⟨this.1, this.2.1, hf⟩
  · rw [if_neg q] at hx
    exact h i x hx
theorem fairH_b {n : Int} (h : fairH n = true) : -1099511627776 ≤ n ∧ n ≤ 1099511627776 := by
  unfold fairH at h
  simp only [Bool.and_eq_true, decide_eq_true_eq] at h
  exact h
/-- The Model's Add, the list is another one with it. -/
theorem StM.up {w0 : World} {mb ab : Nat} {F : Bool} {A B C G : Int} {N : Nat} {v v' : Value} {xs : List El} {w1 w2 : World} (h : StM w0 mb ab F A B C G N v xs w1) (hb : Below w1.heap.size w1 w2) {p : Nat} {e : El} (he : xs[p]? = some e) (hf : fairH (e.hd + 1) = true) (hx : XsAt w2 v' (addE xs p (1))) (hN : N ≤ 1000000) :
    Calls Tryz.prog 32 #[pv mb, .int .i64 (p : Int), .int .i64 (1)] w2 fun r w' => r = .returned .nilIface ∧ StM w0 mb ab F A B C G N v' (addE xs p (1)) w' ∧ w2.heap.size ≤ w'.heap.size := by
  obtain ⟨tb, kb, n, R, f, h1, h2, h3, h4, h5, h6, h7⟩ := (h.later hb).md
  have hgd := h.good p e he
  have hbd := fairH_b hgd.2.2
  have hlen := h.len
  refine (add_upX h1 p e he hbd.1 hbd.2 hf (by omega)).mono ?_
  rintro r w' ⟨rfl, r2, r4⟩
  obtain ⟨ls, tv, ht, _⟩ := h1.tree
  have r4' : K2 tb kb w2 w' := K2.one r4
  exact ⟨rfl, ⟨⟨tb, kb, n, R, f, r2, h2.add p (1), h3, h4, h5, h6, h7⟩, hx.k2 r4' ht (by decide) h1.map.obj, (h.an.later hb).k2 r4' h6 h7, good_add h.good he hf, h.apart.add, by rw [addE_len]; exact hlen, K2.below (bgo h.low hb) r4' h4 h5 (bgo h.low hb).size⟩, r4.size⟩
/-- The Model's Add, the list is another one with it. -/
theorem StM.down {w0 : World} {mb ab : Nat} {F : Bool} {A B C G : Int} {N : Nat} {v v' : Value} {xs : List El} {w1 w2 : World} (h : StM w0 mb ab F A B C G N v xs w1) (hb : Below w1.heap.size w1 w2) {p : Nat} {e : El} (he : xs[p]? = some e) (hf : fairH (e.hd + -1) = true) (hx : XsAt w2 v' (addE xs p (-1))) (hN : N ≤ 1000000) :
    Calls Tryz.prog 32 #[pv mb, .int .i64 (p : Int), .int .i64 (-1)] w2 fun r w' => r = .returned .nilIface ∧ StM w0 mb ab F A B C G N v' (addE xs p (-1)) w' ∧ w2.heap.size ≤ w'.heap.size := by
  obtain ⟨tb, kb, n, R, f, h1, h2, h3, h4, h5, h6, h7⟩ := (h.later hb).md
  have hgd := h.good p e he
  have hbd := fairH_b hgd.2.2
  have hlen := h.len
  refine (add_downX h1 p e he hbd.1 hbd.2 hf (by omega)).mono ?_
  rintro r w' ⟨rfl, r2, r4⟩
  obtain ⟨ls, tv, ht, _⟩ := h1.tree
  have r4' : K2 tb kb w2 w' := K2.one r4
  exact ⟨rfl, ⟨⟨tb, kb, n, R, f, r2, h2.add p (-1), h3, h4, h5, h6, h7⟩, hx.k2 r4' ht (by decide) h1.map.obj, (h.an.later hb).k2 r4' h6 h7, good_add h.good he hf, h.apart.add, by rw [addE_len]; exact hlen, K2.below (bgo h.low hb) r4' h4 h5 (bgo h.low hb).size⟩, r4.size⟩
end Go.Proofs.YtjopeojnlibagaaGreatDoor
namespace Go.Proofs.YtjopeojnlibagaaGreatDoor
open Go.RowKit Go.Extern.Stop Go.Stop Go.Extern
set_option maxRecDepth 100000

theorem stm_of {B mb ab : Nat} {v : Value} {xs : List El} {w w1 x : World} {F : Bool} {A' B' C' : Int} (hbg : Bgn B mb v xs w1) (hB : w.heap.size ≤ B) (hb1 : Below w.heap.size w w1) (hx : Below w1.heap.size w1 x) (hab : w1.heap.size ≤ ab) (an : RowAt ab (anc F A' B' C') 31 x) : StM w mb ab F A' B' C' (gk 0) 80 v xs x := by
  obtain ⟨tb, kb, n, R, f, h1, h2, h3, _, h5, h6, _⟩ := hbg.wide
  obtain ⟨base, hO, _⟩ := hbg.own
  have hkl := h1.map.lt
  have htl : tb < w1.heap.size := by obtain ⟨ls, v, ht, _⟩ := h1.tree; exact ht.lt
  have hl := hbg.len
  exact ⟨⟨tb, kb, n, R, f, h1.later hx, h2, by omega, by omega, by omega, by omega, by omega⟩, (XsAt.of_own hO).later hx, an, hbg.good, hbg.apart, hl, bgo hb1 hx⟩
theorem gk_half {k : Nat} (h : 2 ≤ gk k) : gk (k + 1) ≤ gk k := by show gk k / 2 ≤ gk k; omega
set_option maxHeartbeats 32000000 in
theorem anchorStays_all {ad : Nat → Addr} {w : World} {u uc : Value} {l : List El} {cs : List Chg} (at_ : Int) (L : Laid ad w) (hu : SlE w u l) (hlm : l.length ≤ 9223372036854775807) (hin : ∀ e ∈ l, e.id.In) (hat : In64 at_) (hc : SlH w uc cs) (hci : ∀ c ∈ cs, c.In) :
    Calls Tryz.prog 6 #[u, .int .i64 at_, uc] w fun r w' => r = .returned (.bool true) ∧ Below w.heap.size w w' := by
  obtain ⟨a', c', rfl⟩ := hu.form
  obtain ⟨ac, cc, rfl⟩ := hc.form
  have HB := hid_of' (begun13 hu hlm hin)
  have HL := hid_of' L
  clear hu L hin hlm
  unfold pv at HB
  go_enter Tryz.func6, Tryz.ntmps6
  go_upto_region 5 with (first | (go_at_call 8; refine HB.out.mono ?_; rintro r w1 ⟨B, mb, v, xs, hBs, rfl, hbg, hxs, hb1⟩; clear HB) | (refine wpL_storeA rfl _ _ rfl rfl rfl (row_new w1 _ _) ?_))
  clear hxs
  have r9 := rA w1 (anc true 0 0 0)
  have hB2 := zA w1 (anc true 0 0 0)
  generalize (w1.alloc (.cells #[.bool false, .int .i64 0, .int .i64 0, .int .i64 0] 31)).setRow w1.heap.size (anc true 0 0 0) = W2 at r9 hB2 ⊢
  have HST : Hid (∀ (x : World) (F : Bool) (A B C : Int), Below w1.heap.size w1 x → RowAt w1.heap.size (anc F A B C) 31 x → StM w mb w1.heap.size F A B C (gk 0) 80 v xs x) := fun x F A B C hx hr => stm_of hbg hBs hb1 hx (Nat.le_refl _) hr
  have hlen := hbg.len
  have HG : Hid (∀ (i : Nat) (e : El), xs[i]? = some e → e.id.In) := fun i e he => hbg.ins e (List.mem_of_getElem? he)
  have hab : Hid (w.heap.size ≤ w1.heap.size) := hb1.size
  obtain ⟨base, hO, _⟩ := hbg.own
  have hX := hid_of' ((XsAt.of_own hO).later hB2)
  obtain ⟨a1, c1, rfl⟩ := hO.form
  clear hO hbg hBs hb1
  generalize w1.heap.size = ab at *
  go_upto_if 36 with fail
  go_cut [10] from 33 (fun _ wx => ∃ (F : Bool) (A B C own q : Int), StM w mb ab F A B C (gk 0) 80 (.slice a1 xs.length c1) xs wx ∧ AnIn xs F A B C own q ∧ (⟨A, B, C⟩ : Idn).In)
  case first =>
    by_cases h0 : xs.length = 0
    · rw [show decide (0 < xs.length) = false from decide_eq_false (by omega)]
      clear h0
      go_wp2
      go_meet
      case rel => exact ⟨true, 0, 0, 0, -1, 0, HST.out _ _ _ _ _ hB2 r9, .inl ⟨rfl, rfl, rfl⟩, idn3 ⟨by decide, by decide⟩⟩
    · have h0i : (0 : Int) < (xs.length : Int) := by omega
      have h0n : 0 < xs.length := by omega
      have HWi := hid_of' (within_is at_ (xs.length + 1) W2 (by omega) (by omega) hat)
      have hwl := wiN_lt (n := at_) (m := xs.length + 1) (by omega)
      rw [show ((xs.length + 1 : Nat) : Int) = (xs.length : Int) + 1 by omega] at HWi
      generalize wiN at_ (xs.length + 1) = kk at *
      by_cases hkk : kk < xs.length
      · have hki : (kk : Int) < (xs.length : Int) := by omega
        obtain ⟨e, he⟩ : ∃ e, xs[kk]? = some e := ⟨_, List.getElem?_eq_getElem hkk⟩
        rcases hX.out.sl with ⟨q0, _⟩ | ⟨g, o_, c, hvv, hcs⟩
        · exfalso; subst q0; simp at he
        simp only [Value.slice.injEq] at hvv
        obtain ⟨rfl, hl9, rfl⟩ := hvv
        clear hl9
        have hI := id_at (hcs kk e he)
        have HE := hid_of' he
        clear hcs he
        go_wp2_with (first | (go_at_call 25; (with_reducible refine HWi.out.mono ?_); rintro r w3 ⟨rfl, hw3⟩; obtain rfl := hw3.symm; clear HWi) | (refine wpL_loadI rfl _ rfl rfl hI ?_; unfold idc) | (refine wpL_storeA rfl _ _ rfl rfl rfl r9 ?_))
        go_meet
        case rel => exact ⟨false, e.ep, e.rp, e.no, (kk : Int), liveL (xs.take (kk + 1)), HST.out _ _ _ _ _ (below_row hB2 (Nat.le_refl _) _) (r9.put _), .inr ⟨rfl, kk, e, HE.out, rfl, rfl, rfl⟩, HG.out kk e HE.out⟩
      · have hki : ¬ (kk : Int) < (xs.length : Int) := by omega
        go_wp2_with (go_at_call 25; (with_reducible refine HWi.out.mono ?_); rintro r w3 ⟨rfl, hw3⟩; obtain rfl := hw3.symm; clear HWi)
        go_meet
        case rel => exact ⟨true, 0, 0, 0, -1, 0, HST.out _ _ _ _ _ hB2 r9, .inl ⟨rfl, rfl, rfl⟩, idn3 ⟨by decide, by decide⟩⟩
  case rest =>
    obtain ⟨F, A, B, C, own0, q0, hS0, hA0, hidn⟩ := hcut
    replace hidn := hid_of' hidn
    clear HST HG hX r9 hB2 hat
    go_wp2
    go_loopw [8, 11] (fun xv iv wr => ∃ (k : Nat) (ys : List El) (own q : Int), iv = .int .i64 (k : Int) ∧ k ≤ 40 ∧ k ≤ cs.length ∧ StM w mb ab F A B C (gk k) (80 + k) xv ys wr ∧ AnIn ys F A B C own q) (fun _ iv _ => 40 - (intOf iv).toNat)
    case atStart => exact ⟨0, xs, own0, q0, rfl, Nat.zero_le _, Nat.zero_le _, hS0, hA0⟩
    case round =>
      clear hS0 hA0
      obtain ⟨k, ys, own, q, rfl, hk40, hkc, hS, hA⟩ := hrel
      replace hS := hid_of' hS
      replace hA := hid_of' hA
      obtain ⟨a8, c8, rfl⟩ := hS.out.xa.form
      by_cases hlt : k < cs.length ∧ k < 40
      · obtain ⟨hlt, hlt4⟩ := hlt
        have hki : (k : Int) < (cs.length : Int) := by omega
        have hk4i : (k : Int) < 40 := by omega
        obtain ⟨c, hcz⟩ : ∃ c, cs[k]? = some c := ⟨_, List.getElem?_eq_getElem hlt⟩
        have hcin := hid_of' (hci c (List.mem_of_getElem? hcz))
        rcases hc with ⟨h0, _⟩ | ⟨g, o_, cx, hvv, hcell⟩
        · exfalso; subst h0; simp at hcz
        simp only [Value.slice.injEq] at hvv
        obtain ⟨rfl, hlen9, rfl⟩ := hvv
        clear hlen9
        have hcc := (hcell k c hcz).later hS.out.low
        have hlenY := hS.out.len
        have hqb := hA.out.b
        have hg2 : Hid (2 ≤ gk k) := gk_two k (by omega)
        go_upto_region 13 with (first | (refine wpL_loadH rfl _ rfl rfl hcc ?_) | (refine wpL_storeH rfl _ _ rfl rfl rfl (row_new wr _ _) ?_))
        have r12 := (row_new wr #[.int .i64 0, .int .i64 0, .bool false, .int .i64 0, .int .i64 0, .int .i64 0, .int .i32 0, .int .i64 0] 68).put (chv c)
        have hB1 : Below wr.heap.size wr ((wr.alloc (.cells #[.int .i64 0, .int .i64 0, .bool false, .int .i64 0, .int .i64 0, .int .i64 0, .int .i32 0, .int .i64 0] 68)).setRow wr.heap.size (chv c)) := below_row (below_one wr _) (Nat.le_refl _) _
        generalize (wr.alloc (.cells #[.int .i64 0, .int .i64 0, .bool false, .int .i64 0, .int .i64 0, .int .i64 0, .int .i32 0, .int .i64 0] 68)).setRow wr.heap.size (chv c) = W1 at r12 hB1 ⊢
        clear hcc hcell hcz
        replace hS := hid_of' (hS.out.later hB1)
        clear hB1
        generalize wr.heap.size = cb at r12 ⊢
        have HW := hid_of' (where_any (HL.out.below hS.out.low) (hS.out.mrk (by have := hg2.out; omega) (by omega)) hidn.out hA.out.wh)
        have ran := hS.out.an
        unfold pv at HW
        go_upto_region 16 with (first | (refine wpL_loadA rfl _ rfl rfl ran.in ?_) | (go_at_call 12; refine HW.out.mono ?_; rintro r w3 ⟨rfl, hb3⟩; clear HW))
        replace hS := hid_of' (hS.out.later hb3)
        replace ran := ran.later hb3
        replace r12 := r12.later hb3
        clear hb3
        have c90 : w3.cell? ⟨ab, 0, none⟩ = some (.bool F) := ran.cell 0
        go_upto_if 76 with fail
        go_cut [15] from 52 to 173 (fun s15 wx => s15 = .int .i64 own ∧ Below w3.heap.size w3 wx)
        case first =>
          rcases hA.out with ⟨hF, hown, hq9⟩ | ⟨hF, ko, eo, heo, hido, hown, hq9⟩
          · clear hq9
            subst hF
            subst hown
            go_wp2
            go_meet
            case rel => exact ⟨rfl, Below.refl _ _⟩
          · clear hq9
            subst hF
            have HI := hid_of' (refIndex_any hS.out.xa.sl ⟨A, B, C⟩ (by omega))
            rw [ixI_in hS.out.apart heo hido, ← hown] at HI
            clear hown heo hido
            have hI := anc_id ran.in
            go_wp2_with (first | (refine wpL_loadI rfl _ rfl rfl hI ?_) | (go_at_call 26; refine HI.out.mono ?_; rintro r w4 ⟨rfl, hb4⟩))
            go_meet
            case rel => exact ⟨rfl, hb4⟩
        case rest =>
          obtain ⟨rfl, hb4⟩ := hcut
          clear c90
          replace hS := hid_of' (hS.out.later hb4)
          replace ran := ran.later hb4
          replace r12 := r12.later hb4
          clear hb4
          have d0 : wc.cell? ⟨cb, 0, none⟩ = some (.int .i64 c.d) := r12.cell 0
          have d1 : wc.cell? ⟨cb, 1, none⟩ = some (.int .i64 c.i) := r12.cell 1
          have d2 : wc.cell? ⟨cb, 2, none⟩ = some (.bool c.dn) := r12.cell 2
          have HWd := hid_of' (within_is c.d 2 wc (by decide) (by decide) hcin.out.1)
          have hkd := wiN_lt (n := c.d) (m := 2) (by decide)
          rw [show ((2 : Nat) : Int) = 2 from rfl] at HWd
          generalize wiN c.d 2 = kd at *
          go_upto_if 84 with (go_at_call 25; (with_reducible refine HWd.out.mono ?_); rintro r w5 ⟨rfl, hw5⟩; obtain rfl := hw5.symm; clear HWd)
          go_cut [8, 16, 17, 18, 19, 20, 21, 22, 23] from 52 to 173 (fun s8 s16 _ _ _ _ _ _ _ wx => ∃ (v9 : Value) (zs : List El) (bb own9 : Int), s8 = v9 ∧ s16 = .int .i64 bb ∧ StM w mb ab F A B C (gk (k + 1)) (80 + (k + 1)) v9 zs wx ∧ AnIn zs F A B C own9 (q + bb) ∧ -1 ≤ bb ∧ bb ≤ 1)
          case first =>
            obtain hkd | hkd : kd = 0 ∨ kd = 1 := by omega
            · subst hkd
              have HWp := hid_of' (within_is c.i (ys.length + 1) wc (by omega) (by omega) hcin.out.2.1)
              have hpl := wiN_lt (n := c.i) (m := ys.length + 1) (by omega)
              rw [show ((ys.length + 1 : Nat) : Int) = (ys.length : Int) + 1 by omega] at HWp
              generalize wiN c.i (ys.length + 1) = p at *
              have hEl : CsIn cb 3 (ev c.e) wc := by have := ch_el r12.in; rwa [Nat.zero_add] at this
              cases hwk : wrK ys c.e with
              | some kk =>
                have HI := hid_of' (refInsert_bad hS.out.xa.sl p c.e (by omega) (by omega) kk hwk)
                have hnz : (((kk : Int) + 1) == 0) = false := by rw [beq_eq_false_iff_ne]; omega
                clear hwk
                go_upto_region 23 with (first | (go_at_call 25; (with_reducible refine HWp.out.mono ?_); rintro r w5 ⟨rfl, hw5⟩; obtain rfl := hw5.symm; clear HWp) | (refine wpL_loadE rfl _ rfl rfl hEl ?_) | (go_at_call 27; (with_reducible refine HI.out.mono ?_); rintro r w5 ⟨g2, g3, rfl, hb5⟩; clear HI) | (refine wpL_storeNo rfl _ _ rfl rfl rfl (row_new w5 _ _) ?_))
                have r19 := (row_new w5 (nov 0 none 0 0 none 0 0) 38).put (nov ((kk : Int) + 1) (some ⟨g3, 0, none⟩) 1 1 (some ⟨g2, 0, none⟩) 1 1)
                have hB5 : Below w5.heap.size w5 ((w5.alloc (.cells (nov 0 none 0 0 none 0 0) 38)).setRow w5.heap.size (nov ((kk : Int) + 1) (some ⟨g3, 0, none⟩) 1 1 (some ⟨g2, 0, none⟩) 1 1)) := below_row (below_one w5 _) (Nat.le_refl _) _
                change Code.wp _ _ _ _ ((w5.alloc (.cells (nov 0 none 0 0 none 0 0) 38)).setRow w5.heap.size (nov ((kk : Int) + 1) (some ⟨g3, 0, none⟩) 1 1 (some ⟨g2, 0, none⟩) 1 1))
                generalize (w5.alloc (.cells (nov 0 none 0 0 none 0 0) 38)).setRow w5.heap.size (nov ((kk : Int) + 1) (some ⟨g3, 0, none⟩) 1 1 (some ⟨g2, 0, none⟩) 1 1) = W6 at r19 hB5 ⊢
                have c19 : W6.cell? ⟨w5.heap.size, 0, none⟩ = some (.int .i64 ((kk : Int) + 1)) := r19.cell 0
                go_wp2
                go_roundw
                case rel => exact ⟨k + 1, ys, own, q, by go_num, by omega, by omega, (hS.out.later (bgo hb5 hB5)).weak (gk_half hg2.out) (by omega), hA.out⟩
                case measure => simp [intOf]; omega
              | none =>
                have HI := hid_of' (refInsert_ok hS.out.xa.pl p c.e (by omega) (by omega) hwk)
                have hwk' := hid_of' hwk
                clear hwk
                go_upto_region 23 with (first | (go_at_call 25; (with_reducible refine HWp.out.mono ?_); rintro r w5 ⟨rfl, hw5⟩; obtain rfl := hw5.symm; clear HWp) | (refine wpL_loadE rfl _ rfl rfl hEl ?_) | (go_at_call 27; (with_reducible refine HI.out.mono ?_); rintro r w5 ⟨v5, rfl, ho5, hb5⟩; clear HI) | (refine wpL_storeNo rfl _ _ rfl rfl rfl (row_new w5 _ _) ?_))
                have r19 := (row_new w5 (nov 0 none 0 0 none 0 0) 38).put (nov 0 none 0 0 none 0 0)
                have hB5 : Below w5.heap.size w5 ((w5.alloc (.cells (nov 0 none 0 0 none 0 0) 38)).setRow w5.heap.size (nov 0 none 0 0 none 0 0)) := below_row (below_one w5 _) (Nat.le_refl _) _
                change Code.wp _ _ _ _ ((w5.alloc (.cells (nov 0 none 0 0 none 0 0) 38)).setRow w5.heap.size (nov 0 none 0 0 none 0 0))
                generalize (w5.alloc (.cells (nov 0 none 0 0 none 0 0) 38)).setRow w5.heap.size (nov 0 none 0 0 none 0 0) = W6 at r19 hB5 ⊢
                have c19 : W6.cell? ⟨w5.heap.size, 0, none⟩ = some (.int .i64 0) := r19.cell 0
                have hx6 := (XsAt.of_own ho5).later hB5
                have hb6 := bgo hb5 hB5
                have HN := hid_of' (hS.out.ins hb6 (p := p) (by omega) hwk'.out hcin.out.2.2 hx6 hg2.out (by omega))
                have hEl6 := hEl.later hb6
                have r12' := r12.later hb6
                obtain ⟨a9, c9, rfl⟩ := hx6.form
                obtain ⟨own', hA'⟩ := hA.out.ins (p := p) (by omega) c.e
                replace hA' := hid_of' hA'
                clear ho5 hb5 hB5 hx6 hb6 r19
                unfold pv at HN
                go_upto_region 27 with (first | (refine wpL_loadE rfl _ rfl rfl hEl6 ?_) | (go_at_call 28; (with_reducible refine HN.out.mono ?_); rintro r w7 ⟨rfl, hS7, _, hrow⟩; clear HN))
                replace hS7 := hid_of' hS7
                have r127 := hrow _ _ _ r12' rfl
                clear hrow hEl6 r12' c19
                have z0 : w7.cell? ⟨cb, 3, none⟩ = some (.int .i64 c.e.ep) := r127.cell 3
                have z1 : w7.cell? ⟨cb, 4, none⟩ = some (.int .i64 c.e.rp) := r127.cell 4
                have z2 : w7.cell? ⟨cb, 5, none⟩ = some (.int .i64 c.e.no) := r127.cell 5
                have z3 : w7.cell? ⟨cb, 6, none⟩ = some (.int .i32 c.e.ch) := r127.cell 6
                have z4 : w7.cell? ⟨cb, 7, none⟩ = some (.int .i64 c.e.hd) := r127.cell 7
                have HLv := hid_of' (live_any c.e)
                unfold ev at HLv
                by_cases hpo : (p : Int) ≤ own
                · by_cases hlv : c.e.hd > 0
                  · have hdv : decide (c.e.hd ≤ 0) = false := decide_eq_false (by omega)
                    have HBy : Hid ((if (p : Int) ≤ own then wLive c.e else 0) = 0) := by show _ = _; rw [if_pos hpo]; unfold wLive; rw [if_pos hlv]
                    rw [hdv] at HLv
                    clear hlv hdv
                    go_wp2_with (go_at_call 29; (with_reducible refine (HLv.out _).mono ?_); rintro r w8 ⟨rfl, hb8⟩)
                    go_meet
                    case rel => exact ⟨_, insE ys p c.e, 0, own', rfl, rfl, (hS7.out.later hb8), by have := hA'.out; rw [HBy.out] at this; exact this, by decide, by decide⟩
                  · have hdv : decide (c.e.hd ≤ 0) = true := decide_eq_true (by omega)
                    have HBy : Hid ((if (p : Int) ≤ own then wLive c.e else 0) = 1) := by show _ = _; rw [if_pos hpo]; unfold wLive; rw [if_neg hlv]
                    rw [hdv] at HLv
                    clear hlv hdv
                    go_wp2_with (go_at_call 29; (with_reducible refine (HLv.out _).mono ?_); rintro r w8 ⟨rfl, hb8⟩)
                    go_meet
                    case rel => exact ⟨_, insE ys p c.e, 1, own', rfl, rfl, (hS7.out.later hb8), by have := hA'.out; rw [HBy.out] at this; exact this, by decide, by decide⟩
                · have HBy : Hid ((if (p : Int) ≤ own then wLive c.e else 0) = 0) := by show _ = _; rw [if_neg hpo]
                  go_wp2
                  go_meet
                  case rel => exact ⟨_, insE ys p c.e, 0, own', rfl, rfl, hS7.out, by have := hA'.out; rw [HBy.out] at this; exact this, by decide, by decide⟩
            · subst hkd
              go_upto_if 119 with fail
              by_cases h0 : ys.length = 0
              · rw [show decide (0 < ys.length) = false from decide_eq_false (by omega)]
                clear h0
                go_wp2
                go_meet
                case rel => exact ⟨_, ys, 0, own, rfl, rfl, hS.out.weak (gk_half hg2.out) (by omega), by rw [Int.add_zero]; exact hA.out, by decide, by decide⟩
              · rw [show decide (0 < ys.length) = true from decide_eq_true (by omega)]
                have HWp := hid_of' (within_is c.i ys.length wc (by omega) (by omega) hcin.out.2.1)
                have hpl := wiN_lt (n := c.i) (m := ys.length) (by omega)
                generalize wiN c.i ys.length = p at *
                have hpi : (p : Int) < (ys.length : Int) := by omega
                obtain ⟨e0, he0⟩ : ∃ e, ys[p]? = some e := ⟨_, List.getElem?_eq_getElem hpl⟩
                replace he0 := hid_of' he0
                have hbd := fairH_b (hS.out.good p e0 he0.out).2.2
                obtain ⟨g8, rfl, hE8⟩ : ∃ g8, a8 = some ⟨g8, 0, none⟩ ∧ Hid (ElsAt g8 0 ys wc) := by
                  rcases hS.out.xa with ⟨q0, _⟩ | ⟨g8, c8', cs8, h1, h2, _⟩
                  · rw [q0] at h0; simp at h0
                  · simp only [Value.slice.injEq] at h1
                    exact ⟨g8, h1.1, h2⟩
                clear h0
                cases hdn : c.dn with
                | false =>
                  have hdd : c.dn = false := hdn
                  rw [hdd] at d2
                  clear hdd hdn
                  cases hfr : fairH (e0.hd + 1) with
                  | false =>
                    have HI := hid_of' (refAdd_upNo hS.out.xa p e0 he0.out hbd.1 hbd.2 hfr)
                    go_upto_region 35 with (first | (go_at_call 25; (with_reducible refine HWp.out.mono ?_); rintro r w5 ⟨rfl, hw5⟩; obtain rfl := hw5.symm; clear HWp) | (go_at_call 30; (with_reducible refine HI.out.mono ?_); rintro r w5 ⟨g2, g3, rfl, hb5⟩; clear HI) | (refine wpL_storeNo rfl _ _ rfl rfl rfl (row_new w5 _ _) ?_))
                    have r19 := (row_new w5 (nov 0 none 0 0 none 0 0) 38).put (nov 1 (some ⟨g3, 0, none⟩) 1 1 (some ⟨g2, 0, none⟩) 1 1)
                    have hB5 : Below w5.heap.size w5 ((w5.alloc (.cells (nov 0 none 0 0 none 0 0) 38)).setRow w5.heap.size (nov 1 (some ⟨g3, 0, none⟩) 1 1 (some ⟨g2, 0, none⟩) 1 1)) := below_row (below_one w5 _) (Nat.le_refl _) _
                    change Code.wp _ _ _ _ ((w5.alloc (.cells (nov 0 none 0 0 none 0 0) 38)).setRow w5.heap.size (nov 1 (some ⟨g3, 0, none⟩) 1 1 (some ⟨g2, 0, none⟩) 1 1))
                    generalize (w5.alloc (.cells (nov 0 none 0 0 none 0 0) 38)).setRow w5.heap.size (nov 1 (some ⟨g3, 0, none⟩) 1 1 (some ⟨g2, 0, none⟩) 1 1) = W6 at r19 hB5 ⊢
                    have c19 : W6.cell? ⟨w5.heap.size, 0, none⟩ = some (.int .i64 1) := r19.cell 0
                    go_wp2
                    go_roundw
                    case rel => exact ⟨k + 1, ys, own, q, by go_num, by omega, by omega, (hS.out.later (bgo hb5 hB5)).weak (gk_half hg2.out) (by omega), hA.out⟩
                    case measure => simp [intOf]; omega
                  | true =>
                    have HI := hid_of' (refAdd_up hS.out.xa p e0 he0.out hbd.1 hbd.2 hfr (by omega))
                    have hfr' := hid_of' hfr
                    clear hfr
                    go_upto_region 35 with (first | (go_at_call 25; (with_reducible refine HWp.out.mono ?_); rintro r w5 ⟨rfl, hw5⟩; obtain rfl := hw5.symm; clear HWp) | (go_at_call 30; (with_reducible refine HI.out.mono ?_); rintro r w5 ⟨v5, rfl, ho5, hb5⟩; clear HI) | (refine wpL_storeNo rfl _ _ rfl rfl rfl (row_new w5 _ _) ?_))
                    have r19 := (row_new w5 (nov 0 none 0 0 none 0 0) 38).put (nov 0 none 0 0 none 0 0)
                    have hB5 : Below w5.heap.size w5 ((w5.alloc (.cells (nov 0 none 0 0 none 0 0) 38)).setRow w5.heap.size (nov 0 none 0 0 none 0 0)) := below_row (below_one w5 _) (Nat.le_refl _) _
                    change Code.wp _ _ _ _ ((w5.alloc (.cells (nov 0 none 0 0 none 0 0) 38)).setRow w5.heap.size (nov 0 none 0 0 none 0 0))
                    generalize (w5.alloc (.cells (nov 0 none 0 0 none 0 0) 38)).setRow w5.heap.size (nov 0 none 0 0 none 0 0) = W6 at r19 hB5 ⊢
                    have c19 : W6.cell? ⟨w5.heap.size, 0, none⟩ = some (.int .i64 0) := r19.cell 0
                    have hx6 := ho5.later hB5
                    have hb6 := bgo hb5 hB5
                    have hlA : (addE ys p (1)).length = ys.length := addE_len
                    have hA' := hid_of' (hA.out.add he0.out (1))
                    have heA : (addE ys p (1))[p]? = some (e0.add (1)) := by rw [addE_at, if_pos rfl, he0.out]; rfl
                    have HN : Hid (∀ x, Below wc.heap.size wc x → XsAt x v5 (addE ys p (1)) → _) := fun x hx hq => hS.out.up hx he0.out hfr'.out hq (by omega)
                    obtain ⟨g9, c9, cs9, rfl, hE9, _⟩ : ∃ g9 c9 cs9, v5 = .slice (some ⟨g9, 0, none⟩) ys.length c9 ∧ ElsAt g9 0 (addE ys p (1)) W6 ∧ RowAt g9 cs9 66 W6 := by
                      rcases hx6 with ⟨h0, _⟩ | ⟨g9, c9, cs9, h1, h2, h3, _⟩
                      · rw [h0] at heA; simp at heA
                      · exact ⟨g9, c9, cs9, by rw [h1, hlA], h2, h3⟩
                    have hl1 : CsIn g9 (p * 5) (ev (e0.add (1))) W6 := by have := hE9 p _ heA; rwa [Nat.zero_add] at this
                    have hl0 : CsIn g8 (p * 5) (ev e0) W6 := by have := (hE8.out p e0 he0.out).later hb6; rwa [Nat.zero_add] at this
                    replace hx6 := hid_of' hx6
                    clear ho5 hb5 hB5 r19 hE9 heA hlA
                    have hb0 := wLive_b e0
                    have hb9 := wLive_b (e0.add (1))
                    unfold pv at HN
                    go_upto_if 139 with fail
                    by_cases hpo : (p : Int) ≤ own
                    · rw [if_pos hpo] at hA'
                      have HW1 := hid_of' (refWeigh_any (e0.add (1)))
                      have HW0 := hid_of' (refWeigh_any e0)
                      have hf1 := field_live (wLive (e0.add (1))) (wLine (e0.add (1)))
                      have hf0 := field_live (wLive e0) (wLine e0)
                      unfold wv at HW1 HW0
                      have hww : wrap64 (wLive (e0.add (1)) - wLive e0) = wLive (e0.add (1)) - wLive e0 := wrapIs (by omega) (by omega)
                      have hby : Hid (-1 ≤ wLive (e0.add (1)) - wLive e0 ∧ wLive (e0.add (1)) - wLive e0 ≤ 1) := ⟨by omega, by omega⟩
                      clear hb0 hb9
                      generalize wLive (e0.add (1)) = x1 at *
                      generalize wLive e0 = x0 at *
                      generalize wLine (e0.add (1)) = y1 at *
                      generalize wLine e0 = y0 at *
                      generalize hE1 : e0.add (1) = e1 at *
                      clear hE1
                      have hB := Below.refl W6.heap.size W6
                      go_upto_region 37 with fail
                      refine wp_region_cls (by kernel_rfl) (by kernel_rfl) ?_
                      repeat (first | go_big_quiet_skip | (go_big_quiet_want; first | (refine quiet_load_in _ _ rfl rfl hl1.cls Tryz.underlying66 rfl (e_size _) ?_; simp only [Act.put, List.setIfInBounds_toArray, List.set_cons_succ, List.set_cons_zero]; go_big_quiet_on) | (refine quiet_load_in _ _ rfl rfl hl0.cls Tryz.underlying66 rfl (e_size _) ?_; simp only [Act.put, List.setIfInBounds_toArray, List.set_cons_succ, List.set_cons_zero]; go_big_quiet_on) | (go_big_quiet_op; first | go_big_quiet_on | go_big_quiet_call ((go_at_call 31; first | (with_reducible exact cls_of (HW1.out _)) | (with_reducible exact cls_of (HW0.out _)))))))
                      refine wpQuiet_nil ?_
                      rintro w1 ⟨s1, e1⟩
                      have hb1 := wOf_below s1
                      rw [← e1] at hb1
                      clear e1 s1
                      replace hB := bgo hB hb1
                      clear hb1
                      have HM := hid_of' (HN.out _ (bgo hb6 hB) (hx6.out.later hB))
                      clear HN
                      go_wp2_with (go_at_call 32; (with_reducible refine HM.out.mono ?_); rintro r w7 ⟨rfl, hS7, _⟩)
                      go_meet
                      case rel => exact ⟨_, addE ys p (1), x1 - x0, own, rfl, rfl, hS7.weak (gk_half hg2.out) (by omega), hA'.out, hby.out.1, hby.out.2⟩
                    · rw [if_neg hpo] at hA'
                      have HM := hid_of' (HN.out _ hb6 hx6.out)
                      clear HN
                      go_wp2_with (go_at_call 32; (with_reducible refine HM.out.mono ?_); rintro r w7 ⟨rfl, hS7, _⟩)
                      go_meet
                      case rel => exact ⟨_, addE ys p (1), 0, own, rfl, rfl, hS7.weak (gk_half hg2.out) (by omega), hA'.out, by decide, by decide⟩
                | true =>
                  have hdd : c.dn = true := hdn
                  rw [hdd] at d2
                  clear hdd hdn
                  cases hfr : fairH (e0.hd + -1) with
                  | false =>
                    have HI := hid_of' (refAdd_downNo hS.out.xa p e0 he0.out hbd.1 hbd.2 hfr)
                    go_upto_region 35 with (first | (go_at_call 25; (with_reducible refine HWp.out.mono ?_); rintro r w5 ⟨rfl, hw5⟩; obtain rfl := hw5.symm; clear HWp) | (go_at_call 30; (with_reducible refine HI.out.mono ?_); rintro r w5 ⟨g2, g3, rfl, hb5⟩; clear HI) | (refine wpL_storeNo rfl _ _ rfl rfl rfl (row_new w5 _ _) ?_))
                    have r19 := (row_new w5 (nov 0 none 0 0 none 0 0) 38).put (nov 1 (some ⟨g3, 0, none⟩) 1 1 (some ⟨g2, 0, none⟩) 1 1)
                    have hB5 : Below w5.heap.size w5 ((w5.alloc (.cells (nov 0 none 0 0 none 0 0) 38)).setRow w5.heap.size (nov 1 (some ⟨g3, 0, none⟩) 1 1 (some ⟨g2, 0, none⟩) 1 1)) := below_row (below_one w5 _) (Nat.le_refl _) _
                    change Code.wp _ _ _ _ ((w5.alloc (.cells (nov 0 none 0 0 none 0 0) 38)).setRow w5.heap.size (nov 1 (some ⟨g3, 0, none⟩) 1 1 (some ⟨g2, 0, none⟩) 1 1))
                    generalize (w5.alloc (.cells (nov 0 none 0 0 none 0 0) 38)).setRow w5.heap.size (nov 1 (some ⟨g3, 0, none⟩) 1 1 (some ⟨g2, 0, none⟩) 1 1) = W6 at r19 hB5 ⊢
                    have c19 : W6.cell? ⟨w5.heap.size, 0, none⟩ = some (.int .i64 1) := r19.cell 0
                    go_wp2
                    go_roundw
                    case rel => exact ⟨k + 1, ys, own, q, by go_num, by omega, by omega, (hS.out.later (bgo hb5 hB5)).weak (gk_half hg2.out) (by omega), hA.out⟩
                    case measure => simp [intOf]; omega
                  | true =>
                    have HI := hid_of' (refAdd_down hS.out.xa p e0 he0.out hbd.1 hbd.2 hfr (by omega))
                    have hfr' := hid_of' hfr
                    clear hfr
                    go_upto_region 35 with (first | (go_at_call 25; (with_reducible refine HWp.out.mono ?_); rintro r w5 ⟨rfl, hw5⟩; obtain rfl := hw5.symm; clear HWp) | (go_at_call 30; (with_reducible refine HI.out.mono ?_); rintro r w5 ⟨v5, rfl, ho5, hb5⟩; clear HI) | (refine wpL_storeNo rfl _ _ rfl rfl rfl (row_new w5 _ _) ?_))
                    have r19 := (row_new w5 (nov 0 none 0 0 none 0 0) 38).put (nov 0 none 0 0 none 0 0)
                    have hB5 : Below w5.heap.size w5 ((w5.alloc (.cells (nov 0 none 0 0 none 0 0) 38)).setRow w5.heap.size (nov 0 none 0 0 none 0 0)) := below_row (below_one w5 _) (Nat.le_refl _) _
                    change Code.wp _ _ _ _ ((w5.alloc (.cells (nov 0 none 0 0 none 0 0) 38)).setRow w5.heap.size (nov 0 none 0 0 none 0 0))
                    generalize (w5.alloc (.cells (nov 0 none 0 0 none 0 0) 38)).setRow w5.heap.size (nov 0 none 0 0 none 0 0) = W6 at r19 hB5 ⊢
                    have c19 : W6.cell? ⟨w5.heap.size, 0, none⟩ = some (.int .i64 0) := r19.cell 0
                    have hx6 := ho5.later hB5
                    have hb6 := bgo hb5 hB5
                    have hlA : (addE ys p (-1)).length = ys.length := addE_len
                    have hA' := hid_of' (hA.out.add he0.out (-1))
                    have heA : (addE ys p (-1))[p]? = some (e0.add (-1)) := by rw [addE_at, if_pos rfl, he0.out]; rfl
                    have HN : Hid (∀ x, Below wc.heap.size wc x → XsAt x v5 (addE ys p (-1)) → _) := fun x hx hq => hS.out.down hx he0.out hfr'.out hq (by omega)
                    obtain ⟨g9, c9, cs9, rfl, hE9, _⟩ : ∃ g9 c9 cs9, v5 = .slice (some ⟨g9, 0, none⟩) ys.length c9 ∧ ElsAt g9 0 (addE ys p (-1)) W6 ∧ RowAt g9 cs9 66 W6 := by
                      rcases hx6 with ⟨h0, _⟩ | ⟨g9, c9, cs9, h1, h2, h3, _⟩
                      · rw [h0] at heA; simp at heA
                      · exact ⟨g9, c9, cs9, by rw [h1, hlA], h2, h3⟩
                    have hl1 : CsIn g9 (p * 5) (ev (e0.add (-1))) W6 := by have := hE9 p _ heA; rwa [Nat.zero_add] at this
                    have hl0 : CsIn g8 (p * 5) (ev e0) W6 := by have := (hE8.out p e0 he0.out).later hb6; rwa [Nat.zero_add] at this
                    replace hx6 := hid_of' hx6
                    clear ho5 hb5 hB5 r19 hE9 heA hlA
                    have hb0 := wLive_b e0
                    have hb9 := wLive_b (e0.add (-1))
                    unfold pv at HN
                    go_upto_if 139 with fail
                    by_cases hpo : (p : Int) ≤ own
                    · rw [if_pos hpo] at hA'
                      have HW1 := hid_of' (refWeigh_any (e0.add (-1)))
                      have HW0 := hid_of' (refWeigh_any e0)
                      have hf1 := field_live (wLive (e0.add (-1))) (wLine (e0.add (-1)))
                      have hf0 := field_live (wLive e0) (wLine e0)
                      unfold wv at HW1 HW0
                      have hww : wrap64 (wLive (e0.add (-1)) - wLive e0) = wLive (e0.add (-1)) - wLive e0 := wrapIs (by omega) (by omega)
                      have hby : Hid (-1 ≤ wLive (e0.add (-1)) - wLive e0 ∧ wLive (e0.add (-1)) - wLive e0 ≤ 1) := ⟨by omega, by omega⟩
                      clear hb0 hb9
                      generalize wLive (e0.add (-1)) = x1 at *
                      generalize wLive e0 = x0 at *
                      generalize wLine (e0.add (-1)) = y1 at *
                      generalize wLine e0 = y0 at *
                      generalize hE1 : e0.add (-1) = e1 at *
                      clear hE1
                      have hB := Below.refl W6.heap.size W6
                      go_upto_region 37 with fail
                      refine wp_region_cls (by kernel_rfl) (by kernel_rfl) ?_
                      repeat (first | go_big_quiet_skip | (go_big_quiet_want; first | (refine quiet_load_in _ _ rfl rfl hl1.cls Tryz.underlying66 rfl (e_size _) ?_; simp only [Act.put, List.setIfInBounds_toArray, List.set_cons_succ, List.set_cons_zero]; go_big_quiet_on) | (refine quiet_load_in _ _ rfl rfl hl0.cls Tryz.underlying66 rfl (e_size _) ?_; simp only [Act.put, List.setIfInBounds_toArray, List.set_cons_succ, List.set_cons_zero]; go_big_quiet_on) | (go_big_quiet_op; first | go_big_quiet_on | go_big_quiet_call ((go_at_call 31; first | (with_reducible exact cls_of (HW1.out _)) | (with_reducible exact cls_of (HW0.out _)))))))
                      refine wpQuiet_nil ?_
                      rintro w1 ⟨s1, e1⟩
                      have hb1 := wOf_below s1
                      rw [← e1] at hb1
                      clear e1 s1
                      replace hB := bgo hB hb1
                      clear hb1
                      have HM := hid_of' (HN.out _ (bgo hb6 hB) (hx6.out.later hB))
                      clear HN
                      go_wp2_with (go_at_call 32; (with_reducible refine HM.out.mono ?_); rintro r w7 ⟨rfl, hS7, _⟩)
                      go_meet
                      case rel => exact ⟨_, addE ys p (-1), x1 - x0, own, rfl, rfl, hS7.weak (gk_half hg2.out) (by omega), hA'.out, hby.out.1, hby.out.2⟩
                    · rw [if_neg hpo] at hA'
                      have HM := hid_of' (HN.out _ hb6 hx6.out)
                      clear HN
                      go_wp2_with (go_at_call 32; (with_reducible refine HM.out.mono ?_); rintro r w7 ⟨rfl, hS7, _⟩)
                      go_meet
                      case rel => exact ⟨_, addE ys p (-1), 0, own, rfl, rfl, hS7.weak (gk_half hg2.out) (by omega), hA'.out, by decide, by decide⟩
          case rest =>
            obtain ⟨v9, zs, bb, own9, rfl, rfl, hS9, hA9, hb1_, hb2_⟩ := hcut
            clear r12 d0 d1 d2 ran
            obtain ⟨a9, c9, rfl⟩ := hS9.xa.form
            have hqb9 := hA9.b
            have hl9 := hS9.len
            have hg1 := gk_two (k + 1) (by omega)
            have HW := hid_of' (where_any (HL.out.below hS9.low) (hS9.mrk (by omega) (by omega)) hidn.out hA9.wh)
            have ran := hS9.an
            have hww : wrap64 (q + bb) = q + bb := wrapIs (by omega) (by omega)
            clear hg1 hl9 hqb9
            replace hA9 := hid_of' hA9
            unfold pv at HW
            go_wp2_with (first | (refine wpL_loadA rfl _ rfl rfl ran.in ?_) | (go_at_call 12; (with_reducible refine HW.out.mono ?_); rintro r w7 ⟨rfl, hb7⟩))
            go_roundw
            case rel => exact ⟨k + 1, zs, own9, q + bb, by go_num, by omega, by omega, hS9.later hb7, hA9.out⟩
            case measure => simp [intOf]; omega
      · have hex : ¬ (k : Int) < (cs.length : Int) ∨ ((k : Int) < (cs.length : Int) ∧ ¬ (k : Int) < 40) := by omega
        have HK := hid_of' (wakes13 (HL.out.below hS.out.low))
        have hlow := hid_of' hS.out.low
        clear hlt
        go_upto_region 10 with fail
        go_cut [59] from 52 to 173 (fun s59 wx => s59 = .bool false ∧ wx = wr)
        case first =>
          rcases hex with h1 | ⟨h1, h2⟩
          · go_wp2
            go_meet
            case rel => exact ⟨rfl, rfl⟩
          · go_wp2
            go_meet
            case rel => exact ⟨rfl, rfl⟩
        case rest =>
          obtain ⟨rfl, rfl⟩ := hcut
          clear hex
          go_wp2_with (go_at_call 18; (with_reducible refine HK.out.mono ?_); rintro r w3 ⟨rfl, hb3⟩)
          go_ret
          exact ⟨rfl, bgo hlow.out hb3⟩
end Go.Proofs.YtjopeojnlibagaaGreatDoor
namespace Go.Proofs.YtjopeojnlibagaaGreatDoor
open Go.ChangeShapes Go.WideShapes Go.ChangeAt Go.RowKit Go.Deep
set_option maxRecDepth 100000

instance : Inhabited Chg := ⟨⟨0, 0, false, ⟨0, 0, 0, 0, 0⟩⟩⟩
theorem cellsCh : Tryz.prog.cellsOf 68 = 8 := by kernel_rfl
section
variable {H : Type} {enc : TypeId × Value → H} {W : World} {base : Nat}
theorem open_iB {v : Value} {d : DataW H} {p : List MemPlace} (hval : Value.okWide Tryz.prog W .any base 3 v) (h : DataW.Trod enc Tryz.prog W 0 (fun _ => true) true 3 v d p) : ∃ n : Int, v = .int .i64 n ∧ In64 n := by
  obtain ⟨n, rfl⟩ := okWide_int Tryz.underlying3 hval
  obtain ⟨fuel, hf⟩ := h
  obtain ⟨m, hm, _, hw⟩ := DataW.trod_int Tryz.underlying3 hf
  simp [Value.cells] at hm
  subst hm
  exact ⟨n, rfl, wf64M hw⟩
/-- The cells of a change, with its bounds. -/
theorem open_ch {cs : List Value} {fuel bs : Nat} {sp : Nat → Bool} {hd : Bool} {x : DataW H × List MemPlace} (hlen : cs.length = 8) (h : DataW.trod enc Tryz.prog W bs sp hd fuel 68 cs = some x) : ∃ a : Chg, cs.toArray = chv a ∧ a.In := by
  obtain ⟨y0, y1, y2, y3, k, _, _, g0, g1, g2, g3⟩ := Go.Joins.trod_struct4 Tryz.underlying68 h
  simp only [cellsInt, cellsEl, cellsBo] at g0 g1 g2 g3
  obtain ⟨i0, e0, _, w0⟩ := DataW.trod_int Tryz.underlying3 g0
  obtain ⟨i1, e1, _, w1⟩ := DataW.trod_int Tryz.underlying3 g1
  obtain ⟨i2, e2, _⟩ := DataW.trod_bool Tryz.underlying4 g2
  match cs, hlen with
  | [x0, x1, x2, x3, x4, x5, x6, x7], _ =>
    obtain ⟨a, ea, hin⟩ := open_elM (by rfl) g3
    simp at e0 e1 e2
    subst e0 e1 e2
    have h5 : [x3, x4, x5, x6, x7] = (ev a).toList := by
      have := congrArg Array.toList ea
      simpa using this
    simp [ev] at h5
    obtain ⟨rfl, rfl, rfl, rfl, rfl⟩ := h5
    exact ⟨⟨i0, i1, i2, a⟩, rfl, wf64M w0, wf64M w1, hin.1⟩
/-- A row of changes that came in. -/
theorem open_chs {v : Value} {d : DataW H} {p : List MemPlace} (hval : Value.okWide Tryz.prog W .any base 63 v) (h : DataW.Trod enc Tryz.prog W 0 (fun _ => true) true 63 v d p) :
    ∃ l : List Chg, SlH W v l ∧ ∀ x ∈ l, x.In := by
  obtain ⟨a1, len1, cap1, rfl⟩ := okWide_slice Tryz.underlying63 hval
  obtain ⟨fuel, hf⟩ := h
  rcases open_slice Tryz.underlying63 hf with ⟨hcs, hx⟩ | ⟨a, len, cap, m, n, D, Pl, hcs, _, hl, hm, hmm, hx, hcell⟩
  · simp [Value.cells] at hcs
    obtain ⟨rfl, rfl, rfl⟩ := hcs
    exact ⟨[], .inl ⟨rfl, _, _, rfl⟩, fun o ho => by simp at ho⟩
  · simp [Value.cells] at hcs
    obtain ⟨rfl, rfl, rfl⟩ := hcs
    simp only [if_true] at hmm
    subst hmm
    have each : ∀ i, i < len1 → ∃ x : Chg, (∀ j v, (chv x)[j]? = some v → W.cell? (a.add (i * 8 + j)) = some v) ∧ x.In := by
      intro i hi
      obtain ⟨cs', h1, h2⟩ := hcell i (by omega)
      rw [cellsCh] at h1
      obtain ⟨_, hlen, hc⟩ := World.cells?_some h1
      obtain ⟨x, ex, hin⟩ := open_ch hlen h2
      refine ⟨x, fun j v hv => ?_, hin⟩
      rw [← ex] at hv
      have hj : j < 8 := by
        have := (Array.getElem?_eq_some_iff.1 hv).1
        simpa [hlen] using this
      have := hc j hj
      rw [add_add] at this
      rw [this]
      simpa using hv
    obtain ⟨f, hf⟩ := choose_lt (α := Chg) each
    refine ⟨(List.range len1).map f, ?_, fun o ho => ?_⟩
    · by_cases h0 : len1 = 0
      · subst h0
        exact .inl ⟨by simp, _, _, rfl⟩
      · obtain ⟨ab, ao, spot⟩ := a
        have c0 := (hf 0 (by omega)).1 0 _ (show (chv (f 0))[0]? = some (.int .i64 (f 0).d) from rfl)
        have hspot : spot = none := by simpa [Addr.add] using World.cell?_spot c0
        subst hspot
        have hblk : ab < W.heap.size := by
          have := World.block_lt_of_cell? _ _ c0
          simpa [Addr.add] using this
        refine .inr ⟨ab, ao, _, by rw [List.length_map, List.length_range], fun i x hx => ⟨hblk, fun j v hv => ?_⟩⟩
        have hi : i < len1 := by
          have := (List.getElem?_eq_some_iff.1 hx).1
          simpa using this
        have hfx : f i = x := by
          rw [List.getElem?_map, List.getElem?_range hi] at hx
          simpa using hx
        have := (hf i hi).1 j v (by rw [hfx]; exact hv)
        rw [Addr.add_lit] at this
        rw [Nat.add_assoc]; exact this
    · obtain ⟨i, hi, rfl⟩ := List.mem_map.1 ho
      exact (hf i (List.mem_range.1 hi)).2
end
end Go.Proofs.YtjopeojnlibagaaGreatDoor
