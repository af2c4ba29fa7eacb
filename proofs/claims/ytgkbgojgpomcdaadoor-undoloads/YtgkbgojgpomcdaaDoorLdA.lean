
/-
  Rows of edits that came in. UndoLoads. UndoLoads. UndoLoads. UndoLoads. UndoLoads.
-/
import Derived.Test.YtgkbgojgpomcdaaDoorUnOq
import Derived.Test.YtgkbgojgpomcdaaDoorUn6
import Derived.SizedLaws
import Derived.Test.YtgkbgojgpomcdaaDoorLdB
import Derived.Test.YtgkbgojgpomcdaaDoorUn25
namespace Go.Proofs.YtgkbgojgpomcdaaDoor
open Go.ChangeShapes Go.WideShapes Go.ChangeAt Go.RowKit Go.Deep
set_option maxRecDepth 100000

instance : Inhabited (Value × List Xg) := ⟨⟨.slice none 0 0, []⟩⟩
theorem bytesG : Tryd.prog.bytesOf 66 = 32 := by kernel_rfl
section
variable {H : Type} {enc : TypeId × Value → H} {W : World} {base : Nat}
theorem mem_weightsAll {P : Program} {e : TypeId} : ∀ {l : List (DataW H)} {d : DataW H}, d ∈ l → ∀ n ∈ d.weights P e, n ∈ DataW.weightsAll P e l
  | a :: l, d, hd, n, hn => by
    simp only [DataW.weightsAll, List.mem_append]
    rcases List.mem_cons.1 hd with rfl | h
    · exact .inl hn
    · exact .inr (mem_weightsAll h n hn)
/-- Changes that came in, by their one cell, within the reach. -/
theorem open_gsW {cs : List Value} {fuel : Nat} {x : DataW H × List MemPlace} (hf : DataW.trod enc Tryd.prog W 0 (fun _ => true) true fuel 33 cs = some x) (hz : ∀ n ∈ x.1.weights Tryd.prog 33, n ≤ 140737488351232) :
    ∃ v, ∃ l : List Xg, cs = [v] ∧ SlD W v l ∧ l.length ≤ 4398046510976 := by
  obtain ⟨v, l, hcs, hs, _⟩ := open_gsC hf
  refine ⟨v, l, hcs, hs, ?_⟩
  obtain ⟨a0, c0, hv⟩ := hs.form
  rcases open_slice Tryd.underlying33 hf with ⟨hcs', hx⟩ | ⟨a, len, cap, m, n, D, Pl, hcs', _, hl, hm, hmm, hx, hcell⟩
  · rw [hcs, hv] at hcs'
    have := (Value.slice.inj (List.cons.inj hcs').1).2.1
    omega
  · rw [hcs, hv] at hcs'
    have hbl := (Value.slice.inj (List.cons.inj hcs').1).2.1
    have hd : x.1 = .slice ((List.range len).map D) ((List.range (m - len)).map fun j => D (len + j)) := congrArg Prod.fst hx
    have h1 := hz ((len + (m - len)) * Tryd.prog.bytesOf 66) (by
      rw [hd]
      simp only [DataW.weights, Tryd.underlying33]
      refine List.mem_cons.2 (.inl ?_)
      simp)
    rw [bytesG] at h1
    omega
/-- Rows of edits that came in. -/
theorem open_rows {v : Value} {d : DataW H} {p : List MemPlace} (hval : Value.okWide Tryd.prog W .any base 27 v) (h : DataW.Trod enc Tryd.prog W 0 (fun _ => true) true 27 v d p) (hz : ∀ n ∈ d.weights Tryd.prog 27, n ≤ 140737488351232) :
    ∃ ls : List (List Xg), SlE W v ls ∧ (∀ a n c, v = .slice a n c → n ≤ c) ∧ ∀ l ∈ ls, l.length ≤ 4398046510976 := by
  obtain ⟨a1, len, cap, rfl⟩ := okWide_slice Tryd.underlying27 hval
  obtain ⟨fuel, hf⟩ := h
  rcases open_slice Tryd.underlying27 hf with ⟨hcs, hx⟩ | ⟨a, len', cap', m, n, D, Pl_, hcs, _, hl, hm, hmm, hx, hcell⟩
  · simp [Value.cells] at hcs
    obtain ⟨rfl, rfl, rfl⟩ := hcs
    exact ⟨[], .inl ⟨rfl, _, _, rfl⟩, fun a n c e => by cases e; omega, fun l hl => by cases hl⟩
  · simp [Value.cells] at hcs
    obtain ⟨rfl, rfl, rfl⟩ := hcs
    simp only [if_true] at hmm
    subst hmm
    have hd : d = .slice ((List.range len).map D) ((List.range (m - len)).map fun j => D (len + j)) := congrArg Prod.fst hx
    have each : ∀ i, i < len → ∃ x : Value × List Xg, SlD W x.1 x.2 ∧ x.2.length ≤ 4398046510976 ∧ W.cell? (a.add i) = some x.1 := by
      intro i hi
      obtain ⟨cs', h1, h2⟩ := hcell i (by omega)
      rw [cellsGs] at h1
      obtain ⟨_, hlen, hc⟩ := World.cells?_some h1
      obtain ⟨u, l, hu, hs, hb⟩ := open_gsW h2 (fun n hn => by
        refine hz n ?_
        rw [hd]
        simp only [DataW.weights, Tryd.underlying27]
        exact List.mem_cons.2 (.inr (List.mem_append_left _ (mem_weightsAll (d := D i) (List.mem_map.2 ⟨i, List.mem_range.2 hi, rfl⟩) n hn))))
      refine ⟨⟨u, l⟩, hs, hb, ?_⟩
      have := hc 0 (by omega)
      rw [add_add] at this
      rw [hu] at this
      simpa using this
    obtain ⟨f, hf⟩ := choose_lt (α := Value × List Xg) each
    refine ⟨(List.range len).map fun i => (f i).2, ?_, fun a n c e => by cases e; exact hl, fun l hl' => ?_⟩
    · by_cases h0 : len = 0
      · subst h0
        exact .inl ⟨by simp, _, _, rfl⟩
      · obtain ⟨ab, ao, spot⟩ := a
        have c0 := (hf 0 (by omega)).2.2
        have hspot : spot = none := by simpa [Addr.add] using World.cell?_spot c0
        subst hspot
        refine .inr ⟨ab, ao, _, (List.range len).map fun i => (f i).1, by rw [List.length_map, List.length_range], by simp, fun i u hu => ?_, fun i u l hu hl' => ?_⟩
        · have hi : i < len := by
            have := (List.getElem?_eq_some_iff.1 hu).1
            simpa using this
          have hfx : (f i).1 = u := by
            rw [List.getElem?_map, List.getElem?_range hi] at hu
            simpa using hu
          have := (hf i hi).2.2
          rw [Addr.add_lit] at this
          rw [← hfx]; exact this
        · have hi : i < len := by
            have := (List.getElem?_eq_some_iff.1 hu).1
            simpa using this
          rw [List.getElem?_map, List.getElem?_range hi] at hu hl'
          simp at hu hl'
          subst hu hl'
          exact (hf i hi).1
    · obtain ⟨i, hi, rfl⟩ := List.mem_map.1 hl'
      exact (hf i (List.mem_range.1 hi)).2.1
end
end Go.Proofs.YtgkbgojgpomcdaaDoor
namespace Go.Proofs.YtgkbgojgpomcdaaDoor
open Go.RowKit Go.Extern.Stop Go.Stop Go.Extern
set_option maxRecDepth 100000

theorem SlE.take {w : World} {a : Option Addr} {n c m : Nat} {l : List (List Xg)} (h : SlE w (.slice a n c) l) (hm : m ≤ l.length) : SlE w (.slice a m c) (l.take m) := by
  rcases h with ⟨rfl, a', c', hv⟩ | ⟨g, o_, c', us, hv, h1, h2, h3⟩
  · obtain rfl : m = 0 := by simpa using hm
    exact .inl ⟨rfl, _, _, rfl⟩
  · simp only [Value.slice.injEq] at hv
    obtain ⟨rfl, rfl, rfl⟩ := hv
    refine .inr ⟨g, o_, c, us.take m, by rw [List.length_take, Nat.min_eq_left hm], by rw [List.length_take, List.length_take, h1], fun i u hu => h2 i u ?_, fun i u l hu hl => h3 i u l ?_ ?_⟩
    · rw [List.getElem?_take] at hu
      split at hu
      · exact hu
      · cases hu
    · rw [List.getElem?_take] at hu
      split at hu
      · exact hu
      · cases hu
    · rw [List.getElem?_take] at hl
      split at hl
      · exact hl
      · cases hl
/-- Both sides' Load. -/
def LdN (ad : Nat → Addr) (W : World) (v0 v1 : Value) : Prop := ∃ cc at_ k, (Calls Tryd.prog 14 #[v0, v1] W fun e w' => ∃ v, e = .returned (.tuple #[.pointer none, v]) ∧ ErrR ad W.heap.size (some (cc, at_, k)) v w' ∧ Below W.heap.size W w') ∧ ∀ x, Below W.heap.size W x → Calls Tryd.prog 15 #[v0, v1] x fun e w' => ∃ v, e = .returned (.tuple #[.pointer none, v]) ∧ NoR x.heap.size (some (cc, at_, k)) v w' ∧ Below x.heap.size x w'
def LdY (W : World) (v0 v1 : Value) : Prop := ∃ ds us, (Calls Tryd.prog 14 #[v0, v1] W fun e w' => ∃ B vd9 vu9 F, e = .returned (.tuple #[.pointer (some ⟨B, 0, none⟩), .nilIface]) ∧ SkAt 68 B vd9 vu9 F ds us w' ∧ (∀ k, F k → W.heap.size ≤ k) ∧ Below W.heap.size W w') ∧ ∀ x, Below W.heap.size W x → Calls Tryd.prog 15 #[v0, v1] x fun e w' => ∃ B vd9 vu9 F, e = .returned (.tuple #[.pointer (some ⟨B, 0, none⟩), .agg (nov 0 none 0 0 none 0 0)]) ∧ SkAt 29 B vd9 vu9 F ds us w' ∧ (∀ k, F k → x.heap.size ≤ k) ∧ Below x.heap.size x w'
theorem ld_of {ad : Nat → Addr} {W : World} {v0 v1 : Value} {ds us : List (List Xg)} (L : Laid ad W) (hd : SlE W v0 ds) (hu : SlE W v1 us) (h1 : ds.length ≤ 70) (h2 : us.length ≤ 70) (hf : ∀ l ∈ ds ++ us, l.length ≤ 4398046510976) : LdN ad W v0 v1 ∨ LdY W v0 v1 := by
  by_cases h : 64 < ds.length + us.length
  · exact .inl ⟨_, _, _, load_arg L hd hu h1 h2 h, fun x hx => refLoad_arg (hd.later hx) (hu.later hx) h1 h2 h⟩
  · have h' : ds.length + us.length ≤ 64 := by omega
    rcases first_split (ds ++ us) with q | ⟨i, q⟩
    · refine .inr ⟨ds, us, load_ok hd hu hf h' q, fun x hx => (refLoad_is (hd.later hx) (hu.later hx) hf h').mono ?_⟩
      rintro e w' ⟨⟨i, hi, _⟩ | ⟨_, B, vd9, vu9, F, he, hs, hF⟩, hb⟩
      · exact (hi.not q).elim
      · exact ⟨B, vd9, vu9, F, he, hs, hF, hb⟩
    · refine .inl ⟨_, _, _, load_form L hd hu hf h' q, fun x hx => (refLoad_is (hd.later hx) (hu.later hx) hf h').mono ?_⟩
      rintro e w' ⟨⟨j, hj, v, he, hn⟩ | ⟨hq, _⟩, hb⟩
      · exact ⟨v, he, hj.one q ▸ hn, hb⟩
      · exact (q.not hq).elim
end Go.Proofs.YtgkbgojgpomcdaaDoor
namespace Go.Proofs.YtgkbgojgpomcdaaDoor
open Go.RowKit Go.Extern.Stop Go.Stop Go.Extern
set_option maxRecDepth 100000

set_option maxHeartbeats 4000000 in
theorem undoLoads_no00 {ad : Nat → Addr} {W : World} {a0 : Option Addr} {n0 c0 : Nat} {a1 : Option Addr} {n1 c1 : Nat} {v2 : Value} {l : List Uop} (L : Laid ad W) (k0 : ¬ 70 < n0) (k1 : ¬ 70 < n1) (h : SlU W v2 l ∧ ∀ x ∈ l, x.Ok W) (hD : LdN ad W (.slice a0 n0 c0) (.slice a1 n1 c1)) :
    Calls Tryd.prog 4 #[.slice a0 n0 c0, .slice a1 n1 c1, v2] W fun e w' => e = .returned (.bool true) ∧ Below W.heap.size W w' := by
  obtain ⟨a, c, rfl⟩ := h.1.form
  have H := hid_of' h
  have HL := hid_of' L
  have HW := hid_of' wakes14_ok
  have ka0 : ¬ 70 < (n0 : Int) := by omega
  clear k0
  have ka1 : ¬ 70 < (n1 : Int) := by omega
  clear k1
  clear h L
  obtain ⟨cc, at_, k, h5, h6⟩ := hD
  have H5 := hid_of' h5
  have H6 := hid_of' h6
  clear h5 h6 H
  go_enter Tryd.func4, Tryd.ntmps4
  go_upto_region 6 with (go_at_call 14; (with_reducible refine H5.out.mono ?_); rintro e w5 ⟨v5, rfl, he5, hb5⟩; clear H5; have E5 := hid_of' (And.intro he5 hb5); obtain ⟨b5, rfl, _⟩ := he5; clear hb5)
  go_upto_region 7 with (first | (go_at_call 15; (with_reducible refine (H6.out _ E5.out.2).mono ?_); rintro e w6 ⟨v6, rfl, he6, hb6⟩; clear H6; have E6 := hid_of' (And.intro he6 hb6); obtain ⟨g4, g4', rfl, _⟩ := he6; clear hb6; have r6 := row_new w6 (nov 0 none 0 0 none 0 0) 47) | (refine wpL_storeNo rfl _ _ rfl rfl rfl r6 ?_))
  change Code.wp _ _ _ _ ((w6.alloc (.cells (nov 0 none 0 0 none 0 0) 47)).setRow w6.heap.size (nov (((k : Nat) : Int) + 1) (some ⟨g4', 0, none⟩) 1 1 (some ⟨g4, 0, none⟩) 1 1))
  have r7 := r6.put (nov (((k : Nat) : Int) + 1) (some ⟨g4', 0, none⟩) 1 1 (some ⟨g4, 0, none⟩) 1 1)
  have hb7 : Below w6.heap.size w6 ((w6.alloc (.cells (nov 0 none 0 0 none 0 0) 47)).setRow w6.heap.size (nov (((k : Nat) : Int) + 1) (some ⟨g4', 0, none⟩) 1 1 (some ⟨g4, 0, none⟩) 1 1)) := below_row (below_one w6 _) (Nat.le_refl _) _
  clear r6
  generalize ((w6.alloc (.cells (nov 0 none 0 0 none 0 0) 47)).setRow w6.heap.size (nov (((k : Nat) : Int) + 1) (some ⟨g4', 0, none⟩) 1 1 (some ⟨g4, 0, none⟩) 1 1)) = w7 at r7 hb7 ⊢
  generalize w6.heap.size = nb at r7 ⊢
  have HR := hid_of' (refused_is (HL.out.below (bgo (bgo E5.out.2 E6.out.2) hb7)) (E5.out.1.ch (Ch.of (bgo E6.out.2 hb7)) (fun _ _ q => q)) (E6.out.1.ch (Ch.of hb7) (fun _ _ q => q)))
  have HB := hid_of' (bgo (bgo E5.out.2 E6.out.2) hb7)
  clear hb7 E5 E6
  go_wp2_with (first | (refine wpL_loadNo rfl _ rfl rfl r7 rfl ?_) | (go_at_call 16; refine HR.out.mono ?_; rintro e w8 ⟨rfl, hb8⟩; clear HR; have HB8 := hid_of' (bgo HB.out hb8); clear hb8 HB r7) | (go_at_call 13; refine (HW.out _).mono ?_; rintro e w9 ⟨rfl, hb9⟩))
  go_ret
  exact ⟨rfl, bgo HB8.out hb9⟩
set_option maxHeartbeats 4000000 in
theorem undoLoads_no01 {ad : Nat → Addr} {W : World} {a0 : Option Addr} {n0 c0 : Nat} {g1 p1 n1 c1 : Nat} {v2 : Value} {l : List Uop} (L : Laid ad W) (k0 : ¬ 70 < n0) (k1 : 70 < n1) (kc1 : n1 ≤ c1) (h : SlU W v2 l ∧ ∀ x ∈ l, x.Ok W) (hD : LdN ad W (.slice a0 n0 c0) (.slice (some ⟨g1, p1, none⟩) 70 c1)) :
    Calls Tryd.prog 4 #[.slice a0 n0 c0, .slice (some ⟨g1, p1, none⟩) n1 c1, v2] W fun e w' => e = .returned (.bool true) ∧ Below W.heap.size W w' := by
  obtain ⟨a, c, rfl⟩ := h.1.form
  have H := hid_of' h
  have HL := hid_of' L
  have HW := hid_of' wakes14_ok
  have ka0 : ¬ 70 < (n0 : Int) := by omega
  clear k0
  have ka1 : 70 < (n1 : Int) := by omega
  have kb1 : 70 ≤ (c1 : Int) := by omega
  have kd1 : ¬ (n1 : Int) ≤ 70 := by omega
  have ke1 : 70 ≤ c1 := by omega
  clear k1 kc1
  clear h L
  obtain ⟨cc, at_, k, h5, h6⟩ := hD
  have H5 := hid_of' h5
  have H6 := hid_of' h6
  clear h5 h6 H
  go_enter Tryd.func4, Tryd.ntmps4
  go_upto_region 6 with (go_at_call 14; (with_reducible refine H5.out.mono ?_); rintro e w5 ⟨v5, rfl, he5, hb5⟩; clear H5; have E5 := hid_of' (And.intro he5 hb5); obtain ⟨b5, rfl, _⟩ := he5; clear hb5)
  go_upto_region 7 with (first | (go_at_call 15; (with_reducible refine (H6.out _ E5.out.2).mono ?_); rintro e w6 ⟨v6, rfl, he6, hb6⟩; clear H6; have E6 := hid_of' (And.intro he6 hb6); obtain ⟨g4, g4', rfl, _⟩ := he6; clear hb6; have r6 := row_new w6 (nov 0 none 0 0 none 0 0) 47) | (refine wpL_storeNo rfl _ _ rfl rfl rfl r6 ?_))
  change Code.wp _ _ _ _ ((w6.alloc (.cells (nov 0 none 0 0 none 0 0) 47)).setRow w6.heap.size (nov (((k : Nat) : Int) + 1) (some ⟨g4', 0, none⟩) 1 1 (some ⟨g4, 0, none⟩) 1 1))
  have r7 := r6.put (nov (((k : Nat) : Int) + 1) (some ⟨g4', 0, none⟩) 1 1 (some ⟨g4, 0, none⟩) 1 1)
  have hb7 : Below w6.heap.size w6 ((w6.alloc (.cells (nov 0 none 0 0 none 0 0) 47)).setRow w6.heap.size (nov (((k : Nat) : Int) + 1) (some ⟨g4', 0, none⟩) 1 1 (some ⟨g4, 0, none⟩) 1 1)) := below_row (below_one w6 _) (Nat.le_refl _) _
  clear r6
  generalize ((w6.alloc (.cells (nov 0 none 0 0 none 0 0) 47)).setRow w6.heap.size (nov (((k : Nat) : Int) + 1) (some ⟨g4', 0, none⟩) 1 1 (some ⟨g4, 0, none⟩) 1 1)) = w7 at r7 hb7 ⊢
  generalize w6.heap.size = nb at r7 ⊢
  have HR := hid_of' (refused_is (HL.out.below (bgo (bgo E5.out.2 E6.out.2) hb7)) (E5.out.1.ch (Ch.of (bgo E6.out.2 hb7)) (fun _ _ q => q)) (E6.out.1.ch (Ch.of hb7) (fun _ _ q => q)))
  have HB := hid_of' (bgo (bgo E5.out.2 E6.out.2) hb7)
  clear hb7 E5 E6
  go_wp2_with (first | (refine wpL_loadNo rfl _ rfl rfl r7 rfl ?_) | (go_at_call 16; refine HR.out.mono ?_; rintro e w8 ⟨rfl, hb8⟩; clear HR; have HB8 := hid_of' (bgo HB.out hb8); clear hb8 HB r7) | (go_at_call 13; refine (HW.out _).mono ?_; rintro e w9 ⟨rfl, hb9⟩))
  go_ret
  exact ⟨rfl, bgo HB8.out hb9⟩
set_option maxHeartbeats 4000000 in
theorem undoLoads_no10 {ad : Nat → Addr} {W : World} {g0 p0 n0 c0 : Nat} {a1 : Option Addr} {n1 c1 : Nat} {v2 : Value} {l : List Uop} (L : Laid ad W) (k0 : 70 < n0) (kc0 : n0 ≤ c0) (k1 : ¬ 70 < n1) (h : SlU W v2 l ∧ ∀ x ∈ l, x.Ok W) (hD : LdN ad W (.slice (some ⟨g0, p0, none⟩) 70 c0) (.slice a1 n1 c1)) :
    Calls Tryd.prog 4 #[.slice (some ⟨g0, p0, none⟩) n0 c0, .slice a1 n1 c1, v2] W fun e w' => e = .returned (.bool true) ∧ Below W.heap.size W w' := by
  obtain ⟨a, c, rfl⟩ := h.1.form
  have H := hid_of' h
  have HL := hid_of' L
  have HW := hid_of' wakes14_ok
  have ka0 : 70 < (n0 : Int) := by omega
  have kb0 : 70 ≤ (c0 : Int) := by omega
  have kd0 : ¬ (n0 : Int) ≤ 70 := by omega
  have ke0 : 70 ≤ c0 := by omega
  clear k0 kc0
  have ka1 : ¬ 70 < (n1 : Int) := by omega
  clear k1
  clear h L
  obtain ⟨cc, at_, k, h5, h6⟩ := hD
  have H5 := hid_of' h5
  have H6 := hid_of' h6
  clear h5 h6 H
  go_enter Tryd.func4, Tryd.ntmps4
  go_upto_region 6 with (go_at_call 14; (with_reducible refine H5.out.mono ?_); rintro e w5 ⟨v5, rfl, he5, hb5⟩; clear H5; have E5 := hid_of' (And.intro he5 hb5); obtain ⟨b5, rfl, _⟩ := he5; clear hb5)
  go_upto_region 7 with (first | (go_at_call 15; (with_reducible refine (H6.out _ E5.out.2).mono ?_); rintro e w6 ⟨v6, rfl, he6, hb6⟩; clear H6; have E6 := hid_of' (And.intro he6 hb6); obtain ⟨g4, g4', rfl, _⟩ := he6; clear hb6; have r6 := row_new w6 (nov 0 none 0 0 none 0 0) 47) | (refine wpL_storeNo rfl _ _ rfl rfl rfl r6 ?_))
  change Code.wp _ _ _ _ ((w6.alloc (.cells (nov 0 none 0 0 none 0 0) 47)).setRow w6.heap.size (nov (((k : Nat) : Int) + 1) (some ⟨g4', 0, none⟩) 1 1 (some ⟨g4, 0, none⟩) 1 1))
  have r7 := r6.put (nov (((k : Nat) : Int) + 1) (some ⟨g4', 0, none⟩) 1 1 (some ⟨g4, 0, none⟩) 1 1)
  have hb7 : Below w6.heap.size w6 ((w6.alloc (.cells (nov 0 none 0 0 none 0 0) 47)).setRow w6.heap.size (nov (((k : Nat) : Int) + 1) (some ⟨g4', 0, none⟩) 1 1 (some ⟨g4, 0, none⟩) 1 1)) := below_row (below_one w6 _) (Nat.le_refl _) _
  clear r6
  generalize ((w6.alloc (.cells (nov 0 none 0 0 none 0 0) 47)).setRow w6.heap.size (nov (((k : Nat) : Int) + 1) (some ⟨g4', 0, none⟩) 1 1 (some ⟨g4, 0, none⟩) 1 1)) = w7 at r7 hb7 ⊢
  generalize w6.heap.size = nb at r7 ⊢
  have HR := hid_of' (refused_is (HL.out.below (bgo (bgo E5.out.2 E6.out.2) hb7)) (E5.out.1.ch (Ch.of (bgo E6.out.2 hb7)) (fun _ _ q => q)) (E6.out.1.ch (Ch.of hb7) (fun _ _ q => q)))
  have HB := hid_of' (bgo (bgo E5.out.2 E6.out.2) hb7)
  clear hb7 E5 E6
  go_wp2_with (first | (refine wpL_loadNo rfl _ rfl rfl r7 rfl ?_) | (go_at_call 16; refine HR.out.mono ?_; rintro e w8 ⟨rfl, hb8⟩; clear HR; have HB8 := hid_of' (bgo HB.out hb8); clear hb8 HB r7) | (go_at_call 13; refine (HW.out _).mono ?_; rintro e w9 ⟨rfl, hb9⟩))
  go_ret
  exact ⟨rfl, bgo HB8.out hb9⟩
set_option maxHeartbeats 4000000 in
theorem undoLoads_no11 {ad : Nat → Addr} {W : World} {g0 p0 n0 c0 : Nat} {g1 p1 n1 c1 : Nat} {v2 : Value} {l : List Uop} (L : Laid ad W) (k0 : 70 < n0) (kc0 : n0 ≤ c0) (k1 : 70 < n1) (kc1 : n1 ≤ c1) (h : SlU W v2 l ∧ ∀ x ∈ l, x.Ok W) (hD : LdN ad W (.slice (some ⟨g0, p0, none⟩) 70 c0) (.slice (some ⟨g1, p1, none⟩) 70 c1)) :
    Calls Tryd.prog 4 #[.slice (some ⟨g0, p0, none⟩) n0 c0, .slice (some ⟨g1, p1, none⟩) n1 c1, v2] W fun e w' => e = .returned (.bool true) ∧ Below W.heap.size W w' := by
  obtain ⟨a, c, rfl⟩ := h.1.form
  have H := hid_of' h
  have HL := hid_of' L
  have HW := hid_of' wakes14_ok
  have ka0 : 70 < (n0 : Int) := by omega
  have kb0 : 70 ≤ (c0 : Int) := by omega
  have kd0 : ¬ (n0 : Int) ≤ 70 := by omega
  have ke0 : 70 ≤ c0 := by omega
  clear k0 kc0
  have ka1 : 70 < (n1 : Int) := by omega
  have kb1 : 70 ≤ (c1 : Int) := by omega
  have kd1 : ¬ (n1 : Int) ≤ 70 := by omega
  have ke1 : 70 ≤ c1 := by omega
  clear k1 kc1
  clear h L
  obtain ⟨cc, at_, k, h5, h6⟩ := hD
  have H5 := hid_of' h5
  have H6 := hid_of' h6
  clear h5 h6 H
  go_enter Tryd.func4, Tryd.ntmps4
  go_upto_region 6 with (go_at_call 14; (with_reducible refine H5.out.mono ?_); rintro e w5 ⟨v5, rfl, he5, hb5⟩; clear H5; have E5 := hid_of' (And.intro he5 hb5); obtain ⟨b5, rfl, _⟩ := he5; clear hb5)
  go_upto_region 7 with (first | (go_at_call 15; (with_reducible refine (H6.out _ E5.out.2).mono ?_); rintro e w6 ⟨v6, rfl, he6, hb6⟩; clear H6; have E6 := hid_of' (And.intro he6 hb6); obtain ⟨g4, g4', rfl, _⟩ := he6; clear hb6; have r6 := row_new w6 (nov 0 none 0 0 none 0 0) 47) | (refine wpL_storeNo rfl _ _ rfl rfl rfl r6 ?_))
  change Code.wp _ _ _ _ ((w6.alloc (.cells (nov 0 none 0 0 none 0 0) 47)).setRow w6.heap.size (nov (((k : Nat) : Int) + 1) (some ⟨g4', 0, none⟩) 1 1 (some ⟨g4, 0, none⟩) 1 1))
  have r7 := r6.put (nov (((k : Nat) : Int) + 1) (some ⟨g4', 0, none⟩) 1 1 (some ⟨g4, 0, none⟩) 1 1)
  have hb7 : Below w6.heap.size w6 ((w6.alloc (.cells (nov 0 none 0 0 none 0 0) 47)).setRow w6.heap.size (nov (((k : Nat) : Int) + 1) (some ⟨g4', 0, none⟩) 1 1 (some ⟨g4, 0, none⟩) 1 1)) := below_row (below_one w6 _) (Nat.le_refl _) _
  clear r6
  generalize ((w6.alloc (.cells (nov 0 none 0 0 none 0 0) 47)).setRow w6.heap.size (nov (((k : Nat) : Int) + 1) (some ⟨g4', 0, none⟩) 1 1 (some ⟨g4, 0, none⟩) 1 1)) = w7 at r7 hb7 ⊢
  generalize w6.heap.size = nb at r7 ⊢
  have HR := hid_of' (refused_is (HL.out.below (bgo (bgo E5.out.2 E6.out.2) hb7)) (E5.out.1.ch (Ch.of (bgo E6.out.2 hb7)) (fun _ _ q => q)) (E6.out.1.ch (Ch.of hb7) (fun _ _ q => q)))
  have HB := hid_of' (bgo (bgo E5.out.2 E6.out.2) hb7)
  clear hb7 E5 E6
  go_wp2_with (first | (refine wpL_loadNo rfl _ rfl rfl r7 rfl ?_) | (go_at_call 16; refine HR.out.mono ?_; rintro e w8 ⟨rfl, hb8⟩; clear HR; have HB8 := hid_of' (bgo HB.out hb8); clear hb8 HB r7) | (go_at_call 13; refine (HW.out _).mono ?_; rintro e w9 ⟨rfl, hb9⟩))
  go_ret
  exact ⟨rfl, bgo HB8.out hb9⟩
end Go.Proofs.YtgkbgojgpomcdaaDoor
namespace Go.Proofs.YtgkbgojgpomcdaaDoor
open Go.RowKit Go.Extern.Stop Go.Stop Go.Extern
set_option maxRecDepth 100000

set_option maxHeartbeats 8000000 in
theorem undoLoads_yes00 {ad : Nat → Addr} {W : World} {a0 : Option Addr} {n0 c0 : Nat} {a1 : Option Addr} {n1 c1 : Nat} {v2 : Value} {l : List Uop} (L : Laid ad W) (k0 : ¬ 70 < n0) (k1 : ¬ 70 < n1) (h : SlU W v2 l ∧ ∀ x ∈ l, x.Ok W) (hD : LdY W (.slice a0 n0 c0) (.slice a1 n1 c1)) :
    Calls Tryd.prog 4 #[.slice a0 n0 c0, .slice a1 n1 c1, v2] W fun e w' => e = .returned (.bool true) ∧ Below W.heap.size W w' := by
  obtain ⟨a, c, rfl⟩ := h.1.form
  have H := hid_of' h
  have HL := hid_of' L
  have HW := hid_of' wakes14_ok
  have ka0 : ¬ 70 < (n0 : Int) := by omega
  clear k0
  have ka1 : ¬ 70 < (n1 : Int) := by omega
  clear k1
  clear h L
  obtain ⟨ds, us, h5, h6⟩ := hD
  have H5 := hid_of' h5
  have H6 := hid_of' h6
  clear h5 h6
  go_enter Tryd.func4, Tryd.ntmps4
  go_upto_region 6 with (go_at_call 14; (with_reducible refine H5.out.mono ?_); rintro e w5 ⟨Bs, vd, vu, F, rfl, he5, hF5, hb5⟩; clear H5; have E5 := hid_of' (And.intro he5 (And.intro hF5 hb5)); clear he5 hF5 hb5)
  go_upto_region 7 with (first | (go_at_call 15; (with_reducible refine (H6.out _ E5.out.2.2).mono ?_); rintro e w6 ⟨Br, vd', vu', F', rfl, he6, hF6, hb6⟩; clear H6; have E6 := hid_of' (And.intro he6 (And.intro hF6 hb6)); clear he6 hF6 hb6; have r6 := row_new w6 (nov 0 none 0 0 none 0 0) 47) | (refine wpL_storeNo rfl _ _ rfl rfl rfl r6 ?_))
  change Code.wp _ _ _ _ ((w6.alloc (.cells (nov 0 none 0 0 none 0 0) 47)).setRow w6.heap.size (nov 0 none 0 0 none 0 0))
  have r7 := r6.put (nov 0 none 0 0 none 0 0)
  have hb7 : Below w6.heap.size w6 ((w6.alloc (.cells (nov 0 none 0 0 none 0 0) 47)).setRow w6.heap.size (nov 0 none 0 0 none 0 0)) := below_row (below_one w6 _) (Nat.le_refl _) _
  clear r6
  generalize ((w6.alloc (.cells (nov 0 none 0 0 none 0 0) 47)).setRow w6.heap.size (nov 0 none 0 0 none 0 0)) = w7 at r7 hb7 ⊢
  generalize w6.heap.size = nb at r7 ⊢
  have HR := hid_of' (refused_is (ad := ad) (w := w7) (M := 0) (M' := 0) (o := none) (HL.out.below (bgo (bgo E5.out.2.2 E6.out.2.2) hb7)) rfl rfl)
  have E7 := hid_of' hb7
  clear hb7
  go_upto_region 12 with (first | (refine wpL_loadNo rfl _ rfl rfl r7 rfl ?_) | (go_at_call 16; refine HR.out.mono ?_; rintro e w8 ⟨rfl, hb8⟩; clear HR; have E8 := hid_of' hb8; clear hb8 r7))
  have b9 := below_one w8 (.cells #[.pointer (some ⟨Bs, 0, none⟩), .pointer (some ⟨Br, 0, none⟩)] 31)
  have r9 := row_new w8 #[.pointer (some ⟨Bs, 0, none⟩), .pointer (some ⟨Br, 0, none⟩)] 31
  have HP : Hid (PrAt W.heap.size w8.heap.size Bs Br ds us vd vu vd' vu' F F' (w8.alloc (.cells #[.pointer (some ⟨Bs, 0, none⟩), .pointer (some ⟨Br, 0, none⟩)] 31)) ∧ Below W.heap.size W (w8.alloc (.cells #[.pointer (some ⟨Bs, 0, none⟩), .pointer (some ⟨Br, 0, none⟩)] 31))) := by
    have x1 := E6.out.2.2
    have x2 := E7.out
    have x3 := E8.out
    have s5 := E5.out.2.2.size
    have s6 := x1.size
    have s7 := x2.size
    have s8 := x3.size
    have y6 := bgo (bgo x2 x3) b9
    refine ⟨⟨r9, (E5.out.1.later x1).later y6, E6.out.1.later y6, fun q h1 h2 => ?_, fun q => ?_, fun q => ?_, ?_, E5.out.2.1, fun q hq => ?_⟩, bgo (bgo E5.out.2.2 x1) y6⟩
    · have := E5.out.1.lt q h1
      have := E6.out.2.1 q h2
      omega
    · have := E5.out.1.lt _ q
      omega
    · have := E6.out.1.lt _ q
      omega
    · omega
    · have := E6.out.2.1 q hq
      omega
  clear b9 r9 E5 E6 E7 E8
  generalize w8.alloc (.cells #[.pointer (some ⟨Bs, 0, none⟩), .pointer (some ⟨Br, 0, none⟩)] 31) = W3 at HP ⊢
  generalize w8.heap.size = P at HP ⊢
  have HS0 := hid_of' (same_ok HP.out.1)
  go_upto_region 15 with (go_at_call 12; (with_reducible refine HS0.out.mono ?_); rintro e w4 ⟨rfl, hb4⟩; clear HS0; have HP4 := hid_of' (And.intro (HP.out.1.later hb4) (bgo HP.out.2 hb4)); clear hb4 HP)
  go_loopw [12] (fun iv wr => ∃ (i : Nat), iv = .int .i64 (i : Int) ∧ i ≤ 60 ∧ (∃ d u vd vu vd' vu' F F', PrAt W.heap.size P Bs Br d u vd vu vd' vu' F F' wr) ∧ Below W.heap.size W wr) (fun iv _ => 60 - (intOf iv).toNat)
  case atStart => exact ⟨0, rfl, by omega, ⟨_, _, _, _, _, _, _, _, HP4.out.1⟩, HP4.out.2⟩
  case round =>
    obtain ⟨i, rfl, hi, ⟨d, u, xd, xu, xd', xu', G, G', hP⟩, hB⟩ := hrel
    by_cases hil : i < l.length ∧ i < 60
    · obtain ⟨h1, h2⟩ := hil
      have hi1 : (i : Int) < (l.length : Int) := by omega
      have hi2 : (i : Int) < 60 := by omega
      obtain ⟨o, ho⟩ : ∃ o, l[i]? = some o := ⟨_, List.getElem?_eq_getElem h1⟩
      obtain ⟨_, g, o_, rfl, hc⟩ := H.out.1.some' (by rintro rfl; simp at h1)
      have hok := H.out.2 o (List.mem_of_getElem? ho)
      have hcs := (hc i o ho).later hB
      have HDo := hid_of' (does_all hP (ad := ad) (fun x hx => HL.out.below (hB.trans hx)) hok (fun x hx => hok.sl.later (hB.trans hx)))
      have HB := hid_of' hB
      clear hc ho hok hP hB
      go_upto_region 16 with (first | (refine wpL_loadU rfl _ rfl rfl hcs ?_) | (go_at_call 10; (with_reducible refine HDo.out.mono ?_); rintro e w5 ⟨rfl, ⟨d4, u4, vd4, vu4, vd5, vu5, F4, F5, hP4⟩, hb4⟩; clear HDo))
      have H5 := hid_of' (And.intro hP4 (HB.out.trans hb4))
      clear hP4 hb4 hcs
      go_wp2
      go_roundw
      case rel => exact ⟨i + 1, by go_num, by omega, ⟨_, _, _, _, _, _, _, _, H5.out.1⟩, H5.out.2⟩
      case measure => simp [intOf]; omega
    · have HS := hid_of' (same_ok hP)
      have HB := hid_of' (And.intro hB hP.size)
      clear hP hB
      by_cases h1 : i < l.length
      · have hi1 : (i : Int) < (l.length : Int) := by omega
        have hi2 : ¬ (i : Int) < 60 := by omega
        clear hil
        go_wp2_with (first | (go_at_call 12; (with_reducible refine HS.out.mono ?_); rintro e w6 ⟨rfl, hb6⟩; clear HS; have H6 := hid_of' hb6; clear hb6) | (go_at_call 13; refine (HW.out _).mono ?_; rintro e w7 ⟨rfl, hb7⟩))
        go_ret
        exact ⟨rfl, HB.out.1.trans ((bgo H6.out hb7).mono HB.out.2)⟩
      · have hi1 : ¬ (i : Int) < (l.length : Int) := by omega
        clear hil
        go_wp2_with (first | (go_at_call 12; (with_reducible refine HS.out.mono ?_); rintro e w6 ⟨rfl, hb6⟩; clear HS; have H6 := hid_of' hb6; clear hb6) | (go_at_call 13; refine (HW.out _).mono ?_; rintro e w7 ⟨rfl, hb7⟩))
        go_ret
        exact ⟨rfl, HB.out.1.trans ((bgo H6.out hb7).mono HB.out.2)⟩
set_option maxHeartbeats 8000000 in
theorem undoLoads_yes01 {ad : Nat → Addr} {W : World} {a0 : Option Addr} {n0 c0 : Nat} {g1 p1 n1 c1 : Nat} {v2 : Value} {l : List Uop} (L : Laid ad W) (k0 : ¬ 70 < n0) (k1 : 70 < n1) (kc1 : n1 ≤ c1) (h : SlU W v2 l ∧ ∀ x ∈ l, x.Ok W) (hD : LdY W (.slice a0 n0 c0) (.slice (some ⟨g1, p1, none⟩) 70 c1)) :
    Calls Tryd.prog 4 #[.slice a0 n0 c0, .slice (some ⟨g1, p1, none⟩) n1 c1, v2] W fun e w' => e = .returned (.bool true) ∧ Below W.heap.size W w' := by
  obtain ⟨a, c, rfl⟩ := h.1.form
  have H := hid_of' h
  have HL := hid_of' L
  have HW := hid_of' wakes14_ok
  have ka0 : ¬ 70 < (n0 : Int) := by omega
  clear k0
  have ka1 : 70 < (n1 : Int) := by omega
  have kb1 : 70 ≤ (c1 : Int) := by omega
  have kd1 : ¬ (n1 : Int) ≤ 70 := by omega
  have ke1 : 70 ≤ c1 := by omega
  clear k1 kc1
  clear h L
  obtain ⟨ds, us, h5, h6⟩ := hD
  have H5 := hid_of' h5
  have H6 := hid_of' h6
  clear h5 h6
  go_enter Tryd.func4, Tryd.ntmps4
  go_upto_region 6 with (go_at_call 14; (with_reducible refine H5.out.mono ?_); rintro e w5 ⟨Bs, vd, vu, F, rfl, he5, hF5, hb5⟩; clear H5; have E5 := hid_of' (And.intro he5 (And.intro hF5 hb5)); clear he5 hF5 hb5)
  go_upto_region 7 with (first | (go_at_call 15; (with_reducible refine (H6.out _ E5.out.2.2).mono ?_); rintro e w6 ⟨Br, vd', vu', F', rfl, he6, hF6, hb6⟩; clear H6; have E6 := hid_of' (And.intro he6 (And.intro hF6 hb6)); clear he6 hF6 hb6; have r6 := row_new w6 (nov 0 none 0 0 none 0 0) 47) | (refine wpL_storeNo rfl _ _ rfl rfl rfl r6 ?_))
  change Code.wp _ _ _ _ ((w6.alloc (.cells (nov 0 none 0 0 none 0 0) 47)).setRow w6.heap.size (nov 0 none 0 0 none 0 0))
  have r7 := r6.put (nov 0 none 0 0 none 0 0)
  have hb7 : Below w6.heap.size w6 ((w6.alloc (.cells (nov 0 none 0 0 none 0 0) 47)).setRow w6.heap.size (nov 0 none 0 0 none 0 0)) := below_row (below_one w6 _) (Nat.le_refl _) _
  clear r6
  generalize ((w6.alloc (.cells (nov 0 none 0 0 none 0 0) 47)).setRow w6.heap.size (nov 0 none 0 0 none 0 0)) = w7 at r7 hb7 ⊢
  generalize w6.heap.size = nb at r7 ⊢
  have HR := hid_of' (refused_is (ad := ad) (w := w7) (M := 0) (M' := 0) (o := none) (HL.out.below (bgo (bgo E5.out.2.2 E6.out.2.2) hb7)) rfl rfl)
  have E7 := hid_of' hb7
  clear hb7
  go_upto_region 12 with (first | (refine wpL_loadNo rfl _ rfl rfl r7 rfl ?_) | (go_at_call 16; refine HR.out.mono ?_; rintro e w8 ⟨rfl, hb8⟩; clear HR; have E8 := hid_of' hb8; clear hb8 r7))
  have b9 := below_one w8 (.cells #[.pointer (some ⟨Bs, 0, none⟩), .pointer (some ⟨Br, 0, none⟩)] 31)
  have r9 := row_new w8 #[.pointer (some ⟨Bs, 0, none⟩), .pointer (some ⟨Br, 0, none⟩)] 31
  have HP : Hid (PrAt W.heap.size w8.heap.size Bs Br ds us vd vu vd' vu' F F' (w8.alloc (.cells #[.pointer (some ⟨Bs, 0, none⟩), .pointer (some ⟨Br, 0, none⟩)] 31)) ∧ Below W.heap.size W (w8.alloc (.cells #[.pointer (some ⟨Bs, 0, none⟩), .pointer (some ⟨Br, 0, none⟩)] 31))) := by
    have x1 := E6.out.2.2
    have x2 := E7.out
    have x3 := E8.out
    have s5 := E5.out.2.2.size
    have s6 := x1.size
    have s7 := x2.size
    have s8 := x3.size
    have y6 := bgo (bgo x2 x3) b9
    refine ⟨⟨r9, (E5.out.1.later x1).later y6, E6.out.1.later y6, fun q h1 h2 => ?_, fun q => ?_, fun q => ?_, ?_, E5.out.2.1, fun q hq => ?_⟩, bgo (bgo E5.out.2.2 x1) y6⟩
    · have := E5.out.1.lt q h1
      have := E6.out.2.1 q h2
      omega
    · have := E5.out.1.lt _ q
      omega
    · have := E6.out.1.lt _ q
      omega
    · omega
    · have := E6.out.2.1 q hq
      omega
  clear b9 r9 E5 E6 E7 E8
  generalize w8.alloc (.cells #[.pointer (some ⟨Bs, 0, none⟩), .pointer (some ⟨Br, 0, none⟩)] 31) = W3 at HP ⊢
  generalize w8.heap.size = P at HP ⊢
  have HS0 := hid_of' (same_ok HP.out.1)
  go_upto_region 15 with (go_at_call 12; (with_reducible refine HS0.out.mono ?_); rintro e w4 ⟨rfl, hb4⟩; clear HS0; have HP4 := hid_of' (And.intro (HP.out.1.later hb4) (bgo HP.out.2 hb4)); clear hb4 HP)
  go_loopw [12] (fun iv wr => ∃ (i : Nat), iv = .int .i64 (i : Int) ∧ i ≤ 60 ∧ (∃ d u vd vu vd' vu' F F', PrAt W.heap.size P Bs Br d u vd vu vd' vu' F F' wr) ∧ Below W.heap.size W wr) (fun iv _ => 60 - (intOf iv).toNat)
  case atStart => exact ⟨0, rfl, by omega, ⟨_, _, _, _, _, _, _, _, HP4.out.1⟩, HP4.out.2⟩
  case round =>
    obtain ⟨i, rfl, hi, ⟨d, u, xd, xu, xd', xu', G, G', hP⟩, hB⟩ := hrel
    by_cases hil : i < l.length ∧ i < 60
    · obtain ⟨h1, h2⟩ := hil
      have hi1 : (i : Int) < (l.length : Int) := by omega
      have hi2 : (i : Int) < 60 := by omega
      obtain ⟨o, ho⟩ : ∃ o, l[i]? = some o := ⟨_, List.getElem?_eq_getElem h1⟩
      obtain ⟨_, g, o_, rfl, hc⟩ := H.out.1.some' (by rintro rfl; simp at h1)
      have hok := H.out.2 o (List.mem_of_getElem? ho)
      have hcs := (hc i o ho).later hB
      have HDo := hid_of' (does_all hP (ad := ad) (fun x hx => HL.out.below (hB.trans hx)) hok (fun x hx => hok.sl.later (hB.trans hx)))
      have HB := hid_of' hB
      clear hc ho hok hP hB
      go_upto_region 16 with (first | (refine wpL_loadU rfl _ rfl rfl hcs ?_) | (go_at_call 10; (with_reducible refine HDo.out.mono ?_); rintro e w5 ⟨rfl, ⟨d4, u4, vd4, vu4, vd5, vu5, F4, F5, hP4⟩, hb4⟩; clear HDo))
      have H5 := hid_of' (And.intro hP4 (HB.out.trans hb4))
      clear hP4 hb4 hcs
      go_wp2
      go_roundw
      case rel => exact ⟨i + 1, by go_num, by omega, ⟨_, _, _, _, _, _, _, _, H5.out.1⟩, H5.out.2⟩
      case measure => simp [intOf]; omega
    · have HS := hid_of' (same_ok hP)
      have HB := hid_of' (And.intro hB hP.size)
      clear hP hB
      by_cases h1 : i < l.length
      · have hi1 : (i : Int) < (l.length : Int) := by omega
        have hi2 : ¬ (i : Int) < 60 := by omega
        clear hil
        go_wp2_with (first | (go_at_call 12; (with_reducible refine HS.out.mono ?_); rintro e w6 ⟨rfl, hb6⟩; clear HS; have H6 := hid_of' hb6; clear hb6) | (go_at_call 13; refine (HW.out _).mono ?_; rintro e w7 ⟨rfl, hb7⟩))
        go_ret
        exact ⟨rfl, HB.out.1.trans ((bgo H6.out hb7).mono HB.out.2)⟩
      · have hi1 : ¬ (i : Int) < (l.length : Int) := by omega
        clear hil
        go_wp2_with (first | (go_at_call 12; (with_reducible refine HS.out.mono ?_); rintro e w6 ⟨rfl, hb6⟩; clear HS; have H6 := hid_of' hb6; clear hb6) | (go_at_call 13; refine (HW.out _).mono ?_; rintro e w7 ⟨rfl, hb7⟩))
        go_ret
        exact ⟨rfl, HB.out.1.trans ((bgo H6.out hb7).mono HB.out.2)⟩
end Go.Proofs.YtgkbgojgpomcdaaDoor
namespace Go.Proofs.YtgkbgojgpomcdaaDoor
open Go.RowKit Go.Extern.Stop Go.Stop Go.Extern
set_option maxRecDepth 100000

set_option maxHeartbeats 8000000 in
theorem undoLoads_yes10 {ad : Nat → Addr} {W : World} {g0 p0 n0 c0 : Nat} {a1 : Option Addr} {n1 c1 : Nat} {v2 : Value} {l : List Uop} (L : Laid ad W) (k0 : 70 < n0) (kc0 : n0 ≤ c0) (k1 : ¬ 70 < n1) (h : SlU W v2 l ∧ ∀ x ∈ l, x.Ok W) (hD : LdY W (.slice (some ⟨g0, p0, none⟩) 70 c0) (.slice a1 n1 c1)) :
    Calls Tryd.prog 4 #[.slice (some ⟨g0, p0, none⟩) n0 c0, .slice a1 n1 c1, v2] W fun e w' => e = .returned (.bool true) ∧ Below W.heap.size W w' := by
  obtain ⟨a, c, rfl⟩ := h.1.form
  have H := hid_of' h
  have HL := hid_of' L
  have HW := hid_of' wakes14_ok
  have ka0 : 70 < (n0 : Int) := by omega
  have kb0 : 70 ≤ (c0 : Int) := by omega
  have kd0 : ¬ (n0 : Int) ≤ 70 := by omega
  have ke0 : 70 ≤ c0 := by omega
  clear k0 kc0
  have ka1 : ¬ 70 < (n1 : Int) := by omega
  clear k1
  clear h L
  obtain ⟨ds, us, h5, h6⟩ := hD
  have H5 := hid_of' h5
  have H6 := hid_of' h6
  clear h5 h6
  go_enter Tryd.func4, Tryd.ntmps4
  go_upto_region 6 with (go_at_call 14; (with_reducible refine H5.out.mono ?_); rintro e w5 ⟨Bs, vd, vu, F, rfl, he5, hF5, hb5⟩; clear H5; have E5 := hid_of' (And.intro he5 (And.intro hF5 hb5)); clear he5 hF5 hb5)
  go_upto_region 7 with (first | (go_at_call 15; (with_reducible refine (H6.out _ E5.out.2.2).mono ?_); rintro e w6 ⟨Br, vd', vu', F', rfl, he6, hF6, hb6⟩; clear H6; have E6 := hid_of' (And.intro he6 (And.intro hF6 hb6)); clear he6 hF6 hb6; have r6 := row_new w6 (nov 0 none 0 0 none 0 0) 47) | (refine wpL_storeNo rfl _ _ rfl rfl rfl r6 ?_))
  change Code.wp _ _ _ _ ((w6.alloc (.cells (nov 0 none 0 0 none 0 0) 47)).setRow w6.heap.size (nov 0 none 0 0 none 0 0))
  have r7 := r6.put (nov 0 none 0 0 none 0 0)
  have hb7 : Below w6.heap.size w6 ((w6.alloc (.cells (nov 0 none 0 0 none 0 0) 47)).setRow w6.heap.size (nov 0 none 0 0 none 0 0)) := below_row (below_one w6 _) (Nat.le_refl _) _
  clear r6
  generalize ((w6.alloc (.cells (nov 0 none 0 0 none 0 0) 47)).setRow w6.heap.size (nov 0 none 0 0 none 0 0)) = w7 at r7 hb7 ⊢
  generalize w6.heap.size = nb at r7 ⊢
  have HR := hid_of' (refused_is (ad := ad) (w := w7) (M := 0) (M' := 0) (o := none) (HL.out.below (bgo (bgo E5.out.2.2 E6.out.2.2) hb7)) rfl rfl)
  have E7 := hid_of' hb7
  clear hb7
  go_upto_region 12 with (first | (refine wpL_loadNo rfl _ rfl rfl r7 rfl ?_) | (go_at_call 16; refine HR.out.mono ?_; rintro e w8 ⟨rfl, hb8⟩; clear HR; have E8 := hid_of' hb8; clear hb8 r7))
  have b9 := below_one w8 (.cells #[.pointer (some ⟨Bs, 0, none⟩), .pointer (some ⟨Br, 0, none⟩)] 31)
  have r9 := row_new w8 #[.pointer (some ⟨Bs, 0, none⟩), .pointer (some ⟨Br, 0, none⟩)] 31
  have HP : Hid (PrAt W.heap.size w8.heap.size Bs Br ds us vd vu vd' vu' F F' (w8.alloc (.cells #[.pointer (some ⟨Bs, 0, none⟩), .pointer (some ⟨Br, 0, none⟩)] 31)) ∧ Below W.heap.size W (w8.alloc (.cells #[.pointer (some ⟨Bs, 0, none⟩), .pointer (some ⟨Br, 0, none⟩)] 31))) := by
    have x1 := E6.out.2.2
    have x2 := E7.out
    have x3 := E8.out
    have s5 := E5.out.2.2.size
    have s6 := x1.size
    have s7 := x2.size
    have s8 := x3.size
    have y6 := bgo (bgo x2 x3) b9
    refine ⟨⟨r9, (E5.out.1.later x1).later y6, E6.out.1.later y6, fun q h1 h2 => ?_, fun q => ?_, fun q => ?_, ?_, E5.out.2.1, fun q hq => ?_⟩, bgo (bgo E5.out.2.2 x1) y6⟩
    · have := E5.out.1.lt q h1
      have := E6.out.2.1 q h2
      omega
    · have := E5.out.1.lt _ q
      omega
    · have := E6.out.1.lt _ q
      omega
    · omega
    · have := E6.out.2.1 q hq
      omega
  clear b9 r9 E5 E6 E7 E8
  generalize w8.alloc (.cells #[.pointer (some ⟨Bs, 0, none⟩), .pointer (some ⟨Br, 0, none⟩)] 31) = W3 at HP ⊢
  generalize w8.heap.size = P at HP ⊢
  have HS0 := hid_of' (same_ok HP.out.1)
  go_upto_region 15 with (go_at_call 12; (with_reducible refine HS0.out.mono ?_); rintro e w4 ⟨rfl, hb4⟩; clear HS0; have HP4 := hid_of' (And.intro (HP.out.1.later hb4) (bgo HP.out.2 hb4)); clear hb4 HP)
  go_loopw [12] (fun iv wr => ∃ (i : Nat), iv = .int .i64 (i : Int) ∧ i ≤ 60 ∧ (∃ d u vd vu vd' vu' F F', PrAt W.heap.size P Bs Br d u vd vu vd' vu' F F' wr) ∧ Below W.heap.size W wr) (fun iv _ => 60 - (intOf iv).toNat)
  case atStart => exact ⟨0, rfl, by omega, ⟨_, _, _, _, _, _, _, _, HP4.out.1⟩, HP4.out.2⟩
  case round =>
    obtain ⟨i, rfl, hi, ⟨d, u, xd, xu, xd', xu', G, G', hP⟩, hB⟩ := hrel
    by_cases hil : i < l.length ∧ i < 60
    · obtain ⟨h1, h2⟩ := hil
      have hi1 : (i : Int) < (l.length : Int) := by omega
      have hi2 : (i : Int) < 60 := by omega
      obtain ⟨o, ho⟩ : ∃ o, l[i]? = some o := ⟨_, List.getElem?_eq_getElem h1⟩
      obtain ⟨_, g, o_, rfl, hc⟩ := H.out.1.some' (by rintro rfl; simp at h1)
      have hok := H.out.2 o (List.mem_of_getElem? ho)
      have hcs := (hc i o ho).later hB
      have HDo := hid_of' (does_all hP (ad := ad) (fun x hx => HL.out.below (hB.trans hx)) hok (fun x hx => hok.sl.later (hB.trans hx)))
      have HB := hid_of' hB
      clear hc ho hok hP hB
      go_upto_region 16 with (first | (refine wpL_loadU rfl _ rfl rfl hcs ?_) | (go_at_call 10; (with_reducible refine HDo.out.mono ?_); rintro e w5 ⟨rfl, ⟨d4, u4, vd4, vu4, vd5, vu5, F4, F5, hP4⟩, hb4⟩; clear HDo))
      have H5 := hid_of' (And.intro hP4 (HB.out.trans hb4))
      clear hP4 hb4 hcs
      go_wp2
      go_roundw
      case rel => exact ⟨i + 1, by go_num, by omega, ⟨_, _, _, _, _, _, _, _, H5.out.1⟩, H5.out.2⟩
      case measure => simp [intOf]; omega
    · have HS := hid_of' (same_ok hP)
      have HB := hid_of' (And.intro hB hP.size)
      clear hP hB
      by_cases h1 : i < l.length
      · have hi1 : (i : Int) < (l.length : Int) := by omega
        have hi2 : ¬ (i : Int) < 60 := by omega
        clear hil
        go_wp2_with (first | (go_at_call 12; (with_reducible refine HS.out.mono ?_); rintro e w6 ⟨rfl, hb6⟩; clear HS; have H6 := hid_of' hb6; clear hb6) | (go_at_call 13; refine (HW.out _).mono ?_; rintro e w7 ⟨rfl, hb7⟩))
        go_ret
        exact ⟨rfl, HB.out.1.trans ((bgo H6.out hb7).mono HB.out.2)⟩
      · have hi1 : ¬ (i : Int) < (l.length : Int) := by omega
        clear hil
        go_wp2_with (first | (go_at_call 12; (with_reducible refine HS.out.mono ?_); rintro e w6 ⟨rfl, hb6⟩; clear HS; have H6 := hid_of' hb6; clear hb6) | (go_at_call 13; refine (HW.out _).mono ?_; rintro e w7 ⟨rfl, hb7⟩))
        go_ret
        exact ⟨rfl, HB.out.1.trans ((bgo H6.out hb7).mono HB.out.2)⟩
set_option maxHeartbeats 8000000 in
theorem undoLoads_yes11 {ad : Nat → Addr} {W : World} {g0 p0 n0 c0 : Nat} {g1 p1 n1 c1 : Nat} {v2 : Value} {l : List Uop} (L : Laid ad W) (k0 : 70 < n0) (kc0 : n0 ≤ c0) (k1 : 70 < n1) (kc1 : n1 ≤ c1) (h : SlU W v2 l ∧ ∀ x ∈ l, x.Ok W) (hD : LdY W (.slice (some ⟨g0, p0, none⟩) 70 c0) (.slice (some ⟨g1, p1, none⟩) 70 c1)) :
    Calls Tryd.prog 4 #[.slice (some ⟨g0, p0, none⟩) n0 c0, .slice (some ⟨g1, p1, none⟩) n1 c1, v2] W fun e w' => e = .returned (.bool true) ∧ Below W.heap.size W w' := by
  obtain ⟨a, c, rfl⟩ := h.1.form
  have H := hid_of' h
  have HL := hid_of' L
  have HW := hid_of' wakes14_ok
  have ka0 : 70 < (n0 : Int) := by omega
  have kb0 : 70 ≤ (c0 : Int) := by omega
  have kd0 : ¬ (n0 : Int) ≤ 70 := by omega
  have ke0 : 70 ≤ c0 := by omega
  clear k0 kc0
  have ka1 : 70 < (n1 : Int) := by omega
  have kb1 : 70 ≤ (c1 : Int) := by omega
  have kd1 : ¬ (n1 : Int) ≤ 70 := by omega
  have ke1 : 70 ≤ c1 := by omega
  clear k1 kc1
  clear h L
  obtain ⟨ds, us, h5, h6⟩ := hD
  have H5 := hid_of' h5
  have H6 := hid_of' h6
  clear h5 h6
  go_enter Tryd.func4, Tryd.ntmps4
  go_upto_region 6 with (go_at_call 14; (with_reducible refine H5.out.mono ?_); rintro e w5 ⟨Bs, vd, vu, F, rfl, he5, hF5, hb5⟩; clear H5; have E5 := hid_of' (And.intro he5 (And.intro hF5 hb5)); clear he5 hF5 hb5)
  go_upto_region 7 with (first | (go_at_call 15; (with_reducible refine (H6.out _ E5.out.2.2).mono ?_); rintro e w6 ⟨Br, vd', vu', F', rfl, he6, hF6, hb6⟩; clear H6; have E6 := hid_of' (And.intro he6 (And.intro hF6 hb6)); clear he6 hF6 hb6; have r6 := row_new w6 (nov 0 none 0 0 none 0 0) 47) | (refine wpL_storeNo rfl _ _ rfl rfl rfl r6 ?_))
  change Code.wp _ _ _ _ ((w6.alloc (.cells (nov 0 none 0 0 none 0 0) 47)).setRow w6.heap.size (nov 0 none 0 0 none 0 0))
  have r7 := r6.put (nov 0 none 0 0 none 0 0)
  have hb7 : Below w6.heap.size w6 ((w6.alloc (.cells (nov 0 none 0 0 none 0 0) 47)).setRow w6.heap.size (nov 0 none 0 0 none 0 0)) := below_row (below_one w6 _) (Nat.le_refl _) _
  clear r6
  generalize ((w6.alloc (.cells (nov 0 none 0 0 none 0 0) 47)).setRow w6.heap.size (nov 0 none 0 0 none 0 0)) = w7 at r7 hb7 ⊢
  generalize w6.heap.size = nb at r7 ⊢
  have HR := hid_of' (refused_is (ad := ad) (w := w7) (M := 0) (M' := 0) (o := none) (HL.out.below (bgo (bgo E5.out.2.2 E6.out.2.2) hb7)) rfl rfl)
  have E7 := hid_of' hb7
  clear hb7
  go_upto_region 12 with (first | (refine wpL_loadNo rfl _ rfl rfl r7 rfl ?_) | (go_at_call 16; refine HR.out.mono ?_; rintro e w8 ⟨rfl, hb8⟩; clear HR; have E8 := hid_of' hb8; clear hb8 r7))
  have b9 := below_one w8 (.cells #[.pointer (some ⟨Bs, 0, none⟩), .pointer (some ⟨Br, 0, none⟩)] 31)
  have r9 := row_new w8 #[.pointer (some ⟨Bs, 0, none⟩), .pointer (some ⟨Br, 0, none⟩)] 31
  have HP : Hid (PrAt W.heap.size w8.heap.size Bs Br ds us vd vu vd' vu' F F' (w8.alloc (.cells #[.pointer (some ⟨Bs, 0, none⟩), .pointer (some ⟨Br, 0, none⟩)] 31)) ∧ Below W.heap.size W (w8.alloc (.cells #[.pointer (some ⟨Bs, 0, none⟩), .pointer (some ⟨Br, 0, none⟩)] 31))) := by
    have x1 := E6.out.2.2
    have x2 := E7.out
    have x3 := E8.out
    have s5 := E5.out.2.2.size
    have s6 := x1.size
    have s7 := x2.size
    have s8 := x3.size
    have y6 := bgo (bgo x2 x3) b9
    refine ⟨⟨r9, (E5.out.1.later x1).later y6, E6.out.1.later y6, fun q h1 h2 => ?_, fun q => ?_, fun q => ?_, ?_, E5.out.2.1, fun q hq => ?_⟩, bgo (bgo E5.out.2.2 x1) y6⟩
    · have := E5.out.1.lt q h1
      have := E6.out.2.1 q h2
      omega
    · have := E5.out.1.lt _ q
      omega
    · have := E6.out.1.lt _ q
      omega
    · omega
    · have := E6.out.2.1 q hq
      omega
  clear b9 r9 E5 E6 E7 E8
  generalize w8.alloc (.cells #[.pointer (some ⟨Bs, 0, none⟩), .pointer (some ⟨Br, 0, none⟩)] 31) = W3 at HP ⊢
  generalize w8.heap.size = P at HP ⊢
  have HS0 := hid_of' (same_ok HP.out.1)
  go_upto_region 15 with (go_at_call 12; (with_reducible refine HS0.out.mono ?_); rintro e w4 ⟨rfl, hb4⟩; clear HS0; have HP4 := hid_of' (And.intro (HP.out.1.later hb4) (bgo HP.out.2 hb4)); clear hb4 HP)
  go_loopw [12] (fun iv wr => ∃ (i : Nat), iv = .int .i64 (i : Int) ∧ i ≤ 60 ∧ (∃ d u vd vu vd' vu' F F', PrAt W.heap.size P Bs Br d u vd vu vd' vu' F F' wr) ∧ Below W.heap.size W wr) (fun iv _ => 60 - (intOf iv).toNat)
  case atStart => exact ⟨0, rfl, by omega, ⟨_, _, _, _, _, _, _, _, HP4.out.1⟩, HP4.out.2⟩
  case round =>
    obtain ⟨i, rfl, hi, ⟨d, u, xd, xu, xd', xu', G, G', hP⟩, hB⟩ := hrel
    by_cases hil : i < l.length ∧ i < 60
    · obtain ⟨h1, h2⟩ := hil
      have hi1 : (i : Int) < (l.length : Int) := by omega
      have hi2 : (i : Int) < 60 := by omega
      obtain ⟨o, ho⟩ : ∃ o, l[i]? = some o := ⟨_, List.getElem?_eq_getElem h1⟩
      obtain ⟨_, g, o_, rfl, hc⟩ := H.out.1.some' (by rintro rfl; simp at h1)
      have hok := H.out.2 o (List.mem_of_getElem? ho)
      have hcs := (hc i o ho).later hB
      have HDo := hid_of' (does_all hP (ad := ad) (fun x hx => HL.out.below (hB.trans hx)) hok (fun x hx => hok.sl.later (hB.trans hx)))
      have HB := hid_of' hB
      clear hc ho hok hP hB
      go_upto_region 16 with (first | (refine wpL_loadU rfl _ rfl rfl hcs ?_) | (go_at_call 10; (with_reducible refine HDo.out.mono ?_); rintro e w5 ⟨rfl, ⟨d4, u4, vd4, vu4, vd5, vu5, F4, F5, hP4⟩, hb4⟩; clear HDo))
      have H5 := hid_of' (And.intro hP4 (HB.out.trans hb4))
      clear hP4 hb4 hcs
      go_wp2
      go_roundw
      case rel => exact ⟨i + 1, by go_num, by omega, ⟨_, _, _, _, _, _, _, _, H5.out.1⟩, H5.out.2⟩
      case measure => simp [intOf]; omega
    · have HS := hid_of' (same_ok hP)
      have HB := hid_of' (And.intro hB hP.size)
      clear hP hB
      by_cases h1 : i < l.length
      · have hi1 : (i : Int) < (l.length : Int) := by omega
        have hi2 : ¬ (i : Int) < 60 := by omega
        clear hil
        go_wp2_with (first | (go_at_call 12; (with_reducible refine HS.out.mono ?_); rintro e w6 ⟨rfl, hb6⟩; clear HS; have H6 := hid_of' hb6; clear hb6) | (go_at_call 13; refine (HW.out _).mono ?_; rintro e w7 ⟨rfl, hb7⟩))
        go_ret
        exact ⟨rfl, HB.out.1.trans ((bgo H6.out hb7).mono HB.out.2)⟩
      · have hi1 : ¬ (i : Int) < (l.length : Int) := by omega
        clear hil
        go_wp2_with (first | (go_at_call 12; (with_reducible refine HS.out.mono ?_); rintro e w6 ⟨rfl, hb6⟩; clear HS; have H6 := hid_of' hb6; clear hb6) | (go_at_call 13; refine (HW.out _).mono ?_; rintro e w7 ⟨rfl, hb7⟩))
        go_ret
        exact ⟨rfl, HB.out.1.trans ((bgo H6.out hb7).mono HB.out.2)⟩
end Go.Proofs.YtgkbgojgpomcdaaDoor
namespace Go.Proofs.YtgkbgojgpomcdaaDoor
open Go.RowKit Go.Extern.Stop Go.Stop Go.Extern
set_option maxRecDepth 100000

theorem undoLoads_all {ad : Nat → Addr} {W : World} {v0 v1 v2 : Value} {ds us : List (List Xg)} {l : List Uop} (L : Laid ad W) (h0 : SlE W v0 ds ∧ (∀ a n c, v0 = .slice a n c → n ≤ c) ∧ ∀ l ∈ ds, l.length ≤ 4398046510976) (h1 : SlE W v1 us ∧ (∀ a n c, v1 = .slice a n c → n ≤ c) ∧ ∀ l ∈ us, l.length ≤ 4398046510976) (h : SlU W v2 l ∧ ∀ x ∈ l, x.Ok W) :
    Calls Tryd.prog 4 #[v0, v1, v2] W fun e w' => e = .returned (.bool true) ∧ Below W.heap.size W w' := by
  obtain ⟨a0, c0, rfl⟩ := h0.1.form
  obtain ⟨a1, c1, rfl⟩ := h1.1.form
  by_cases q0 : 70 < ds.length <;> by_cases q1 : 70 < us.length
  · obtain ⟨g0, p0, _, rfl, _⟩ := h0.1.at (i := 0) (List.getElem?_eq_getElem (by omega))
    obtain ⟨g1, p1, _, rfl, _⟩ := h1.1.at (i := 0) (List.getElem?_eq_getElem (by omega))
    rcases ld_of L (h0.1.take (m := 70) (by omega)) (h1.1.take (m := 70) (by omega)) (by rw [List.length_take]; omega) (by rw [List.length_take]; omega) (fun x hx => (List.mem_append.1 hx).elim (fun q => h0.2.2 x (List.mem_of_mem_take q)) (fun q => h1.2.2 x (List.mem_of_mem_take q))) with q | q
    · exact undoLoads_no11 L q0 (h0.2.1 _ _ _ rfl) q1 (h1.2.1 _ _ _ rfl) h q
    · exact undoLoads_yes11 L q0 (h0.2.1 _ _ _ rfl) q1 (h1.2.1 _ _ _ rfl) h q
  · obtain ⟨g0, p0, _, rfl, _⟩ := h0.1.at (i := 0) (List.getElem?_eq_getElem (by omega))
    rcases ld_of L (h0.1.take (m := 70) (by omega)) h1.1 (by rw [List.length_take]; omega) (by omega) (fun x hx => (List.mem_append.1 hx).elim (fun q => h0.2.2 x (List.mem_of_mem_take q)) (fun q => h1.2.2 x (q))) with q | q
    · exact undoLoads_no10 L q0 (h0.2.1 _ _ _ rfl) q1 h q
    · exact undoLoads_yes10 L q0 (h0.2.1 _ _ _ rfl) q1 h q
  · obtain ⟨g1, p1, _, rfl, _⟩ := h1.1.at (i := 0) (List.getElem?_eq_getElem (by omega))
    rcases ld_of L h0.1 (h1.1.take (m := 70) (by omega)) (by omega) (by rw [List.length_take]; omega) (fun x hx => (List.mem_append.1 hx).elim (fun q => h0.2.2 x (q)) (fun q => h1.2.2 x (List.mem_of_mem_take q))) with q | q
    · exact undoLoads_no01 L q0 q1 (h1.2.1 _ _ _ rfl) h q
    · exact undoLoads_yes01 L q0 q1 (h1.2.1 _ _ _ rfl) h q
  · rcases ld_of L h0.1 h1.1 (by omega) (by omega) (fun x hx => (List.mem_append.1 hx).elim (fun q => h0.2.2 x (q)) (fun q => h1.2.2 x (q))) with q | q
    · exact undoLoads_no00 L q0 q1 h q
    · exact undoLoads_yes00 L q0 q1 h q
end Go.Proofs.YtgkbgojgpomcdaaDoor
