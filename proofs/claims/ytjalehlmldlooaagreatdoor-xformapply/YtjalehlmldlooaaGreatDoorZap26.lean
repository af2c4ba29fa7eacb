
/-
  Ranks: of the element at a place, on both sides of a gap; a rank for a new element, where there is room. A region that draws its order and in which one operation, a call, changes what was there: the law of InvT with that one told apart. (*model.Model).Insert, over what rankFor answers. Ranks are laid out anew: the IDs that have one keep one. A rank for a new element. (*tree.Tree).Set, of a place that there is. (*model.Model).Add, of a place that there is.
-/
import Derived.Test.YtjalehlmldlooaaGreatDoorZap22
import Derived.Test.YtjalehlmldlooaaGreatDoorZap03
import Derived.Test.YtjalehlmldlooaaGreatDoorZap24
import Derived.Test.YtjalehlmldlooaaGreatDoorZap25
namespace Go.Proofs.YtjalehlmldlooaaGreatDoor
open Go.RowKit
set_option maxRecDepth 100000

theorem quiet_lookup1 {o : Oper} {a : Act} {C : World → Prop} {K : Act → Prop} (m x : Operand) (ho : o.op = .lookup 57 m x false) {kb n : Nat} {f : Idn → Option Int} {i : Idn} (hi : i.In) (hm : a.eval m = .map (some kb)) (hx : a.eval x = .agg (idc i.a i.b i.c)) (h : ∀ w, C w → MpAt kb n f w)
    (k : K (a.put o.dst (.int .i64 ((f i).getD 0)))) : o.quiet Tryz.prog a C K :=
  ⟨_, fun w hw => by
    unfold Oper.quietAt execOp
    have e := (h w hw).look1 hi
    unfold Idn.v at e
    simp only [ho, hm, hx, e, Sem.run_bind, Sem.run_pure, Result.andThen_ok]
    exact ⟨rfl, rfl⟩, k⟩
theorem MdAt.later {mb tb kb n : Nat} {R : Rows} {l : List El} {f : Idn → Option Int} {w w' : World} (h : MdAt mb tb kb n R l f w) (hb : Below w.heap.size w w') : MdAt mb tb kb n R l f w' :=
  ⟨h.row.later hb, h.tree.later hb, h.map.later hb, h.no, h.nom, Nat.le_trans h.hi hb.size⟩
/-- An element's rank. -/
def rkO (f : Idn → Option Int) (e : El) : Int := (f e.id).getD 0

set_option maxHeartbeats 2000000 in
theorem rankAt_ok {mb tb kb n : Nat} {R : Rows} {l : List El} {f : Idn → Option Int} {w : World} (h : MdAt mb tb kb n R l f w) (i : Nat) (e : El) (he : l[i]? = some e) (hi : e.id.In) (hn : l.length ≤ 1073741824) :
    Calls Tryz.prog 97 #[pv mb, .int .i64 (i : Int)] w fun r w' => r = .returned (.int .i64 (rkO f e)) ∧ Below w.heap.size w w' := by
  have HA := hid_of' (at_L h.tree i e hn he)
  have c0 : w.cell? ⟨mb, 0, none⟩ = some (.pointer (some ⟨tb, 0, none⟩)) := h.row.cell 0
  have hM := h.map
  have hr := h.row
  clear h
  unfold pv at HA ⊢
  go_enter Tryz.func97, Tryz.ntmps97
  go_upto_region 2 with (first | (go_at_call 72; refine HA.out.mono ?_; rintro r w1 ⟨rfl, hb1⟩) | (refine wpL_storeE rfl _ _ rfl rfl rfl (row_new w1 _ _) ?_))
  have hr5 := (row_new w1 #[.int .i64 0, .int .i64 0, .int .i64 0, .int .i32 0, .int .i64 0] 49).put (ev e)
  have hB : Below w.heap.size w ((w1.alloc (.cells #[.int .i64 0, .int .i64 0, .int .i64 0, .int .i32 0, .int .i64 0] 49)).setRow w1.heap.size (ev e)) := bgo hb1 (below_row (below_one w1 _) (Nat.le_refl _) _)
  generalize (w1.alloc (.cells #[.int .i64 0, .int .i64 0, .int .i64 0, .int .i32 0, .int .i64 0] 49)).setRow w1.heap.size (ev e) = W5 at hr5 hB ⊢
  generalize w1.heap.size = g at hr5 ⊢
  have hM5 := hM.later hB
  have hE : CsIn g 0 (idc e.ep e.rp e.no) W5 := id_at hr5.in
  have hmr := hr.later hB
  have c1 : ∀ s : Wld W5, (wOf s).cell? ⟨mb, 1, none⟩ = some (.map (some kb)) := fun s => hmr.cls 1 _ rfl s
  clear hb1 HA hr hmr c0 w1
  refine wp_region_cls (by kernel_rfl) (by kernel_rfl) ?_
  repeat (first | go_big_quiet_skip | (go_big_quiet_want; first | (refine quiet_load_in _ _ rfl rfl hE.cls Tryz.underlying32 rfl (id_size _ _ _) ?_; simp only [Act.put, List.setIfInBounds_toArray, List.set_cons_succ, List.set_cons_zero]; go_big_quiet_on) | (refine quiet_lookup1 _ _ rfl hi rfl rfl hM5.cls ?_; simp only [Act.put, List.setIfInBounds_toArray, List.set_cons_succ, List.set_cons_zero]; go_big_quiet_on) | (go_big_quiet_op; first | go_big_quiet_on | go_big_quiet_call ((fail)))))
  refine wpQuiet_nil ?_
  rintro w1 ⟨s1, e1⟩
  have hb1 := wOf_below s1
  rw [← e1] at hb1
  clear e1 s1
  replace hB := bgo hB hb1
  clear hb1
  go_wp2
  go_ret
  exact ⟨rfl, hB⟩
/-- The rank ahead of a gap. -/
def rkA (f : Idn → Option Int) (l : List El) (i : Nat) : Int := if i = 0 then -1 else match l[i - 1]? with
  | some e => rkO f e
  | none => -1
/-- The rank behind it. -/
def rkB (f : Idn → Option Int) (l : List El) (i : Nat) : Int := match l[i]? with
  | some e => rkO f e
  | none => 4611686018427387904
theorem rkA_0 (f : Idn → Option Int) (l : List El) : rkA f l 0 = -1 := rfl
theorem rkA_s {f : Idn → Option Int} {l : List El} {i : Nat} {e : El} (h0 : 0 < i) (h : l[i - 1]? = some e) : rkA f l i = rkO f e := by unfold rkA; rw [if_neg (by omega), h]
theorem rkB_s {f : Idn → Option Int} {l : List El} {i : Nat} {e : El} (h : l[i]? = some e) : rkB f l i = rkO f e := by unfold rkB; rw [h]
theorem rkB_e {f : Idn → Option Int} {l : List El} {i : Nat} (h : l.length ≤ i) : rkB f l i = 4611686018427387904 := by unfold rkB; rw [List.getElem?_eq_none h]
theorem lenM_ok {mb tb kb n : Nat} {R : Rows} {l : List El} {f : Idn → Option Int} {w : World} (h : MdAt mb tb kb n R l f w) : Calls Tryz.prog 28 #[pv mb] w fun r w' => r = .returned (.int .i64 (l.length : Int)) ∧ w' = w := by
  have HL := hid_of' (len_L h.tree)
  have c0 : w.cell? ⟨mb, 0, none⟩ = some (.pointer (some ⟨tb, 0, none⟩)) := h.row.cell 0
  unfold pv at HL ⊢
  go_enter Tryz.func28, Tryz.ntmps28
  go_wp2_with (go_at_call 42; refine HL.out.mono ?_; rintro r w1 ⟨rfl, hw⟩; obtain rfl := hw.symm)
  go_ret
  exact ⟨rfl, rfl⟩

set_option maxHeartbeats 2000000 in
theorem ranksBeside_ok {mb tb kb n : Nat} {R : Rows} {l : List El} {f : Idn → Option Int} {w : World} (h : MdAt mb tb kb n R l f w) (i : Nat) (hi : i ≤ l.length) (hg : ∀ (j : Nat) (e : El), l[j]? = some e → e.id.In) (hn : l.length ≤ 1073741824) :
    Calls Tryz.prog 84 #[pv mb, .int .i64 (i : Int)] w fun r w' => r = .returned (.tuple #[.int .i64 (rkA f l i), .int .i64 (rkB f l i)]) ∧ Below w.heap.size w w' := by
  have HA : Hid (∀ x, Below w.heap.size w x → ∀ (j : Nat) (e : El), l[j]? = some e → _) := fun x hx j e he => rankAt_ok (h.later hx) j e he (hg j e he) hn
  have HL : Hid (∀ x, Below w.heap.size w x → _) := fun x hx => lenM_ok (h.later hx)
  clear h
  unfold pv at HA HL ⊢
  by_cases h0 : i = 0
  · subst h0
    rw [rkA_0]
    rw [show ((0 : Nat) : Int) = 0 from rfl]
    by_cases h1 : l.length = 0
    · rw [rkB_e (by omega)]
      have e1 : ((l.length : Nat) : Int) = 0 := by omega
      go_enter Tryz.func84, Tryz.ntmps84
      go_wp2_with (go_at_call 28; refine (HL.out _ (Below.refl _ _)).mono ?_; rintro r w1 ⟨rfl, hw⟩; obtain rfl := hw.symm; rw [e1])
      go_ret2
      exact ⟨rfl, Below.refl _ _⟩
    · obtain ⟨e, he⟩ : ∃ e, l[0]? = some e := ⟨_, List.getElem?_eq_getElem (by omega)⟩
      rw [rkB_s he]
      have e1 : (0 : Int) < (l.length : Int) := by omega
      have e2 : 0 < l.length := by omega
      go_enter Tryz.func84, Tryz.ntmps84
      go_wp2_with (first | (go_at_call 28; refine (HL.out _ (Below.refl _ _)).mono ?_; rintro r w1 ⟨rfl, hw⟩; obtain rfl := hw.symm) | (go_at_call 97; refine (HA.out _ (Below.refl _ _) 0 e he).mono ?_; rintro r w1 ⟨rfl, hb1⟩))
      go_ret2
      exact ⟨rfl, hb1⟩
  · obtain ⟨e, he⟩ : ∃ e, l[i - 1]? = some e := ⟨_, List.getElem?_eq_getElem (by omega)⟩
    rw [rkA_s (by omega) he]
    have e0 : 0 < i := by omega
    have e00 : (0 : Int) < (i : Int) := by omega
    have ei : (i : Int) - 1 = ((i - 1 : Nat) : Int) := by omega
    by_cases h1 : i = l.length
    · rw [rkB_e (by omega)]
      have e1 : ¬ (i : Int) < (l.length : Int) := by omega
      have e2 : ¬ i < l.length := by omega
      clear h1
      go_enter Tryz.func84, Tryz.ntmps84
      go_wp2_with (first | (go_at_call 28; refine (HL.out _ hb1).mono ?_; rintro r w2 ⟨rfl, hw⟩; obtain rfl := hw.symm) | (go_at_call 97; (try rw [ei]); refine (HA.out _ (Below.refl _ _) (i - 1) e he).mono ?_; rintro r w1 ⟨rfl, hb1⟩))
      go_ret2
      exact ⟨rfl, hb1⟩
    · obtain ⟨e', he'⟩ : ∃ e, l[i]? = some e := ⟨_, List.getElem?_eq_getElem (by omega)⟩
      rw [rkB_s he']
      have e1 : (i : Int) < (l.length : Int) := by omega
      have e2 : i < l.length := by omega
      go_enter Tryz.func84, Tryz.ntmps84
      go_upto_region 4 with (go_at_call 97; (try rw [ei]); refine (HA.out _ (Below.refl _ _) (i - 1) e he).mono ?_; rintro r w1 ⟨rfl, hb1⟩)
      go_wp2_with (first | (go_at_call 28; refine (HL.out _ hb1).mono ?_; rintro r w2 ⟨rfl, hw⟩; obtain rfl := hw.symm) | (go_at_call 97; refine (HA.out _ hb1 i e' he').mono ?_; rintro r w2 ⟨rfl, hb2⟩))
      go_ret2
      exact ⟨rfl, bgo hb1 hb2⟩

set_option maxHeartbeats 2000000 in
/-- A rank for a new element, where there is room. -/
theorem rankFor_wide {mb tb kb n : Nat} {R : Rows} {l : List El} {f : Idn → Option Int} {w : World} (h : MdAt mb tb kb n R l f w) (i : Nat) (hi : i ≤ l.length) (hg : ∀ (j : Nat) (e : El), l[j]? = some e → e.id.In) (hn : l.length ≤ 1073741824)
    (hA : -1 ≤ rkA f l i) (hB : rkB f l i ≤ 4611686018427387904) (hw : 2 ≤ rkB f l i - rkA f l i) :
    Calls Tryz.prog 71 #[pv mb, .int .i64 (i : Int)] w fun r w' => r = .returned (.int .i64 (rkA f l i + (rkB f l i - rkA f l i) / 2)) ∧ Below w.heap.size w w' := by
  have HR := hid_of' (ranksBeside_ok h i hi hg hn)
  obtain ⟨a, ha⟩ : ∃ a, rkA f l i = a := ⟨_, rfl⟩
  obtain ⟨b, hb⟩ : ∃ b, rkB f l i = b := ⟨_, rfl⟩
  rw [ha, hb] at HR ⊢
  rw [ha] at hA hw
  rw [hb] at hB hw
  have e1 : wrap64 (b - a) = b - a := wrapIs (by omega) (by omega)
  have e2 : ¬ b - a < 2 := by omega
  have e3 : Hid (wrap64 (a + wrap64 ((b - a).tdiv 2)) = a + (b - a) / 2) := by
    show _ = _
    have q : (b - a).tdiv 2 = (b - a) / 2 := Int.tdiv_eq_ediv_of_nonneg (by omega)
    rw [q, wrapIs (a := (b - a) / 2) (by omega) (by omega), wrapIs (by omega) (by omega)]
  clear ha hb hA hB hw h
  unfold pv at HR ⊢
  go_enter Tryz.func71, Tryz.ntmps71
  go_wp2_with (go_at_call 84; refine HR.out.mono ?_; rintro r w1 ⟨rfl, hb1⟩)
  go_ret
  exact ⟨congrArg (fun x => Ending.returned (Value.int .i64 x)) e3.out, hb1⟩
end Go.Proofs.YtjalehlmldlooaaGreatDoor
namespace Go.Proofs.YtjalehlmldlooaaGreatDoor
open Go.RowKit
set_option maxRecDepth 100000

section
variable {P : Program} {Q : Exit → Act → World → Prop}

/-- What holds while the head comes up. -/
structure HeadC (l : List Oper) (n : Nat) (a : Act) (X : World) (R : Nat → Value → World → Prop) (F : Nat → Bool) (c : Nat) (G : World → World → Prop) (listed : Array Bool) (vals : Nat → Value) (b : Act) (x : World) : Prop where
  grow : G X x
  calm : listed.getD c false = false → Below X.heap.size X x
  size : b.tmps.size = a.tmps.size
  defers : b.defers = a.defers
  slots : ∀ (j : Nat) (oj : Oper) (d : Tmp), l[j]? = some oj → oj.dst = some d → listed.getD j false = true → b.tmps[d]? = some (vals j)
  others : ∀ d : Tmp, (∀ (j : Nat) (oj : Oper), j < n → l[j]? = some oj → oj.dst ≠ some d) → b.tmps[d]? = a.tmps[d]?
  rel : ∀ j, j < n → listed.getD j false = true → R j (vals j) x
  fresh : ∀ j, j < n → F j = true → listed.getD j false = true → ∃ g, vals j = .pointer (some ⟨g, 0, none⟩) ∧ g < x.heap.size
  apart : ∀ i j, i < n → j < n → i ≠ j → F i = true → F j = true → listed.getD i false = true → listed.getD j false = true → vals i ≠ vals j
  down : ∀ (k : Nat) (ok : Oper), l.toArray[k]? = some ok → listed.getD k false = true → ∀ e ∈ ok.after, Region.binds .any e = true → listed.getD e.on false = true

/-- What an operation of the head leaves. -/
def CameC (c : Nat) (Gc : World → World → Prop) (R : Nat → Value → World → Prop) (F : Nat → Bool) (i : Nat) (dst : Option Tmp) (b : Act) (x : World) (b' : Act) (x' : World) : Prop :=
  ∃ v, b' = b.put dst v ∧ (i ≠ c → Below x.heap.size x x') ∧ (i = c → Gc x x') ∧ R i v x' ∧ (F i = true → ∃ g, v = .pointer (some ⟨g, 0, none⟩) ∧ x.heap.size ≤ g ∧ g < x'.heap.size)
theorem cameB {c : Nat} {Gc : World → World → Prop} {R : Nat → Value → World → Prop} {F : Nat → Bool} {i : Nat} {dst : Option Tmp} {b : Act} {x : World} {b' : Act} {x' : World} (v : Value) (h1 : b' = b.put dst v) (h0 : i ≠ c) (h2 : Below x.heap.size x x') (h3 : R i v x') (h4 : F i = true → ∃ g, v = .pointer (some ⟨g, 0, none⟩) ∧ x.heap.size ≤ g ∧ g < x'.heap.size) : CameC c Gc R F i dst b x b' x' := ⟨v, h1, fun _ => h2, fun e => absurd e h0, h3, h4⟩
theorem cameX {c : Nat} {Gc : World → World → Prop} {R : Nat → Value → World → Prop} {F : Nat → Bool} {dst : Option Tmp} {b : Act} {x : World} {b' : Act} {x' : World} (v : Value) (h1 : b' = b.put dst v) (h2 : Gc x x') (h3 : R c v x') (h4 : F c = false) : CameC c Gc R F c dst b x b' x' := ⟨v, h1, fun e => absurd rfl e, fun _ => h2, h3, fun e => by rw [h4] at e; cases e⟩

theorem wp_region_once {id : Nat} {a : Act} {X : World} {l : List Oper} (n : Nat) (hm : P.follows .mixedOrders = true) (gv : Nat → Option Bool) (hok : regOkG l.toArray a.tmps.size gv = true) (ht : tailB l.toArray n = true) (hn : n ≤ l.length)
    (R : Nat → Value → World → Prop) (F : Nat → Bool) (hgv : ∀ j v x b, gv j = some b → R j v x → v = .bool b) (c : Nat) (_hcn : c < n) (G Gc : World → World → Prop) (hGB : ∀ x x', G X x → Below x.heap.size x x' → G X x') (hG0 : ∀ x, Below X.heap.size X x → G X x) (hGc : ∀ x x', Below X.heap.size X x → Gc x x' → G X x') (hGs : ∀ x x', Gc x x' → x.heap.size ≤ x'.heap.size)
    (stable : ∀ i v x x', R i v x → Below x.heap.size x x' → R i v x') (stableC : ∀ i v x x', i ≠ c → R i v x → Gc x x' → R i v x')
    (step : ∀ (i : Nat) (o : Oper), i < n → l[i]? = some o → ∀ (b : Act) (x : World) (vals : Nat → Value), G X x → (i = c → Below X.heap.size X x) →
      (∀ (e : Edge), e ∈ o.after → Region.binds .any e = true → ∀ (oj : Oper) (d : Tmp), l[e.on]? = some oj → oj.dst = some d → b.tmps[d]? = some (vals e.on) ∧ R e.on (vals e.on) x) →
      (∀ d : Tmp, writesB l.toArray d = false → b.tmps[d]? = a.tmps[d]?) →
      o.wp P b x (CameC c Gc R F i o.dst b x) Q)
    (rest : ∀ (vals : Nat → Value) (x : World), G X x → (∀ j, j < n → R j (vals j) x) → (∀ i j, i < n → j < n → i ≠ j → F i = true → F j = true → vals i ≠ vals j) →
      wpList P l.toArray Q (l.drop n) ⟨putAll vals (l.take n) 0 a.tmps, a.defers⟩ x) :
    (Code.region id l.toArray true).wp P Q a X := by
  have hsz : l.toArray.size = l.length := by simp
  refine wp_region_any hm (wpAny_inv (fun listed b x => listed.size = l.length ∧ ((∃ vals, (∀ k, n ≤ k → k < l.length → listed.getD k false = false) ∧ HeadC l n a X R F c G listed vals b x) ∨ (∃ m, n ≤ m ∧ m ≤ l.length ∧ (∀ j, j < m → listed.getD j false = true) ∧ (∀ j, m ≤ j → j < l.length → listed.getD j false = false) ∧ wpList P l.toArray Q (l.drop m) b x))) ?_ ?_ _ _ _ _ (by rw [left_start]; exact Nat.le_refl _) ?_)
  · rintro listed b x i ⟨hs, hI⟩ hi
    obtain ⟨hun, o, ho, hall⟩ := mem_ready.1 hi
    have hol : l[i]? = some o := by simpa using ho
    have hil : i < l.length := (List.getElem?_eq_some_iff.1 hol).1
    have hun' : listed.getD i false = false := by
      have hx : i < listed.size := by omega
      simpa [hx] using hun
    have set_at : ∀ j, (listed.setIfInBounds i true).getD j false = if j = i then true else listed.getD j false := fun j => by
      by_cases e : j = i
      · subst e; rw [if_pos rfl]; have hx : j < listed.size := by omega
        simp [hx]
      · rw [if_neg e, getD_set_ne false (fun h => e h.symm)]
    have go_tail : ∀ m, n ≤ m → m ≤ l.length → (∀ j, j < m → listed.getD j false = true) → (∀ j, m ≤ j → j < l.length → listed.getD j false = false) → n ≤ i → wpList P l.toArray Q (l.drop m) b x →
        wpOp P l.toArray Q i (fun b' x' => (listed.setIfInBounds i true).size = l.length ∧ ((∃ vals, (∀ k, n ≤ k → k < l.length → (listed.setIfInBounds i true).getD k false = false) ∧ HeadC l n a X R F c G (listed.setIfInBounds i true) vals b' x') ∨ (∃ m, n ≤ m ∧ m ≤ l.length ∧ (∀ j, j < m → (listed.setIfInBounds i true).getD j false = true) ∧ (∀ j, m ≤ j → j < l.length → (listed.setIfInBounds i true).getD j false = false) ∧ wpList P l.toArray Q (l.drop m) b' x'))) b x := by
      intro m hnm hml h1 h2 hni h
      have hw := tail_waits ht ho hni hall (fun k' hk' hl j hj => h1 j (by
        rcases Nat.lt_or_ge k' m with e | e
        · omega
        · rcases Nat.lt_or_ge k' l.length with e' | e'
          · rw [h2 k' e e'] at hl; cases hl
          · rw [Array.getD_eq_getD_getElem?, Array.getElem?_eq_none (by omega)] at hl; cases hl)) (fun e _ j hj => h1 j (by omega))
      have him : i = m := by
        rcases Nat.lt_trichotomy i m with e | e | e
        · rw [h1 i e] at hun'; cases hun'
        · exact e
        · have := hw m e
          rw [h2 m (Nat.le_refl _) (by omega)] at this; cases this
      subst him
      refine tail_step rfl hol (fun b' x' h' => ⟨by simpa using hs, .inr ⟨i + 1, by omega, by omega, fun j hj => ?_, fun j hj hjl => ?_, h'⟩⟩) h
      · rw [set_at]
        by_cases e : j = i
        · rw [if_pos e]
        · rw [if_neg e]; exact h1 j (by omega)
      · rw [set_at, if_neg (by omega)]; exact h2 j (by omega) hjl
    rcases hI with ⟨vals, htl, hJ⟩ | ⟨m, hnm, hml, h1, h2, h⟩
    · by_cases hin : i < n
      · have h := step i o hin hol b x vals hJ.grow (fun e => hJ.calm (e ▸ hun')) (fun e he hb oj d h1 h2 => by
          have hl := hall e he hb
          have hlt : e.on < n := Nat.lt_trans ((regOkG_at hok i o ho).2.1 e he hb) hin
          exact ⟨hJ.slots e.on oj d h1 h2 hl, hJ.rel e.on hlt hl⟩) (fun d hd => hJ.others d (fun j oj _ hj he => by
            have : writesB l.toArray d = true := Array.any_eq_true'.2 ⟨oj, by simpa using List.mem_of_getElem? hj, by simp [he]⟩
            rw [this] at hd; cases hd))
        unfold wpOp
        simp only [ho]
        have hw : Region.wanted o (yielded l.toArray b.tmps) = true := by
          rcases (regOkG_at hok i o ho).1 with h0 | ⟨j, v, oj, d, e, h1, h2, h3, h4, h5, h6, h7⟩
          · simp [Region.wanted, h0]
          · have hl := hall e h5 h6
            have hlt : e.on < n := Nat.lt_trans ((regOkG_at hok i o ho).2.1 e h5 h6) hin
            rw [h7] at hl hlt
            have hj' : l[j]? = some oj := by simpa using h2
            have hs := hJ.slots j oj d hj' h3 hl
            have hv := hgv j _ _ v h4 (hJ.rel j hlt hl)
            rw [hv] at hs
            simp [Region.wanted, h1, yielded, hj', h3, hs]
        rw [if_pos hw]
        refine .inl (Oper.wp_mono ?_ h)
        rintro b' x' ⟨v, rfl, hb, hgc, hR, hf⟩
        have hsz2 : x.heap.size ≤ x'.heap.size := by
          by_cases e : i = c
          · exact hGs _ _ (hgc e)
          · exact (hb e).size
        refine ⟨by simpa using hs, .inl ⟨upd vals i v, fun k hk hkl => by rw [set_at, if_neg (by omega)]; exact htl k hk hkl, ?_⟩⟩
        have up_self : upd vals i v i = v := if_pos rfl
        have up_ne : ∀ {j}, j ≠ i → upd vals i v j = vals j := fun h => if_neg h
        have frp : ∀ j, j < n → j ≠ i → F j = true → (listed.setIfInBounds i true).getD j false = true → ∃ g, vals j = .pointer (some ⟨g, 0, none⟩) ∧ g < x.heap.size := fun j hj hji hF hl => by
          rw [set_at, if_neg hji] at hl
          exact hJ.fresh j hj hF hl
        refine ⟨?_, ?_, ?_, ?_, ?_, ?_, ?_, ?_, ?_, ?_⟩
        · by_cases e : i = c
          · exact hGc _ _ (hJ.calm (e ▸ hun')) (hgc e)
          · exact hGB _ _ hJ.grow (hb e)
        · intro hl
          have hic : i ≠ c := fun e => by rw [set_at, if_pos e.symm] at hl; cases hl
          rw [set_at, if_neg (fun e => hic e.symm)] at hl
          exact (hJ.calm hl).trans ((hb hic).mono (hJ.calm hl).size)
        · cases hdst : o.dst with
          | none => exact hJ.size
          | some d => simpa [Act.put] using hJ.size
        · cases hdst : o.dst with
          | none => exact hJ.defers
          | some d => simpa [Act.put] using hJ.defers
        · intro j oj d hj hjd hl
          by_cases hij : j = i
          · subst hij
            obtain rfl := Option.some.inj (hol.symm.trans hj)
            rw [hjd, up_self]
            have hlt := ((regOkG_at hok j o ho).2.2 d hjd).1
            have hlt' : d < b.tmps.size := by rw [hJ.size]; exact hlt
            simp [Act.put, hlt']
          · rw [set_at, if_neg hij] at hl
            have hold := hJ.slots j oj d hj hjd hl
            rw [up_ne hij]
            cases hdst : o.dst with
            | none => simpa [Act.put] using hold
            | some d' =>
              have hne : d' ≠ d := fun e => by
                subst e
                have hoj : l.toArray[j]? = some oj := by simpa using hj
                rcases Nat.lt_trichotomy i j with h | h | h
                · exact ((regOkG_at hok j oj hoj).2.2 d' hjd).2 i o h ho hdst
                · exact hij h.symm
                · exact ((regOkG_at hok i o ho).2.2 d' hdst).2 j oj h hoj hjd
              simp [Act.put, Array.getElem?_setIfInBounds_ne hne, hold]
        · intro d hnd
          have hold := hJ.others d hnd
          cases hdst : o.dst with
          | none => simpa [Act.put] using hold
          | some d' =>
            have hne : d' ≠ d := fun e => hnd i o hin hol (by rw [hdst, e])
            simp [Act.put, Array.getElem?_setIfInBounds_ne hne, hold]
        · intro j hj hl
          by_cases hij : j = i
          · subst hij; rw [up_self]; exact hR
          · rw [set_at, if_neg hij] at hl
            rw [up_ne hij]
            by_cases e : i = c
            · exact stableC j _ _ _ (fun q => hij (q.trans e.symm)) (hJ.rel j hj hl) (hgc e)
            · exact stable j _ _ _ (hJ.rel j hj hl) (hb e)
        · intro j hj hF hl
          by_cases hij : j = i
          · subst hij
            obtain ⟨g, e1, _, e3⟩ := hf hF
            exact ⟨g, by rw [up_self]; exact e1, e3⟩
          · obtain ⟨g, e1, e2⟩ := frp j hj hij hF hl
            exact ⟨g, by rw [up_ne hij]; exact e1, Nat.lt_of_lt_of_le e2 hsz2⟩
        · intro j k hj hk hjk hFj hFk hlj hlk
          by_cases hji : j = i
          · have hki : k ≠ i := fun e => hjk (hji.trans e.symm)
            obtain ⟨g, e1, e2⟩ := frp k hk hki hFk hlk
            obtain ⟨g', e3, e4, _⟩ := hf (hji ▸ hFj)
            rw [hji, up_self, up_ne hki, e1, e3]
            intro e
            cases e
            omega
          · by_cases hki : k = i
            · obtain ⟨g, e1, e2⟩ := frp j hj hji hFj hlj
              obtain ⟨g', e3, e4, _⟩ := hf (hki ▸ hFk)
              rw [hki, up_self, up_ne hji, e1, e3]
              intro e
              cases e
              omega
            · rw [set_at, if_neg hji] at hlj
              rw [set_at, if_neg hki] at hlk
              rw [up_ne hji, up_ne hki]
              exact hJ.apart j k hj hk hjk hFj hFk hlj hlk
        · intro k ok hk hl e he hbd
          rw [set_at] at hl ⊢
          by_cases hei : e.on = i
          · rw [if_pos hei]
          · rw [if_neg hei]
            by_cases hki : k = i
            · subst hki
              obtain rfl := Option.some.inj (ho.symm.trans hk)
              exact hall e he hbd
            · rw [if_neg hki] at hl
              exact hJ.down k ok hk hl e he hbd
      · have hni : n ≤ i := by omega
        have hw := tail_waits ht ho hni hall (fun k' hk' hl j hj => by
          rcases Nat.lt_or_ge k' l.length with e' | e'
          · rw [htl k' hk' e'] at hl; cases hl
          · rw [Array.getD_eq_getD_getElem?, Array.getElem?_eq_none (by omega)] at hl; cases hl) (fun _ hA j hj => anc_listed hJ.down 24 j i o ho hall (hA j hj))
        have hhead : ∀ j, j < n → listed.getD j false = true := fun j hj => hw j (by omega)
        refine go_tail n (Nat.le_refl _) hn hhead (fun j hj hjl => htl j hj hjl) hni ?_
        have hb : b = ⟨putAll vals (l.take n) 0 a.tmps, a.defers⟩ := by
          have : putAll vals (l.take n) 0 a.tmps = b.tmps := putAll_is (l.take n) 0 _ (fun j oj d h1 h2 => by
            have hjn : j < n := by have := (List.getElem?_eq_some_iff.1 h1).1; simp at this; omega
            rw [List.getElem?_take_of_lt hjn] at h1
            rw [Nat.zero_add]; exact hJ.slots j oj d h1 h2 (hhead j hjn)) hJ.size.symm fun d => by
            by_cases e : ∃ (j : Nat) (oj : Oper), j < n ∧ l[j]? = some oj ∧ oj.dst = some d
            · obtain ⟨j, oj, hj, h1, h2⟩ := e
              exact .inr ⟨j, oj, by rw [List.getElem?_take_of_lt hj]; exact h1, h2⟩
            · exact .inl (hJ.others d fun j oj hj h1 h2 => e ⟨j, oj, hj, h1, h2⟩).symm
          rw [this, ← hJ.defers]
        rw [hb]
        exact rest vals x hJ.grow (fun j hj => hJ.rel j hj (hhead j hj)) (fun i j hi hj hij h1 h2 => hJ.apart i j hi hj hij h1 h2 (hhead i hi) (hhead j hj))
    · have hni : n ≤ i := by
        rcases Nat.lt_or_ge i m with e | e
        · rw [h1 i e] at hun'; cases hun'
        · omega
      exact go_tail m hnm hml h1 h2 hni h
  · rintro listed b x ⟨hs, hI⟩ h0
    have hall : ∀ i, i < l.length → listed.getD i false = true := fun i hi => ready_nil hok (by omega) h0 i (by omega)
    rcases hI with ⟨vals, htl, hJ⟩ | ⟨m, hnm, hml, h1, h2, h⟩
    · have hnl : n = l.length := by
        rcases Nat.lt_or_ge n l.length with e | e
        · have := htl n (Nat.le_refl _) e
          rw [hall n e] at this; cases this
        · omega
      have hb : b = ⟨putAll vals (l.take n) 0 a.tmps, a.defers⟩ := by
        have : putAll vals (l.take n) 0 a.tmps = b.tmps := putAll_is (l.take n) 0 _ (fun j oj d h1 h2 => by
          have hjn : j < n := by have := (List.getElem?_eq_some_iff.1 h1).1; simp at this; omega
          rw [List.getElem?_take_of_lt hjn] at h1
          rw [Nat.zero_add]; exact hJ.slots j oj d h1 h2 (hall j (by omega))) hJ.size.symm fun d => by
          by_cases e : ∃ (j : Nat) (oj : Oper), j < n ∧ l[j]? = some oj ∧ oj.dst = some d
          · obtain ⟨j, oj, hj, h1, h2⟩ := e
            exact .inr ⟨j, oj, by rw [List.getElem?_take_of_lt hj]; exact h1, h2⟩
          · exact .inl (hJ.others d fun j oj hj h1 h2 => e ⟨j, oj, hj, h1, h2⟩).symm
        rw [this, ← hJ.defers]
      have hr := rest vals x hJ.grow (fun j hj => hJ.rel j hj (hall j (by omega))) (fun i j hi hj hij h1 h2 => hJ.apart i j hi hj hij h1 h2 (hall i (by omega)) (hall j (by omega)))
      rw [← hb, hnl, List.drop_length] at hr
      exact hr
    · have hml' : m = l.length := by
        rcases Nat.lt_or_ge m l.length with e | e
        · have := h2 m (Nat.le_refl _) e
          rw [hall m e] at this; cases this
        · omega
      rw [hml', List.drop_length] at h
      exact h
  · refine ⟨by simp, .inl ⟨fun _ => undef, fun k _ _ => repl_getD _ _, ⟨hG0 _ (Below.refl _ _).drew, fun _ => (Below.refl _ _).drew, rfl, rfl, fun j oj d _ _ h => absurd ((repl_getD _ _).symm.trans h) (by decide), fun _ _ => rfl, fun j _ h => absurd ((repl_getD _ _).symm.trans h) (by decide), fun j _ _ h => absurd ((repl_getD _ _).symm.trans h) (by decide), fun i j _ _ _ _ _ h _ => absurd ((repl_getD _ _).symm.trans h) (by decide), fun k _ _ h => absurd ((repl_getD _ _).symm.trans h) (by decide)⟩⟩⟩
end
end Go.Proofs.YtjalehlmldlooaaGreatDoor
namespace Go.Proofs.YtjalehlmldlooaaGreatDoor
open Go.RowKit
set_option maxRecDepth 100000

/-- All that was there but two blocks is as it was. -/
structure K2 (x y : Nat) (w w' : World) : Prop where
  os : w'.os = w.os
  tape : w'.tape = w.tape
  output : w'.output = w.output
  size : w.heap.size ≤ w'.heap.size
  block : ∀ k, k < w.heap.size → ¬ k = x → ¬ k = y → w'.heap[k]? = w.heap[k]?
theorem K2.of {x y : Nat} {w w' : World} (h : Below w.heap.size w w') : K2 x y w w' := ⟨h.os, h.tape, h.output, h.size, fun k hk _ _ => h.block k hk⟩
theorem K2.one {x y : Nat} {w w' : World} (h : Kp x w w') : K2 x y w w' := ⟨h.os, h.tape, h.output, h.size, fun k hk h1 _ => h.block k hk h1⟩
theorem K2.two {x y : Nat} {w w' : World} (h : Kp y w w') : K2 x y w w' := ⟨h.os, h.tape, h.output, h.size, fun k hk _ h2 => h.block k hk h2⟩
theorem K2.trans {x y : Nat} {a b c : World} (h : K2 x y a b) (k : K2 x y b c) : K2 x y a c :=
  ⟨k.os.trans h.os, k.tape.trans h.tape, k.output.trans h.output, Nat.le_trans h.size k.size, fun i hi h1 h2 => (k.block i (Nat.lt_of_lt_of_le hi h.size) h1 h2).trans (h.block i hi h1 h2)⟩
theorem K2.below {x y B : Nat} {a w w' : World} (h : Below B a w) (k : K2 x y w w') (hx : B ≤ x) (hy : B ≤ y) (hB : B ≤ w.heap.size) : Below B a w' :=
  ⟨k.os.trans h.os, k.tape.trans h.tape, k.output.trans h.output, Nat.le_trans h.size k.size, fun i hi => (k.block i (by omega) (by omega) (by omega)).trans (h.block i hi)⟩
theorem RowAt.k2 {x y b : Nat} {cs : Array Value} {t : TypeId} {w w' : World} (h : RowAt b cs t w) (k : K2 x y w w') (h1 : ¬ b = x) (h2 : ¬ b = y) : RowAt b cs t w' := (k.block b h.lt h1 h2).trans h
theorem CsIn.k2 {x y b off : Nat} {cs : Array Value} {w w' : World} (h : CsIn b off cs w) (k : K2 x y w w') (h1 : ¬ b = x) (h2 : ¬ b = y) : CsIn b off cs w' :=
  ⟨Nat.lt_of_lt_of_le h.1 k.size, fun j v hv => by rw [World.cell?_of_block (w := w) (a := ⟨b, off + j, none⟩) (k.block b h.1 h1 h2)]; exact h.2 j v hv⟩
theorem MpAt.obj {kb n : Nat} {f : Idn → Option Int} {w : World} (h : MpAt kb n f w) : ∃ o : Obj, w.heap[kb]? = some o ∧ o.isCells = false := by
  obtain ⟨D, ⟨es, cl, h1, _⟩, _⟩ := h
  exact ⟨_, h1, rfl⟩
theorem KC.of_kp {x : Nat} {w w' : World} (k : Kp x w w') (hx : ∃ o : Obj, w.heap[x]? = some o ∧ o.isCells = false) : KC (fun _ => False) w w' :=
  ⟨k.size, fun g o hg hc _ => by
    have h1 := (Array.getElem?_eq_some_iff.1 hg).1
    refine (k.block g h1 (fun e => ?_)).trans hg
    obtain ⟨o', h2, h3⟩ := hx
    rw [← e, hg] at h2
    cases h2
    rw [hc] at h3
    cases h3⟩
theorem TrL.kc {R : Rows} {b ch : Nat} {l : List El} {w w' : World} (h : TrL R b ch l w) (k : KC (fun _ => False) w w') : TrL R b ch l w' := by
  obtain ⟨ls, v, h1, h2, h3⟩ := h
  refine ⟨ls, v, k.2 b _ h1 rfl (fun h => h), ?_, h3⟩
  rcases h2 with h2 | ⟨t, e, h4, h5⟩
  · exact .inl h2
  · exact .inr ⟨t, e, Nd.At.kc (fun _ h => h.elim) k h4, h5⟩
theorem MdAt.ne {mb tb kb n : Nat} {R : Rows} {l : List El} {f : Idn → Option Int} {w : World} (h : MdAt mb tb kb n R l f w) : ¬ mb = tb ∧ ¬ mb = kb ∧ ¬ tb = kb := by
  obtain ⟨o, ho, hc⟩ := h.map.obj
  obtain ⟨ls, v, ht, _⟩ := h.tree
  have hr := h.row
  unfold RowAt at hr ht
  refine ⟨fun e => ?_, fun e => ?_, fun e => ?_⟩
  · rw [e, ht] at hr
    simp only [Option.some.injEq, Obj.cells.injEq] at hr
    exact absurd hr.2.1 (by decide)
  · rw [e, ho] at hr
    cases hr
    cases hc
  · rw [e, ho] at ht
    cases ht
    cases hc
/-- The same IDs have ranks. -/
def Kf (f f' : Idn → Option Int) : Prop := ∀ i, (f' i).isSome = (f i).isSome
/-- What rankFor answers, and what it leaves. -/
def RkOut (kb : Nat) (f : Idn → Option Int) (N : Nat) (x : World) (r : Ending) (x' : World) : Prop := ∃ z f' n', r = .returned (.int .i64 z) ∧ In64 z ∧ n' ≤ N ∧ MpAt kb n' f' x' ∧ Kf f f' ∧ Kp kb x x'
/-- A rank came up. -/
def RkV (kb : Nat) (f : Idn → Option Int) (N : Nat) (v : Value) (x : World) : Prop := ∃ z f' n', v = .int .i64 z ∧ In64 z ∧ n' ≤ N ∧ MpAt kb n' f' x ∧ Kf f f'
/-- What Insert answers, and what it leaves. -/
def InO (mb tb kb : Nat) (R : Rows) (l : List El) (f : Idn → Option Int) (N : Nat) (i : Idn) (w : World) (r : Ending) (w' : World) : Prop := ∃ n' f', r = .returned .nilIface ∧ n' ≤ N + 1 ∧ MdAt mb tb kb n' R l f' w' ∧ (∀ j, (f' j).isSome = ((f j).isSome || decide (j = i))) ∧ K2 tb kb w w'

/-- A list of one element has been laid. -/
def BsV (e : El) (v : Value) (x : World) : Prop := SlE x v [e] ∧ ∃ g : Nat, v = .slice (some ⟨g, 0, none⟩) 1 1
theorem BsV.later {e : El} {v : Value} {x x' : World} (h : BsV e v x) (hb : Below x.heap.size x x') : BsV e v x' := ⟨h.1.later hb, h.2⟩
theorem bsv_new (x : World) (e : El) : BsV e (.slice (some ⟨x.heap.size, 0, none⟩) 1 1) (x.alloc (.cells (ev e) 49)) := ⟨sl_new x [e] 1 1 rfl, _, rfl⟩

set_option maxHeartbeats 4000000 in
theorem insert_md {mb tb kb n : Nat} {R : Rows} {l : List El} {f : Idn → Option Int} {w : World} (h : MdAt mb tb kb n R l f w) (ip : Nat) (e : El) (hi : ip ≤ l.length) (hg : e.Good) (hf : (f e.id).isSome = false) (hn : l.length + 1 ≤ 1073741824) {N : Nat} (hN : N ≤ 1000000000000)
    (HR : ∀ x, Below w.heap.size w x → Calls Tryz.prog 71 #[pv mb, .int .i64 (ip : Int)] x (RkOut kb f N x)) :
    Calls Tryz.prog 51 #[pv mb, .int .i64 (ip : Int), .agg (ev e)] w (InO mb tb kb R (insE l ip e) f N e.id w) := by
  obtain ⟨ne1, ne2, ne3⟩ := h.ne
  have hB0 := below_one w (.cells (ev e) 49)
  have hr0 := row_new w (ev e) 49
  have h0 := h.later hB0
  have HL := hid_of' (lenM_ok h0)
  have HF := hid_of' (flaw_ok h0.row h0.map hg.1 hg.2.1 hg.2.2 hf)
  have e1 : ¬ (ip : Int) < 0 := by omega
  have e2 : ¬ (l.length : Int) < (ip : Int) := by omega
  have e3 : ¬ l.length < ip := by omega
  have hlt := h.row.lt
  have htl : tb < w.heap.size := by obtain ⟨ls, v, ht, _⟩ := h.tree; exact ht.lt
  have hkl := h.map.lt
  have HI := hid_of' hg.1
  clear hg hf
  unfold pv at HL HF HR ⊢
  go_enter Tryz.func51, Tryz.ntmps51
  go_upto_region 6 with (first | (go_at_call 28; refine HL.out.mono ?_; clear HL; rintro r w1 ⟨rfl, hw⟩; obtain rfl := hw.symm) | (refine wpL_loadE rfl _ rfl rfl hr0.in ?_) | (go_at_call 16; refine HF.out.mono ?_; clear HF; rintro r w2 ⟨rfl, hb2⟩))
  have hB2 := bgo hB0 hb2
  have h2 := h0.later hb2
  have hr2 := hr0.later hb2
  clear h0 hr0 hb2 hB0 e1 e2 e3 h
  have hI2 : CsIn w.heap.size 0 (idc e.id.a e.id.b e.id.c) w2 := id_at hr2.in
  have hX0 := hB2.size
  refine wp_region_once 9 (by kernel_rfl) (fun _ => none) (by kernel_rfl) (by kernel_rfl) (by decide) (fun i v x => match i with
    | 0 => v = .pointer (some ⟨mb, 0, none⟩)
    | 1 => v = .pointer (some ⟨mb, 0, none⟩)
    | 2 => v = .pointer (some ⟨mb, 1, none⟩)
    | 3 => v = .map (some kb)
    | 4 => v = .pointer (some ⟨w.heap.size, 0, none⟩)
    | 5 => v = .agg (idc e.id.a e.id.b e.id.c)
    | 6 => v = .pointer (some ⟨mb, 0, none⟩)
    | 7 => v = .int .i64 (ip : Int)
    | 8 => RkV kb f N v x
    | _ => True) (fun _ => false) (fun _ _ _ _ h => by cases h) 8 (by decide) (fun a b => Kp kb a b) (fun a b => Kp kb a b) (fun _ _ h hb => h.trans (Kp.of hb)) (fun _ h => Kp.of h) (fun _ _ h k => (Kp.of h).trans k) (fun _ _ k => k.size) ?_ ?_ ?_ ?_
  · intro i v x x' hR hb
    match i, hR with
    | 0, h => exact h
    | 1, h => exact h
    | 2, h => exact h
    | 3, h => exact h
    | 4, h => exact h
    | 5, h => exact h
    | 6, h => exact h
    | 7, h => exact h
    | 8, h => exact by obtain ⟨z, f9, n9, h1, h2, h3, h4, h5⟩ := h; exact ⟨z, f9, n9, h1, h2, h3, h4.later hb, h5⟩
    | m + 9, h => exact h
  · intro i v x x' hne hR hb
    match i, hne, hR with
    | 0, hne, h => exact h
    | 1, hne, h => exact h
    | 2, hne, h => exact h
    | 3, hne, h => exact h
    | 4, hne, h => exact h
    | 5, hne, h => exact h
    | 6, hne, h => exact h
    | 7, hne, h => exact h
    | 8, hne, h => exact absurd rfl hne
    | m + 9, _, h => exact h
  · intro i o hi ho q x vals hX hC hdep hoth
    have t0 : q.tmps[0]? = some (.pointer (some ⟨mb, 0, none⟩)) := by rw [hoth 0 (by kernel_rfl)]; rfl
    have t1 : q.tmps[1]? = some (.int .i64 (ip : Int)) := by rw [hoth 1 (by kernel_rfl)]; rfl
    have t5 : q.tmps[5]? = some (.pointer (some ⟨w.heap.size, 0, none⟩)) := by rw [hoth 5 (by kernel_rfl)]; rfl
    match i, hi, ho, hC with
    | 0, _, ho, hC =>
      simp only [List.getElem?_cons_zero, Option.some.injEq] at ho
      subst ho
      unfold Oper.wp
      simp [execOp, go_sem, t0]
      exact cameB _ rfl (by decide) (Below.refl _ _) rfl (fun h => absurd h (by decide))
    | 1, _, ho, hC =>
      simp only [List.getElem?_cons_succ, List.getElem?_cons_zero, Option.some.injEq] at ho
      subst ho
      obtain ⟨u0, e0⟩ := hdep ⟨0, .data⟩ (by simp) rfl _ 27 rfl rfl
      rw [show vals 0 = .pointer (some ⟨mb, 0, none⟩) from e0] at u0
      unfold Oper.wp
      simp [execOp, go_sem, u0]
      exact cameB _ rfl (by decide) (Below.refl _ _) rfl (fun h => absurd h (by decide))
    | 2, _, ho, hC =>
      simp only [List.getElem?_cons_succ, List.getElem?_cons_zero, Option.some.injEq] at ho
      subst ho
      obtain ⟨u1, e1⟩ := hdep ⟨1, .data⟩ (by simp) rfl _ 28 rfl rfl
      rw [show vals 1 = .pointer (some ⟨mb, 0, none⟩) from e1] at u1
      unfold Oper.wp
      simp [execOp, go_sem, u1]
      exact cameB _ rfl (by decide) (Below.refl _ _) rfl (fun h => absurd h (by decide))
    | 3, _, ho, hC =>
      simp only [List.getElem?_cons_succ, List.getElem?_cons_zero, Option.some.injEq] at ho
      subst ho
      obtain ⟨u2, e2⟩ := hdep ⟨2, .data⟩ (by simp) rfl _ 29 rfl rfl
      rw [show vals 2 = .pointer (some ⟨mb, 1, none⟩) from e2] at u2
      have cc : x.cell? ⟨mb, 1, none⟩ = some (.map (some kb)) := (h2.row.kp hX ne2).cell 1
      unfold Oper.wp
      simp [execOp, go_sem, u2, cc]
      exact cameB _ rfl (by decide) (Below.refl _ _) rfl (fun h => absurd h (by decide))
    | 4, _, ho, hC =>
      simp only [List.getElem?_cons_succ, List.getElem?_cons_zero, Option.some.injEq] at ho
      subst ho
      unfold Oper.wp
      simp [execOp, go_sem, t5]
      exact cameB _ rfl (by decide) (Below.refl _ _) rfl (fun h => absurd h (by decide))
    | 5, _, ho, hC =>
      simp only [List.getElem?_cons_succ, List.getElem?_cons_zero, Option.some.injEq] at ho
      subst ho
      obtain ⟨u4, e4⟩ := hdep ⟨4, .data⟩ (by simp) rfl _ 31 rfl rfl
      rw [show vals 4 = .pointer (some ⟨w.heap.size, 0, none⟩) from e4] at u4
      exact opw_loadI _ rfl (by simp [Act.eval, u4]) (hI2.kp hX (by omega)) (cameB _ rfl (by decide) (Below.refl _ _) rfl (fun h => absurd h (by decide)))
    | 6, _, ho, hC =>
      simp only [List.getElem?_cons_succ, List.getElem?_cons_zero, Option.some.injEq] at ho
      subst ho
      unfold Oper.wp
      simp [execOp, go_sem, t0]
      exact cameB _ rfl (by decide) (Below.refl _ _) rfl (fun h => absurd h (by decide))
    | 7, _, ho, hC =>
      simp only [List.getElem?_cons_succ, List.getElem?_cons_zero, Option.some.injEq] at ho
      subst ho
      unfold Oper.wp
      simp [execOp, go_sem, t1]
      exact cameB _ rfl (by decide) (Below.refl _ _) rfl (fun h => absurd h (by decide))
    | 8, _, ho, hC =>
      simp only [List.getElem?_cons_succ, List.getElem?_cons_zero, Option.some.injEq] at ho
      subst ho
      obtain ⟨u6, e6⟩ := hdep ⟨6, .data⟩ (by simp) rfl _ 33 rfl rfl
      rw [show vals 6 = .pointer (some ⟨mb, 0, none⟩) from e6] at u6
      obtain ⟨u7, e7⟩ := hdep ⟨7, .data⟩ (by simp) rfl _ 34 rfl rfl
      rw [show vals 7 = .int .i64 (ip : Int) from e7] at u7
      unfold Oper.wp
      simp [go_sem, u6, u7]
      refine (HR x (bgo hB2 (hC rfl))).mono ?_
      rintro r x1 ⟨z, f9, n9, rfl, hz, hn9, hM9, hK9, hb1⟩
      exact cameX _ rfl hb1 ⟨z, f9, n9, rfl, hz, hn9, hM9, hK9⟩ rfl
    | m + 9, hi, _, _ => exact absurd hi (by omega)
  · intro vals x' hX hR _
    obtain ⟨z, f9, n9, r8, hz, hn9, hM9, hK9⟩ : RkV kb f N (vals 8) x' := hR 8 (by decide)
    have r3 : vals 3 = .map (some kb) := hR 3 (by decide)
    have r5 : vals 5 = .agg (idc e.id.a e.id.b e.id.c) := hR 5 (by decide)
    simp only [List.take, List.drop, putAll, r3, r5, r8]
    clear r3 r5 r8 hR
    simp only [List.setIfInBounds_toArray, List.set_cons_succ, List.set_cons_zero]
    refine wpL_mapPut rfl _ _ _ rfl hM9 HI.out rfl rfl rfl hz (by omega) ?_
    intro w9 hM' hgr
    simp only [Act.put]
    have hkp := hX.trans (Kp.of_grown hgr)
    have hT9 := h2.tree.kc (KC.of_kp hkp h2.map.obj)
    have hr9 := hr2.kp hkp (by omega)
    have hm9 := h2.row.kp hkp ne2
    have hno := h2.no
    have hnom := h2.nom
    have hhi : R.hi ≤ w9.heap.size := Nat.le_trans h2.hi hkp.size
    have hs9 := hkp.size
    have hl9 := hM'.lt
    clear hM9 hX hgr h2 hr2 hI2 HI
    go_upto_region 7 with fail
    refine wp_region_tail 7 (by kernel_rfl) (fun _ => none) (by kernel_rfl) (by kernel_rfl) (by decide) (fun i v x => match i with
      | 0 => v = .pointer (some ⟨mb, 0, none⟩)
      | 1 => v = .pointer (some ⟨mb, 0, none⟩)
      | 2 => v = .pointer (some ⟨mb, 0, none⟩)
      | 3 => v = .pointer (some ⟨tb, 0, none⟩)
      | 4 => v = .int .i64 (ip : Int)
      | 5 => v = .agg (ev e)
      | 6 => BsV e v x
      | _ => True) (fun _ => false) (fun _ _ _ _ h => by cases h) ?_ ?_ ?_
    · intro i v x x' hR hb
      match i, hR with
      | 0, h => exact h
      | 1, h => exact h
      | 2, h => exact h
      | 3, h => exact h
      | 4, h => exact h
      | 5, h => exact h
      | 6, h => exact h.later hb
      | m + 7, h => exact h
    · intro i o hi ho q x vals hX hdep hoth
      have t0 : q.tmps[0]? = some (.pointer (some ⟨mb, 0, none⟩)) := by rw [hoth 0 (by kernel_rfl)]; rfl
      have t1 : q.tmps[1]? = some (.int .i64 (ip : Int)) := by rw [hoth 1 (by kernel_rfl)]; rfl
      have t5 : q.tmps[5]? = some (.pointer (some ⟨w.heap.size, 0, none⟩)) := by rw [hoth 5 (by kernel_rfl)]; rfl
      match i, hi, ho with
      | 0, _, ho =>
        simp only [List.getElem?_cons_zero, Option.some.injEq] at ho
        subst ho
        unfold Oper.wp
        simp [execOp, go_sem, t0]
        exact came _ rfl (Below.refl _ _) rfl (fun h => absurd h (by decide))
      | 1, _, ho =>
        simp only [List.getElem?_cons_succ, List.getElem?_cons_zero, Option.some.injEq] at ho
        subst ho
        obtain ⟨u0, e0⟩ := hdep ⟨0, .data⟩ (by simp) rfl _ 36 rfl rfl
        rw [show vals 0 = .pointer (some ⟨mb, 0, none⟩) from e0] at u0
        unfold Oper.wp
        simp [execOp, go_sem, u0]
        exact came _ rfl (Below.refl _ _) rfl (fun h => absurd h (by decide))
      | 2, _, ho =>
        simp only [List.getElem?_cons_succ, List.getElem?_cons_zero, Option.some.injEq] at ho
        subst ho
        obtain ⟨u1, e1⟩ := hdep ⟨1, .data⟩ (by simp) rfl _ 37 rfl rfl
        rw [show vals 1 = .pointer (some ⟨mb, 0, none⟩) from e1] at u1
        unfold Oper.wp
        simp [execOp, go_sem, u1]
        exact came _ rfl (Below.refl _ _) rfl (fun h => absurd h (by decide))
      | 3, _, ho =>
        simp only [List.getElem?_cons_succ, List.getElem?_cons_zero, Option.some.injEq] at ho
        subst ho
        obtain ⟨u2, e2⟩ := hdep ⟨2, .data⟩ (by simp) rfl _ 38 rfl rfl
        rw [show vals 2 = .pointer (some ⟨mb, 0, none⟩) from e2] at u2
        have cc : x.cell? ⟨mb, 0, none⟩ = some (.pointer (some ⟨tb, 0, none⟩)) := (hm9.later hX).cell 0
        unfold Oper.wp
        simp [execOp, go_sem, u2, cc]
        exact came _ rfl (Below.refl _ _) rfl (fun h => absurd h (by decide))
      | 4, _, ho =>
        simp only [List.getElem?_cons_succ, List.getElem?_cons_zero, Option.some.injEq] at ho
        subst ho
        unfold Oper.wp
        simp [execOp, go_sem, t1]
        exact came _ rfl (Below.refl _ _) rfl (fun h => absurd h (by decide))
      | 5, _, ho =>
        simp only [List.getElem?_cons_succ, List.getElem?_cons_zero, Option.some.injEq] at ho
        subst ho
        exact opw_loadE _ rfl (by simp [Act.eval, t5]) (hr9.in.later hX) (came _ rfl (Below.refl _ _) rfl (fun h => absurd h (by decide)))
      | 6, _, ho =>
        simp only [List.getElem?_cons_succ, List.getElem?_cons_zero, Option.some.injEq] at ho
        subst ho
        obtain ⟨u5, e5⟩ := hdep ⟨5, .data⟩ (by simp) rfl _ 41 rfl rfl
        rw [show vals 5 = .agg (ev e) from e5] at u5
        unfold ev at u5
        unfold Oper.wp
        simp [execOp, go_sem, u5]
        exact came _ rfl (below_one _ _) (bsv_new x e) (fun h => absurd h (by decide))
      | m + 7, hi, _ => exact absurd hi (by omega)
    · intro vals x9 hX9 hR9 _
      have q3 : vals 3 = .pointer (some ⟨tb, 0, none⟩) := hR9 3 (by decide)
      have q4 : vals 4 = .int .i64 (ip : Int) := hR9 4 (by decide)
      obtain ⟨q6, g6, q7⟩ : BsV e (vals 6) x9 := hR9 6 (by decide)
      rw [q7] at q6
      have HN := hid_of' (insert_any (hT9.later hX9) ip [e] _ q6 hi (by simpa using hn) hno (by decide) (by decide) (Nat.le_trans hhi hX9.size))
      simp only [List.take, List.drop, putAll, q3, q4, q7]
      clear q3 q4 q6 q7 hR9
      simp only [List.setIfInBounds_toArray, List.set_cons_succ, List.set_cons_zero]
      unfold pv at HN
      go_wp2_with (go_at_call 19; refine HN.out.mono ?_; rintro r w10 ⟨rfl, hT10, hk10⟩)
      go_ret
      have hkB := hM'.later hX9
      refine ⟨n9 + 1, putF f9 e.id z, rfl, by omega, ⟨(hm9.later hX9).kp hk10 ne1, hT10, hkB.kp hk10 (fun q => ne3 q.symm), hno, hnom, Nat.le_trans hhi (Nat.le_trans hX9.size hk10.size)⟩, fun j => ?_, ((K2.of hB2).trans (K2.two hkp)).trans ((K2.of hX9).trans (K2.one hk10))⟩
      unfold putF
      by_cases hj : j = e.id
      · rw [if_pos hj]; simp [hj]
      · rw [if_neg hj, hK9 j]; simp [hj]
end Go.Proofs.YtjalehlmldlooaaGreatDoor
namespace Go.Proofs.YtjalehlmldlooaaGreatDoor
open Go.RowKit
set_option maxRecDepth 100000

theorem wrap64_in (a : Int) : In64 (wrap64 a) := by unfold In64 wrap64; omega
theorem Kf.refl (f : Idn → Option Int) : Kf f f := fun _ => rfl
theorem Kf.trans {f g h : Idn → Option Int} (a : Kf f g) (b : Kf g h) : Kf f h := fun i => (b i).trans (a i)
theorem Kf.put {f g : Idn → Option Int} (a : Kf f g) {i : Idn} {z : Int} (h : (f i).isSome = true) : Kf f (putF g i z) := fun j => by
  unfold putF
  by_cases e : j = i
  · rw [if_pos e, e, h]; rfl
  · rw [if_neg e]; exact a j

theorem wrap_pos {a b : Int} (h1 : a < b) (h2 : b - a ≤ 9223372036854775807) : 0 < IntKind.i64.wrap (b - a) := by rw [IntWalk.i64_left, wrapIs (by omega) (by omega)]; omega
/-- A rank. -/
def EvV (v : Value) : Prop := ∃ z, v = .int .i64 z ∧ In64 z
set_option maxHeartbeats 1000000 in
theorem evenRank_any (low bits k c : Int) (w : World) (h0 : 0 ≤ bits) (h1 : bits ≤ 62) (hc : 0 < c) :
    Calls Tryz.prog 18 #[.int .i64 low, .int .i64 bits, .int .i64 k, .int .i64 c] w fun r w' => (∃ z, r = .returned (.int .i64 z) ∧ In64 z) ∧ w' = w := by
  have hn : c ≠ 0 := by omega
  have hS : Op.shift .shl .i64 1 .i64 bits = pure (.int .i64 (IntKind.i64.wrap (1 * 2 ^ bits.toNat))) := shift_shl_i64 _ _ _ h0 (by omega)
  generalize IntKind.i64.wrap (1 * 2 ^ bits.toNat) = S at hS
  clear h0 h1
  go_enter Tryz.func18, Tryz.ntmps18
  go_wp2
  go_ret
  exact ⟨⟨_, rfl, wrap64_in _⟩, rfl⟩

set_option maxHeartbeats 2000000 in
theorem widened_any {mb tb kb n : Nat} {R : Rows} {l : List El} {f : Idn → Option Int} {w : World} (h : MdAt mb tb kb n R l f w) (a b : Nat) (low high : Int) (hb : b ≤ l.length) (ha : a ≤ l.length) (hg : ∀ (j : Nat) (e : El), l[j]? = some e → e.id.In) (hn : l.length ≤ 1073741824) :
    Calls Tryz.prog 98 #[pv mb, .int .i64 (a : Int), .int .i64 (b : Int), .int .i64 low, .int .i64 high] w fun r w' => (∃ a' b' : Nat, r = .returned (.tuple #[.int .i64 (a' : Int), .int .i64 (b' : Int)]) ∧ a' ≤ a ∧ b ≤ b' ∧ b' ≤ l.length) ∧ Below w.heap.size w w' := by
  have HA : Hid (∀ x, Below w.heap.size w x → ∀ (j : Nat) (e : El), l[j]? = some e → _) := fun x hx j e he => rankAt_ok (h.later hx) j e he (hg j e he) hn
  have HL : Hid (∀ x, Below w.heap.size w x → _) := fun x hx => lenM_ok (h.later hx)
  clear h hg
  unfold pv at HA HL ⊢
  go_enter Tryz.func98, Tryz.ntmps98
  go_wp2
  go_loopw [1] (fun i wr => ∃ k : Nat, i = .int .i64 (k : Int) ∧ k ≤ a ∧ Below w.heap.size w wr) (fun i _ => (intOf i).toNat)
  case atStart => exact ⟨a, rfl, Nat.le_refl _, Below.refl _ _⟩
  case round =>
    obtain ⟨k, rfl, hk, hB⟩ := hrel
    by_cases h0 : k = 0
    · subst h0
      rw [show ((0 : Nat) : Int) = 0 from rfl]
      go_wp2
      go_loopw [2] (fun i wr2 => ∃ k2 : Nat, i = .int .i64 (k2 : Int) ∧ b ≤ k2 ∧ k2 ≤ l.length ∧ Below w.heap.size w wr2) (fun i _ => l.length - (intOf i).toNat)
      case atStart => exact ⟨b, rfl, Nat.le_refl _, hb, hB⟩
      case round =>
        obtain ⟨k2, rfl, hk2, hk3, hB2⟩ := hrel
        by_cases g0 : k2 < l.length
        · obtain ⟨e2, he2⟩ : ∃ e, l[k2]? = some e := ⟨_, List.getElem?_eq_getElem g0⟩
          have g1 : (k2 : Int) < (l.length : Int) := by omega
          by_cases g2 : rkO f e2 < high
          · go_wp2_with (first | (go_at_call 28; refine (HL.out _ hB2).mono ?_; rintro r w5 ⟨rfl, hw⟩; obtain rfl := hw.symm) | (go_at_call 97; refine (HA.out _ hB2 k2 e2 he2).mono ?_; rintro r w6 ⟨rfl, hb6⟩))
            go_roundw
            case rel => exact ⟨k2 + 1, by go_num, by omega, by omega, bgo hB2 hb6⟩
            case measure => simp [intOf]; omega
          · go_wp2_with (first | (go_at_call 28; refine (HL.out _ hB2).mono ?_; rintro r w5 ⟨rfl, hw⟩; obtain rfl := hw.symm) | (go_at_call 97; refine (HA.out _ hB2 k2 e2 he2).mono ?_; rintro r w6 ⟨rfl, hb6⟩))
            go_ret2
            exact ⟨⟨0, k2, rfl, Nat.zero_le _, hk2, hk3⟩, bgo hB2 hb6⟩
        · have g1 : ¬ (k2 : Int) < (l.length : Int) := by omega
          go_wp2_with (go_at_call 28; refine (HL.out _ hB2).mono ?_; rintro r w5 ⟨rfl, hw⟩; obtain rfl := hw.symm)
          go_ret2
          exact ⟨⟨0, k2, rfl, Nat.zero_le _, hk2, hk3⟩, hB2⟩
    · obtain ⟨e, he⟩ : ∃ e, l[k - 1]? = some e := ⟨_, List.getElem?_eq_getElem (by omega)⟩
      have q0 : (0 : Int) < (k : Int) := by omega
      have q1 : 0 < k := by omega
      have ei : (k : Int) - 1 = ((k - 1 : Nat) : Int) := by omega
      by_cases g : low ≤ rkO f e
      · go_wp2_with (go_at_call 97; (try rw [ei]); refine (HA.out _ hB (k - 1) e he).mono ?_; rintro r w1 ⟨rfl, hb1⟩)
        go_roundw
        case rel => exact ⟨k - 1, by first | rfl | (rw [ei]) | go_num, by omega, bgo hB hb1⟩
        case measure => simp [intOf]; omega
      · go_wp2_with (go_at_call 97; (try rw [ei]); refine (HA.out _ hB (k - 1) e he).mono ?_; rintro r w1 ⟨rfl, hb1⟩)
        go_loopw [2] (fun i wr2 => ∃ k2 : Nat, i = .int .i64 (k2 : Int) ∧ b ≤ k2 ∧ k2 ≤ l.length ∧ Below w.heap.size w wr2) (fun i _ => l.length - (intOf i).toNat)
        case atStart => exact ⟨b, rfl, Nat.le_refl _, hb, bgo hB hb1⟩
        case round =>
          obtain ⟨k2, rfl, hk2, hk3, hB2⟩ := hrel
          by_cases g0 : k2 < l.length
          · obtain ⟨e2, he2⟩ : ∃ e, l[k2]? = some e := ⟨_, List.getElem?_eq_getElem g0⟩
            have g1 : (k2 : Int) < (l.length : Int) := by omega
            by_cases g2 : rkO f e2 < high
            · go_wp2_with (first | (go_at_call 28; refine (HL.out _ hB2).mono ?_; rintro r w5 ⟨rfl, hw⟩; obtain rfl := hw.symm) | (go_at_call 97; refine (HA.out _ hB2 k2 e2 he2).mono ?_; rintro r w6 ⟨rfl, hb6⟩))
              go_roundw
              case rel => exact ⟨k2 + 1, by go_num, by omega, by omega, bgo hB2 hb6⟩
              case measure => simp [intOf]; omega
            · go_wp2_with (first | (go_at_call 28; refine (HL.out _ hB2).mono ?_; rintro r w5 ⟨rfl, hw⟩; obtain rfl := hw.symm) | (go_at_call 97; refine (HA.out _ hB2 k2 e2 he2).mono ?_; rintro r w6 ⟨rfl, hb6⟩))
              go_ret2
              exact ⟨⟨k, k2, rfl, hk, hk2, hk3⟩, bgo hB2 hb6⟩
          · have g1 : ¬ (k2 : Int) < (l.length : Int) := by omega
            go_wp2_with (go_at_call 28; refine (HL.out _ hB2).mono ?_; rintro r w5 ⟨rfl, hw⟩; obtain rfl := hw.symm)
            go_ret2
            exact ⟨⟨k, k2, rfl, hk, hk2, hk3⟩, hB2⟩

set_option maxHeartbeats 4000000 in
theorem layOut_any {mb tb kb n : Nat} {R : Rows} {l : List El} {f : Idn → Option Int} {w : World} (h : MdAt mb tb kb n R l f w) (a b : Nat) (low bits : Int) (hab : a ≤ b) (hb : b ≤ l.length) (h0 : 0 ≤ bits) (h1 : bits ≤ 62) (hg : ∀ (j : Nat) (e : El), l[j]? = some e → e.id.In ∧ (f e.id).isSome = true) (hn : l.length ≤ 1073741824) (hnn : n + (b - a) ≤ 1000000000000) :
    Calls Tryz.prog 99 #[pv mb, .int .i64 (a : Int), .int .i64 (b : Int), .int .i64 low, .int .i64 bits] w fun r w' => (∃ v, r = .returned v) ∧ ∃ f' n', n' ≤ n + (b - a) ∧ MpAt kb n' f' w' ∧ Kf f f' ∧ Kp kb w w' := by
  obtain ⟨ne1, ne2, ne3⟩ := h.ne
  have HO := hid_of' h.map.obj
  have hrow := h.row
  have htree := h.tree
  have hmap := h.map
  have hkl := hmap.lt
  clear h
  unfold pv
  go_enter Tryz.func99, Tryz.ntmps99
  go_wp2
  go_loopw [10] (fun i wr => ∃ k : Nat, i = .int .i64 (k : Int) ∧ a ≤ k ∧ k ≤ b ∧ ∃ f' n', n' ≤ n + (k - a) ∧ MpAt kb n' f' wr ∧ Kf f f' ∧ Kp kb w wr) (fun i _ => b - (intOf i).toNat)
  case atStart => exact ⟨a, rfl, Nat.le_refl _, hab, f, n, by omega, hmap, Kf.refl _, Kp.of (Below.refl _ _)⟩
  case round =>
    obtain ⟨k, rfl, hk1, hk2, f9, n9, hn9, hM9, hK9, hkp⟩ := hrel
    by_cases hlt : k < b
    · have hki : (k : Int) < (b : Int) := by omega
      obtain ⟨e, he⟩ : ∃ e, l[k]? = some e := ⟨_, List.getElem?_eq_getElem (by omega)⟩
      have hgi := (hg k e he).1
      have hgf := (hg k e he).2
      have hT := htree.kc (KC.of_kp hkp HO.out)
      have hr := hrow.kp hkp ne2
      have HA := hid_of' (at_L hT k e hn he)
      have c0 : wr.cell? ⟨mb, 0, none⟩ = some (.pointer (some ⟨tb, 0, none⟩)) := hr.cell 0
      have hsz := hkp.size
      unfold pv at HA
      go_upto_region 4 with (first | (go_at_call 72; refine HA.out.mono ?_; rintro r w1 ⟨rfl, hb1⟩) | (refine wpL_storeE rfl _ _ rfl rfl rfl (row_new w1 _ _) ?_))
      have hr5 := (row_new w1 #[.int .i64 0, .int .i64 0, .int .i64 0, .int .i32 0, .int .i64 0] 49).put (ev e)
      have hB : Below wr.heap.size wr ((w1.alloc (.cells #[.int .i64 0, .int .i64 0, .int .i64 0, .int .i32 0, .int .i64 0] 49)).setRow w1.heap.size (ev e)) := bgo hb1 (below_row (below_one w1 _) (Nat.le_refl _) _)
      have hg1 := hb1.size
      generalize (w1.alloc (.cells #[.int .i64 0, .int .i64 0, .int .i64 0, .int .i32 0, .int .i64 0] 49)).setRow w1.heap.size (ev e) = W5 at hr5 hB ⊢
      generalize w1.heap.size = g at hr5 hg1 ⊢
      clear hb1 HA c0 w1
      have hI5 : CsIn g 0 (idc e.id.a e.id.b e.id.c) W5 := id_at hr5.in
      have hM5 := hM9.later hB
      have hm5 := hr.later hB
      have HE := hid_of' (fun (x : World) => evenRank_any low bits (IntKind.i64.wrap ((k : Int) - (a : Int))) (IntKind.i64.wrap ((b : Int) - (a : Int))) x h0 h1 (wrap_pos (by omega) (by omega)))
      refine wp_region_tail 15 (by kernel_rfl) (fun _ => none) (by kernel_rfl) (by kernel_rfl) (by decide) (fun i v x => match i with
        | 0 => v = .pointer (some ⟨mb, 0, none⟩)
        | 1 => v = .pointer (some ⟨mb, 0, none⟩)
        | 2 => v = .pointer (some ⟨mb, 1, none⟩)
        | 3 => v = .map (some kb)
        | 4 => v = .pointer (some ⟨g, 0, none⟩)
        | 5 => v = .agg (idc e.id.a e.id.b e.id.c)
        | 6 => v = .int .i64 low
        | 7 => v = .int .i64 bits
        | 8 => v = .int .i64 (k : Int)
        | 9 => v = .int .i64 (a : Int)
        | 10 => v = .int .i64 (IntKind.i64.wrap ((k : Int) - (a : Int)))
        | 11 => v = .int .i64 (b : Int)
        | 12 => v = .int .i64 (a : Int)
        | 13 => v = .int .i64 (IntKind.i64.wrap ((b : Int) - (a : Int)))
        | 14 => EvV v
        | _ => True) (fun _ => false) (fun _ _ _ _ h => by cases h) ?_ ?_ ?_
      · intro i v x x' hR hb
        match i, hR with
        | 0, h => exact h
        | 1, h => exact h
        | 2, h => exact h
        | 3, h => exact h
        | 4, h => exact h
        | 5, h => exact h
        | 6, h => exact h
        | 7, h => exact h
        | 8, h => exact h
        | 9, h => exact h
        | 10, h => exact h
        | 11, h => exact h
        | 12, h => exact h
        | 13, h => exact h
        | 14, h => exact h
        | m + 15, h => exact h
      · intro i o hi ho q x vals hX hdep hoth
        have t0 : q.tmps[0]? = some (.pointer (some ⟨mb, 0, none⟩)) := by rw [hoth 0 (by kernel_rfl)]; rfl
        have t1 : q.tmps[1]? = some (.int .i64 (a : Int)) := by rw [hoth 1 (by kernel_rfl)]; rfl
        have t2 : q.tmps[2]? = some (.int .i64 (b : Int)) := by rw [hoth 2 (by kernel_rfl)]; rfl
        have t3 : q.tmps[3]? = some (.int .i64 low) := by rw [hoth 3 (by kernel_rfl)]; rfl
        have t4 : q.tmps[4]? = some (.int .i64 bits) := by rw [hoth 4 (by kernel_rfl)]; rfl
        have t10 : q.tmps[10]? = some (.int .i64 (k : Int)) := by rw [hoth 10 (by kernel_rfl)]; rfl
        have t11 : q.tmps[11]? = some (.pointer (some ⟨g, 0, none⟩)) := by rw [hoth 11 (by kernel_rfl)]; rfl
        match i, hi, ho with
        | 0, _, ho =>
          simp only [List.getElem?_cons_zero, Option.some.injEq] at ho
          subst ho
          unfold Oper.wp
          simp [execOp, go_sem, t0]
          exact came _ rfl (Below.refl _ _) rfl (fun h => absurd h (by decide))
        | 1, _, ho =>
          simp only [List.getElem?_cons_succ, List.getElem?_cons_zero, Option.some.injEq] at ho
          subst ho
          obtain ⟨u0, e0⟩ := hdep ⟨0, .data⟩ (by simp) rfl _ 28 rfl rfl
          rw [show vals 0 = .pointer (some ⟨mb, 0, none⟩) from e0] at u0
          unfold Oper.wp
          simp [execOp, go_sem, u0]
          exact came _ rfl (Below.refl _ _) rfl (fun h => absurd h (by decide))
        | 2, _, ho =>
          simp only [List.getElem?_cons_succ, List.getElem?_cons_zero, Option.some.injEq] at ho
          subst ho
          obtain ⟨u1, e1⟩ := hdep ⟨1, .data⟩ (by simp) rfl _ 29 rfl rfl
          rw [show vals 1 = .pointer (some ⟨mb, 0, none⟩) from e1] at u1
          unfold Oper.wp
          simp [execOp, go_sem, u1]
          exact came _ rfl (Below.refl _ _) rfl (fun h => absurd h (by decide))
        | 3, _, ho =>
          simp only [List.getElem?_cons_succ, List.getElem?_cons_zero, Option.some.injEq] at ho
          subst ho
          obtain ⟨u2, e2⟩ := hdep ⟨2, .data⟩ (by simp) rfl _ 30 rfl rfl
          rw [show vals 2 = .pointer (some ⟨mb, 1, none⟩) from e2] at u2
          have cc : x.cell? ⟨mb, 1, none⟩ = some (.map (some kb)) := (hm5.later hX).cell 1
          unfold Oper.wp
          simp [execOp, go_sem, u2, cc]
          exact came _ rfl (Below.refl _ _) rfl (fun h => absurd h (by decide))
        | 4, _, ho =>
          simp only [List.getElem?_cons_succ, List.getElem?_cons_zero, Option.some.injEq] at ho
          subst ho
          unfold Oper.wp
          simp [execOp, go_sem, t11]
          exact came _ rfl (Below.refl _ _) rfl (fun h => absurd h (by decide))
        | 5, _, ho =>
          simp only [List.getElem?_cons_succ, List.getElem?_cons_zero, Option.some.injEq] at ho
          subst ho
          obtain ⟨u4, e4⟩ := hdep ⟨4, .data⟩ (by simp) rfl _ 32 rfl rfl
          rw [show vals 4 = .pointer (some ⟨g, 0, none⟩) from e4] at u4
          exact opw_loadI _ rfl (by simp [Act.eval, u4]) (hI5.later hX) (came _ rfl (Below.refl _ _) rfl (fun h => absurd h (by decide)))
        | 6, _, ho =>
          simp only [List.getElem?_cons_succ, List.getElem?_cons_zero, Option.some.injEq] at ho
          subst ho
          unfold Oper.wp
          simp [execOp, go_sem, t3]
          exact came _ rfl (Below.refl _ _) rfl (fun h => absurd h (by decide))
        | 7, _, ho =>
          simp only [List.getElem?_cons_succ, List.getElem?_cons_zero, Option.some.injEq] at ho
          subst ho
          unfold Oper.wp
          simp [execOp, go_sem, t4]
          exact came _ rfl (Below.refl _ _) rfl (fun h => absurd h (by decide))
        | 8, _, ho =>
          simp only [List.getElem?_cons_succ, List.getElem?_cons_zero, Option.some.injEq] at ho
          subst ho
          unfold Oper.wp
          simp [execOp, go_sem, t10]
          exact came _ rfl (Below.refl _ _) rfl (fun h => absurd h (by decide))
        | 9, _, ho =>
          simp only [List.getElem?_cons_succ, List.getElem?_cons_zero, Option.some.injEq] at ho
          subst ho
          unfold Oper.wp
          simp [execOp, go_sem, t1]
          exact came _ rfl (Below.refl _ _) rfl (fun h => absurd h (by decide))
        | 10, _, ho =>
          simp only [List.getElem?_cons_succ, List.getElem?_cons_zero, Option.some.injEq] at ho
          subst ho
          obtain ⟨u8, e8⟩ := hdep ⟨8, .data⟩ (by simp) rfl _ 36 rfl rfl
          rw [show vals 8 = .int .i64 (k : Int) from e8] at u8
          obtain ⟨u9, e9⟩ := hdep ⟨9, .data⟩ (by simp) rfl _ 37 rfl rfl
          rw [show vals 9 = .int .i64 (a : Int) from e9] at u9
          unfold Oper.wp
          simp [execOp, go_sem, u8, u9]
          exact came _ rfl (Below.refl _ _) rfl (fun h => absurd h (by decide))
        | 11, _, ho =>
          simp only [List.getElem?_cons_succ, List.getElem?_cons_zero, Option.some.injEq] at ho
          subst ho
          unfold Oper.wp
          simp [execOp, go_sem, t2]
          exact came _ rfl (Below.refl _ _) rfl (fun h => absurd h (by decide))
        | 12, _, ho =>
          simp only [List.getElem?_cons_succ, List.getElem?_cons_zero, Option.some.injEq] at ho
          subst ho
          unfold Oper.wp
          simp [execOp, go_sem, t1]
          exact came _ rfl (Below.refl _ _) rfl (fun h => absurd h (by decide))
        | 13, _, ho =>
          simp only [List.getElem?_cons_succ, List.getElem?_cons_zero, Option.some.injEq] at ho
          subst ho
          obtain ⟨u11, e11⟩ := hdep ⟨11, .data⟩ (by simp) rfl _ 39 rfl rfl
          rw [show vals 11 = .int .i64 (b : Int) from e11] at u11
          obtain ⟨u12, e12⟩ := hdep ⟨12, .data⟩ (by simp) rfl _ 40 rfl rfl
          rw [show vals 12 = .int .i64 (a : Int) from e12] at u12
          unfold Oper.wp
          simp [execOp, go_sem, u11, u12]
          exact came _ rfl (Below.refl _ _) rfl (fun h => absurd h (by decide))
        | 14, _, ho =>
          simp only [List.getElem?_cons_succ, List.getElem?_cons_zero, Option.some.injEq] at ho
          subst ho
          obtain ⟨u6, e6⟩ := hdep ⟨6, .data⟩ (by simp) rfl _ 34 rfl rfl
          rw [show vals 6 = .int .i64 low from e6] at u6
          obtain ⟨u7, e7⟩ := hdep ⟨7, .data⟩ (by simp) rfl _ 35 rfl rfl
          rw [show vals 7 = .int .i64 bits from e7] at u7
          obtain ⟨u10, e10⟩ := hdep ⟨10, .data⟩ (by simp) rfl _ 38 rfl rfl
          rw [show vals 10 = .int .i64 (IntKind.i64.wrap ((k : Int) - (a : Int))) from e10] at u10
          obtain ⟨u13, e13⟩ := hdep ⟨13, .data⟩ (by simp) rfl _ 41 rfl rfl
          rw [show vals 13 = .int .i64 (IntKind.i64.wrap ((b : Int) - (a : Int))) from e13] at u13
          unfold Oper.wp
          simp [go_sem, u6, u7, u10, u13]
          refine (HE.out x).mono ?_
          rintro r x1 ⟨⟨z, rfl, hz⟩, hw1⟩; have hb1 : Below x.heap.size x x1 := by rw [hw1]; exact Below.refl _ _
          exact came _ rfl hb1 ⟨z, rfl, hz⟩ (fun h => absurd h (by decide))
        | m + 15, hi, _ => exact absurd hi (by omega)
      · intro vals x' hX hR _
        have r3 : vals 3 = .map (some kb) := hR 3 (by decide)
        have r5 : vals 5 = .agg (idc e.id.a e.id.b e.id.c) := hR 5 (by decide)
        obtain ⟨z, r14, hz⟩ : EvV (vals 14) := hR 14 (by decide)
        have hMx := hM5.later hX
        simp only [List.take, List.drop, putAll, r3, r5, r14]
        clear r3 r5 r14 hR
        simp only [List.setIfInBounds_toArray, List.set_cons_succ, List.set_cons_zero]
        refine wpL_mapPut rfl _ _ _ rfl hMx hgi rfl rfl rfl hz (by omega) ?_
        intro w10 hM' hgr
        simp only [Act.put]
        go_wp2
        go_roundw
        case rel => exact ⟨k + 1, by go_num, by omega, by omega, _, _, by omega, hM', hK9.put hgf, (hkp.trans (Kp.of (bgo hB hX))).trans (Kp.of_grown hgr)⟩
        case measure => simp [intOf]; omega
    · obtain rfl : k = b := by omega
      go_wp2
      go_end0
      exact ⟨⟨_, rfl⟩, f9, n9, hn9, hM9, hK9, hkp⟩

set_option maxHeartbeats 4000000 in
theorem respace_any {mb tb kb n : Nat} {R : Rows} {l : List El} {f : Idn → Option Int} {w : World} (h : MdAt mb tb kb n R l f w) (i : Nat) (hi : i < l.length) (hg : ∀ (j : Nat) (e : El), l[j]? = some e → e.id.In ∧ (f e.id).isSome = true) (hn : l.length ≤ 1073741824) (hnn : n + l.length ≤ 1000000000000) :
    Calls Tryz.prog 85 #[pv mb, .int .i64 (i : Int)] w fun r w' => (∃ v, r = .returned v) ∧ ∃ f' n', n' ≤ n + l.length ∧ MpAt kb n' f' w' ∧ Kf f f' ∧ Kp kb w w' := by
  obtain ⟨e, he⟩ : ∃ e, l[i]? = some e := ⟨_, List.getElem?_eq_getElem hi⟩
  have HA := hid_of' (rankAt_ok h i e he (hg i e he).1 hn)
  have HW : Hid (∀ x, Below w.heap.size w x → ∀ (a b : Nat) (low high : Int), b ≤ l.length → a ≤ l.length → _) := fun x hx a b low high hb ha => widened_any (h.later hx) a b low high hb ha (fun j e he => (hg j e he).1) hn
  have HO : Hid (∀ x, Below w.heap.size w x → ∀ (a b : Nat) (low bits : Int), a ≤ b → b ≤ l.length → 0 ≤ bits → bits ≤ 62 → _) := fun x hx a b low bits h1 h2 h3 h4 => layOut_any (h.later hx) a b low bits h1 h2 h3 h4 hg hn (by omega)
  have HM := hid_of' h.map
  clear h
  unfold pv at HA HW HO ⊢
  generalize rkO f e = rk at HA
  go_enter Tryz.func85, Tryz.ntmps85
  go_wp2_with (go_at_call 97; refine HA.out.mono ?_; rintro r w1 ⟨rfl, hb1⟩)
  go_loopw [5, 6, 7] (fun x y z wr => ∃ a b c : Nat, x = .int .i64 (a : Int) ∧ y = .int .i64 (b : Int) ∧ z = .int .i64 (c : Int) ∧ a ≤ i ∧ i < b ∧ b ≤ l.length ∧ 4 ≤ c ∧ c ≤ 63 ∧ Below w.heap.size w wr) (fun _ _ z _ => 63 - (intOf z).toNat)
  case atStart => exact ⟨i, i + 1, 4, rfl, by go_num, rfl, Nat.le_refl _, by omega, by omega, by omega, by omega, hb1⟩
  case round =>
    obtain ⟨a, b, c, rfl, rfl, rfl, h1, h2, h3, h4, h5, hB⟩ := hrel
    by_cases hc : c ≤ 62
    · have hci : (c : Int) ≤ 62 := by omega
      have hc0 : (0 : Int) ≤ (c : Int) := by omega
      obtain ⟨A1, s1⟩ : ∃ A1, Op.shift .shr .i64 rk .i64 (c : Int) = pure (.int .i64 A1) := ⟨_, shift_shr_i64 _ _ _ hc0 (by omega)⟩
      obtain ⟨A2, s2⟩ : ∃ A2, Op.shift .shl .i64 A1 .i64 (c : Int) = pure (.int .i64 A2) := ⟨_, shift_shl_i64 _ _ _ hc0 (by omega)⟩
      obtain ⟨A3, s3⟩ : ∃ A3, Op.shift .shl .i64 1 .i64 (c : Int) = pure (.int .i64 A3) := ⟨_, shift_shl_i64 _ _ _ hc0 (by omega)⟩
      go_upto_region 7 with (go_at_call 98; refine (HW.out _ hB a b _ _ h3 (by omega)).mono ?_; rintro r w2 ⟨⟨a', b', rfl, k1, k2, k3⟩, hb2⟩)
      obtain ⟨A4, s4⟩ : ∃ A4, Op.shift .shl .i64 1 .i64 ((c : Int) / 2) = pure (.int .i64 A4) := ⟨_, shift_shl_i64 _ _ _ (by omega) (by omega)⟩
      clear s1 s2 s3
      have HB2 := hid_of' (bgo hB hb2)
      go_wp2_with (go_at_call 99; refine (HO.out _ HB2.out a' b' _ _ (by omega) k3 hc0 hci).mono ?_; rintro r w3 ⟨⟨v, rfl⟩, f9, n9, q1, q2, q3, q4⟩)
      · exact bodyPost_ret (results_none rfl _ _ _) rfl ⟨⟨_, rfl⟩, f9, n9, by omega, q2, q3, (Kp.of HB2.out).trans q4⟩
      · exact ⟨⟨a', b', c + 1, rfl, rfl, by go_num, by omega, by omega, k3, by omega, by omega, HB2.out⟩, by simp [intOf]; omega⟩
    · obtain rfl : c = 63 := by omega
      go_wp2
      go_end0
      exact ⟨⟨_, rfl⟩, f, n, by omega, HM.out.later hB, Kf.refl _, Kp.of hB⟩

end Go.Proofs.YtjalehlmldlooaaGreatDoor
namespace Go.Proofs.YtjalehlmldlooaaGreatDoor
open Go.RowKit
set_option maxRecDepth 100000

/-- The map has turned, and nothing else of the model. -/
theorem MdAt.re {mb tb kb n n' : Nat} {R : Rows} {l : List El} {f f' : Idn → Option Int} {w w' : World} (h : MdAt mb tb kb n R l f w) (k : Kp kb w w') (hM : MpAt kb n' f' w') : MdAt mb tb kb n' R l f' w' :=
  ⟨h.row.kp k h.ne.2.1, h.tree.kc (KC.of_kp k h.map.obj), hM, h.no, h.nom, Nat.le_trans h.hi k.size⟩
set_option maxHeartbeats 400000 in
theorem rankFor_any {mb tb kb n : Nat} {R : Rows} {l : List El} {f : Idn → Option Int} {w : World} (h : MdAt mb tb kb n R l f w) (ip : Nat) (hi : ip ≤ l.length) (hg : ∀ (j : Nat) (e : El), l[j]? = some e → e.id.In ∧ (f e.id).isSome = true) (hn : l.length ≤ 1073741824) (hnn : n + l.length ≤ 1000000000000) :
    Calls Tryz.prog 71 #[pv mb, .int .i64 (ip : Int)] w (RkOut kb f (n + l.length) w) := by
  have HR := hid_of' (ranksBeside_ok h ip hi (fun j e he => (hg j e he).1) hn)
  have HM := hid_of' h.map
  by_cases h0 : l.length = 0
  · have e1 : rkA f l ip = -1 := by rw [show ip = 0 by omega]; rfl
    have e2 : rkB f l ip = 4611686018427387904 := rkB_e (by omega)
    rw [e1, e2] at HR
    unfold pv at HR ⊢
    clear h hg
    go_enter Tryz.func71, Tryz.ntmps71
    go_wp2_with (go_at_call 84; refine HR.out.mono ?_; rintro r w1 ⟨rfl, hb1⟩)
    go_ret
    exact ⟨_, f, n, rfl, by unfold In64; omega, by omega, HM.out.later hb1, Kf.refl _, Kp.of hb1⟩
  · generalize rkA f l ip = x at HR
    generalize rkB f l ip = y at HR
    by_cases hd : wrap64 (y - x) < 2
    · have HS : Hid (∀ x, Below w.heap.size w x → ∀ j : Nat, j < l.length → _) := fun x hx j hj => respace_any (h.later hx) j hj hg hn hnn
      have HR2 : Hid (∀ x f' n', Kp kb w x → MpAt kb n' f' x → _) := fun x f' n' hk hM => ranksBeside_ok (MdAt.re h hk hM) ip hi (fun j e he => (hg j e he).1) hn
      unfold pv at HR HS HR2 ⊢
      clear h hg
      have hmx : Hid (max ((ip : Int) - 1) 0 = ((ip - 1 : Nat) : Int)) := by show _ = _; omega
      go_enter Tryz.func71, Tryz.ntmps71
      go_wp2_with (first | (go_at_call 84; refine HR.out.mono ?_; clear HR; rintro r w1 ⟨rfl, hb1⟩) | (go_at_call 85; rw [hmx.out]; with_reducible refine (HS.out _ hb1 (ip - 1) (by omega)).mono ?_; rintro r w2 ⟨⟨v, rfl⟩, f9, n9, q1, q2, q3, q4⟩; have q5 := (Kp.of hb1).trans q4) | (go_at_call 84; refine (HR2.out _ _ _ q5 q2).mono ?_; rintro r w3 ⟨rfl, hb3⟩))
      go_ret
      exact ⟨_, f9, n9, rfl, wrap64_in _, q1, q2.later hb3, q3, q5.trans (Kp.of hb3)⟩
    · unfold pv at HR ⊢
      clear h hg
      go_enter Tryz.func71, Tryz.ntmps71
      go_wp2_with (go_at_call 84; refine HR.out.mono ?_; rintro r w1 ⟨rfl, hb1⟩)
      go_ret
      exact ⟨_, f, n, rfl, wrap64_in _, by omega, HM.out.later hb1, Kf.refl _, Kp.of hb1⟩
end Go.Proofs.YtjalehlmldlooaaGreatDoor
namespace Go.Proofs.YtjalehlmldlooaaGreatDoor
open Go.RowKit
set_option maxRecDepth 100000

theorem set_is {l : List El} {i : Nat} (e : El) (h : i < l.length) : l.take i ++ ([e] ++ l.drop (i + 1)) = l.set i e := by
  rw [List.set_eq_take_append_cons_drop, if_pos h]
  rfl
set_option maxHeartbeats 4000000 in
theorem set_ok {R : Rows} {b ch : Nat} {lr : List El} {w : World} (h : TrL R b ch lr w) (ip : Nat) (e : El) (hip : ip < lr.length) (hn : lr.length + 1 ≤ 1073741824) (hno : R.no b) (_c2 : ch ≤ 64) :
    Calls Tryz.prog 73 #[pv b, .int .i64 (ip : Int), .agg (ev e)] w (InsOut R b ch (lr.set ip e) w) := by
  have HL := hid_of' (fun x hx => len_L (h.later (w' := x) hx))
  rcases h.at with ⟨h1, h2⟩ | ⟨t, h1, h2, h3, h4, hok⟩
  · subst h1; simp at hip
  subst h4
  have hfit := Nd.fits_one hip
  have HE := hid_of' (Nd.rp_els [e] hfit)
  obtain ⟨A, m, B, j', g, o_, cc', v1, v2, v3, v4⟩ := Nd.rp_lv t ip 1 [e] hfit
  have HK : Hid (LOk ch (t.rp ip 1 [e])) := by
    show LOk _ _
    rw [v2]
    rw [v1] at hok
    have hm : m.length ≤ ch := (LOk.app.1 hok).2.1.1
    refine hok.rp ?_ ?_
    · simp only [List.length_append, List.length_take, List.length_drop, List.length_singleton]; omega
    · simp only [List.length_append, List.length_take, List.length_drop, List.length_singleton]; omega
  have hB0 := below_one w (.cells (ev e) 49)
  have hr0 := row_new w (ev e) 49
  have hb0 := h1.lt
  have HP := hid_of' (fun (x : World) (hx : Below w.heap.size w x) (g : Nat) (hs : SlE x (.slice (some ⟨g, 0, none⟩) 1 1) [e]) => replaced_any t ip 1 [e] (some ⟨g, 0, none⟩) 1 x (h2.later hx) h3 (by simp) hfit (by simpa using hn) hs)
  have e1 : ¬ (ip : Int) < 0 := by omega
  have e2 : ¬ (t.els.length : Int) ≤ (ip : Int) := by omega
  have e3 : ¬ t.els.length ≤ ip := by omega
  have HIX := hid_of' hip
  have hL1 := hid_of' (HL.out _ hB0)
  rw [show ((1 : Nat) : Int) = 1 from rfl] at HP
  clear HL h v1 v2 v3 v4 hfit hok hip
  unfold pv at h1 hL1 ⊢
  go_enter Tryz.func73, Tryz.ntmps73
  go_upto_region 3 with (go_at_call 42; refine hL1.out.mono ?_; clear hL1; rintro r w1 ⟨rfl, hw⟩; obtain rfl := hw.symm)
  have hr1 := h1.later hB0
  generalize w.alloc (.cells (ev e) 49) = W at hB0 hr0 hr1 ⊢
  refine wp_region_tail 11 (by kernel_rfl) (fun _ => none) (by kernel_rfl) (by kernel_rfl) (by decide) (fun i v x => match i with
    | 0 => v = .pointer (some ⟨b, 0, none⟩)
    | 1 => v = .pointer (some ⟨b, 0, none⟩)
    | 2 => v = .pointer (some ⟨b, 0, none⟩)
    | 3 => v = .pointer (some ⟨b, 1, none⟩)
    | 4 => v = .pointer (some ⟨t.blk, 0, none⟩)
    | 5 => v = .int .i64 (ip : Int)
    | 6 => v = .agg (ev e)
    | 7 => BsV e v x
    | 8 => LTree R (t.rp ip 1 [e]) v x
    | 9 => v = .pointer (some ⟨b, 0, none⟩)
    | 10 => v = .pointer (some ⟨b, 1, none⟩)
    | _ => True) (fun _ => false) (fun _ _ _ _ h => by cases h) ?_ ?_ ?_
  · intro i v x x' hR hb
    match i, hR with
    | 0, h => exact h
    | 1, h => exact h
    | 2, h => exact h
    | 3, h => exact h
    | 4, h => exact h
    | 5, h => exact h
    | 6, h => exact h
    | 7, h => exact h.later hb
    | 8, h => exact h.later hb
    | 9, h => exact h
    | 10, h => exact h
    | m + 11, h => exact h
  · intro i o hi ho q x vals hX hdep hoth
    have t0 : q.tmps[0]? = some (.pointer (some ⟨b, 0, none⟩)) := by rw [hoth 0 (by kernel_rfl)]; rfl
    have t1 : q.tmps[1]? = some (.int .i64 (ip : Int)) := by rw [hoth 1 (by kernel_rfl)]; rfl
    have t5 : q.tmps[5]? = some (.pointer (some ⟨w.heap.size, 0, none⟩)) := by rw [hoth 5 (by kernel_rfl)]; rfl
    match i, hi, ho with
    | 0, _, ho =>
      simp only [List.getElem?_cons_zero, Option.some.injEq] at ho
      subst ho
      unfold Oper.wp
      simp [execOp, go_sem, t0]
      exact came _ rfl (Below.refl _ _) rfl (fun h => absurd h (by decide))
    | 1, _, ho =>
      simp only [List.getElem?_cons_succ, List.getElem?_cons_zero, Option.some.injEq] at ho
      subst ho
      unfold Oper.wp
      simp [execOp, go_sem, t0]
      exact came _ rfl (Below.refl _ _) rfl (fun h => absurd h (by decide))
    | 2, _, ho =>
      simp only [List.getElem?_cons_succ, List.getElem?_cons_zero, Option.some.injEq] at ho
      subst ho
      obtain ⟨u1, e1⟩ := hdep ⟨1, .data⟩ (by simp) rfl _ 18 rfl rfl
      rw [show vals 1 = .pointer (some ⟨b, 0, none⟩) from e1] at u1
      unfold Oper.wp
      simp [execOp, go_sem, u1]
      exact came _ rfl (Below.refl _ _) rfl (fun h => absurd h (by decide))
    | 3, _, ho =>
      simp only [List.getElem?_cons_succ, List.getElem?_cons_zero, Option.some.injEq] at ho
      subst ho
      obtain ⟨u2, e2⟩ := hdep ⟨2, .data⟩ (by simp) rfl _ 19 rfl rfl
      rw [show vals 2 = .pointer (some ⟨b, 0, none⟩) from e2] at u2
      unfold Oper.wp
      simp [execOp, go_sem, u2]
      exact came _ rfl (Below.refl _ _) rfl (fun h => absurd h (by decide))
    | 4, _, ho =>
      simp only [List.getElem?_cons_succ, List.getElem?_cons_zero, Option.some.injEq] at ho
      subst ho
      obtain ⟨u3, e3⟩ := hdep ⟨3, .data⟩ (by simp) rfl _ 20 rfl rfl
      rw [show vals 3 = .pointer (some ⟨b, 1, none⟩) from e3] at u3
      have cc : x.cell? ⟨b, 1, none⟩ = some (.pointer (some ⟨t.blk, 0, none⟩)) := (hr1.later hX).cell 1
      unfold Oper.wp
      simp [execOp, go_sem, u3, cc]
      exact came _ rfl (Below.refl _ _) rfl (fun h => absurd h (by decide))
    | 5, _, ho =>
      simp only [List.getElem?_cons_succ, List.getElem?_cons_zero, Option.some.injEq] at ho
      subst ho
      unfold Oper.wp
      simp [execOp, go_sem, t1]
      exact came _ rfl (Below.refl _ _) rfl (fun h => absurd h (by decide))
    | 6, _, ho =>
      simp only [List.getElem?_cons_succ, List.getElem?_cons_zero, Option.some.injEq] at ho
      subst ho
      exact opw_loadE _ rfl (by simp [Act.eval, t5]) (hr0.in.later hX) (came _ rfl (Below.refl _ _) rfl (fun h => absurd h (by decide)))
    | 7, _, ho =>
      simp only [List.getElem?_cons_succ, List.getElem?_cons_zero, Option.some.injEq] at ho
      subst ho
      obtain ⟨u6, e6⟩ := hdep ⟨6, .data⟩ (by simp) rfl _ 23 rfl rfl
      rw [show vals 6 = .agg (ev e) from e6] at u6
      unfold ev at u6
      unfold Oper.wp
      simp [execOp, go_sem, u6]
      exact came _ rfl (below_one _ _) (bsv_new x e) (fun h => absurd h (by decide))
    | 8, _, ho =>
      simp only [List.getElem?_cons_succ, List.getElem?_cons_zero, Option.some.injEq] at ho
      subst ho
      obtain ⟨u4, e4⟩ := hdep ⟨4, .data⟩ (by simp) rfl _ 21 rfl rfl
      rw [show vals 4 = .pointer (some ⟨t.blk, 0, none⟩) from e4] at u4
      obtain ⟨u5, e5⟩ := hdep ⟨5, .data⟩ (by simp) rfl _ 22 rfl rfl
      rw [show vals 5 = .int .i64 (ip : Int) from e5] at u5
      obtain ⟨u7, e7⟩ := hdep ⟨7, .data⟩ (by simp) rfl _ 24 rfl rfl
      obtain ⟨q6, g6, q7⟩ : BsV e (vals 7) x := e7
      rw [q7] at q6
      rw [show vals (Edge.on ⟨7, .data⟩) = _ from q7] at u7
      unfold Oper.wp
      simp [go_sem, u4, u5, u7]
      refine (HP.out x (bgo hB0 hX) g6 q6).mono ?_
      rintro r x1 ⟨v, rfl, hl9, hb1⟩
      exact came _ rfl hb1 hl9 (fun h => absurd h (by decide))
    | 9, _, ho =>
      simp only [List.getElem?_cons_succ, List.getElem?_cons_zero, Option.some.injEq] at ho
      subst ho
      obtain ⟨u0, e0⟩ := hdep ⟨0, .data⟩ (by simp) rfl _ 17 rfl rfl
      rw [show vals 0 = .pointer (some ⟨b, 0, none⟩) from e0] at u0
      unfold Oper.wp
      simp [execOp, go_sem, u0]
      exact came _ rfl (Below.refl _ _) rfl (fun h => absurd h (by decide))
    | 10, _, ho =>
      simp only [List.getElem?_cons_succ, List.getElem?_cons_zero, Option.some.injEq] at ho
      subst ho
      obtain ⟨u9, e9⟩ := hdep ⟨9, .data⟩ (by simp) rfl _ 26 rfl rfl
      rw [show vals 9 = .pointer (some ⟨b, 0, none⟩) from e9] at u9
      unfold Oper.wp
      simp [execOp, go_sem, u9]
      exact came _ rfl (Below.refl _ _) rfl (fun h => absurd h (by decide))
    | m + 11, hi, _ => exact absurd hi (by omega)
  · intro vals x9 hX9 hR9 _
    have q10 : vals 10 = .pointer (some ⟨b, 1, none⟩) := hR9 10 (by decide)
    obtain ⟨tn, q8, p2, p3, p4⟩ : LTree R (t.rp ip 1 [e]) (vals 8) x9 := hR9 8 (by decide)
    simp only [List.take, List.drop, putAll, q8, q10]
    clear q8 q10 hR9
    simp only [List.setIfInBounds_toArray, List.set_cons_succ, List.set_cons_zero]
    have d1 := (hr1.later hX9).cell 1
    have df : x9.frozen? ⟨b, 1, none⟩ = false := Lib.frozen_of_heap (hr1.later hX9) 1
    go_wp2
    go_ret
    have q := TrL.of_put hno (hr1.later hX9) p2 p3 (by rw [p4]; exact HK.out)
    rw [Nd.els_flat, p4, HE.out, set_is e HIX.out] at q
    exact ⟨rfl, q, (Kp.of (bgo hB0 hX9)).trans (Kp.cell b 1 _)⟩
end Go.Proofs.YtjalehlmldlooaaGreatDoor
namespace Go.Proofs.YtjalehlmldlooaaGreatDoor
open Go.RowKit
set_option maxRecDepth 100000

theorem add_is {l : List El} {i : Nat} {e : El} {d : Int} (h : l[i]? = some e) : addE l i d = l.set i (e.add d) := by
  refine List.ext_getElem? fun j => ?_
  have hi := (List.getElem?_eq_some_iff.1 h).1
  rw [addE_at, List.getElem?_set]
  by_cases q : j = i
  · subst q
    rw [if_pos rfl, if_pos rfl, if_pos hi, h]
    rfl
  · rw [if_neg q, if_neg (fun e => q e.symm)]
set_option maxHeartbeats 4000000 in
theorem add_up {mb tb kb n : Nat} {R : Rows} {l : List El} {f : Idn → Option Int} {w : World} (h : MdAt mb tb kb n R l f w) (ip : Nat) (e0 : El) (he : l[ip]? = some e0) (h1 : -1000000000000 ≤ e0.hd) (h2 : e0.hd ≤ 1000000000000) (hn : l.length + 1 ≤ 1073741824) :
    Calls Tryz.prog 52 #[pv mb, .int .i64 (ip : Int), .int .i64 (1)] w fun r w' => r = .returned .nilIface ∧ MdAt mb tb kb n R (addE l ip (1)) f w' ∧ Kp tb w w' := by
  obtain ⟨ne1, ne2, ne3⟩ := h.ne
  have hfr : fairH (e0.hd + 1) = true := by unfold fairH; simp; omega
  have HA := hid_of' (at_L h.tree ip e0 (by omega) he)
  have HV := hid_of' (fun x => rightHides_any (e0.hd + 1) x)
  rw [hfr] at HV
  have HE := hid_of' (add_is (d := 1) he)
  have hip := (List.getElem?_eq_some_iff.1 he).1
  have c0 : w.cell? ⟨mb, 0, none⟩ = some (.pointer (some ⟨tb, 0, none⟩)) := h.row.cell 0
  clear he hfr
  unfold pv at HA ⊢
  go_enter Tryz.func52, Tryz.ntmps52
  go_upto_region 2 with (first | (go_at_call 72; refine HA.out.mono ?_; rintro r w1 ⟨rfl, hb1⟩) | (refine wpL_storeE rfl _ _ rfl rfl rfl (row_new w1 _ _) ?_))
  have hr5 := (row_new w1 #[.int .i64 0, .int .i64 0, .int .i64 0, .int .i32 0, .int .i64 0] 49).put (ev e0)
  have hB : Below w.heap.size w ((w1.alloc (.cells #[.int .i64 0, .int .i64 0, .int .i64 0, .int .i32 0, .int .i64 0] 49)).setRow w1.heap.size (ev e0)) := bgo hb1 (below_row (below_one w1 _) (Nat.le_refl _) _)
  have hg1 := hb1.size
  generalize (w1.alloc (.cells #[.int .i64 0, .int .i64 0, .int .i64 0, .int .i32 0, .int .i64 0] 49)).setRow w1.heap.size (ev e0) = W5 at hr5 hB ⊢
  generalize w1.heap.size = g at hr5 hg1 ⊢
  clear hb1 HA c0 w1
  have c4 : W5.cell? ⟨g, 4, none⟩ = some (.int .i64 e0.hd) := hr5.cell 4
  have f4 : W5.frozen? ⟨g, 4, none⟩ = false := Lib.frozen_of_heap hr5 4
  go_upto_region 7 with (go_at_call 40; refine (HV.out _).mono ?_; rintro r w2 ⟨rfl, hw⟩; obtain rfl := hw.symm)
  have hr6 : RowAt g (ev (e0.add (1))) 49 (W5.setCell ⟨g, 4, none⟩ (.int .i64 (e0.hd + 1))) := heap_setCell_at hr5 4 _
  have hB6 : Below w.heap.size w (W5.setCell ⟨g, 4, none⟩ (.int .i64 (e0.hd + 1))) := hB.setCell (p := ⟨g, 4, none⟩) hg1 _
  have h6 := h.later hB6
  generalize W5.setCell ⟨g, 4, none⟩ (.int .i64 (e0.hd + 1)) = W6 at hr6 hB6 h6 ⊢
  clear hr5 hB c4 f4 h
  refine wp_region_tail 6 (by kernel_rfl) (fun _ => none) (by kernel_rfl) (by kernel_rfl) (by decide) (fun i v x => match i with
    | 0 => v = .pointer (some ⟨mb, 0, none⟩)
    | 1 => v = .pointer (some ⟨mb, 0, none⟩)
    | 2 => v = .pointer (some ⟨mb, 0, none⟩)
    | 3 => v = .pointer (some ⟨tb, 0, none⟩)
    | 4 => v = .int .i64 (ip : Int)
    | 5 => v = .agg (ev (e0.add (1)))
    | _ => True) (fun _ => false) (fun _ _ _ _ h => by cases h) ?_ ?_ ?_
  · intro i v x x' hR hb
    match i, hR with
    | 0, h => exact h
    | 1, h => exact h
    | 2, h => exact h
    | 3, h => exact h
    | 4, h => exact h
    | 5, h => exact h
    | m + 6, h => exact h
  · intro i o hi ho q x vals hX hdep hoth
    have t0 : q.tmps[0]? = some (.pointer (some ⟨mb, 0, none⟩)) := by rw [hoth 0 (by kernel_rfl)]; rfl
    have t1 : q.tmps[1]? = some (.int .i64 (ip : Int)) := by rw [hoth 1 (by kernel_rfl)]; rfl
    have t7 : q.tmps[7]? = some (.pointer (some ⟨g, 0, none⟩)) := by rw [hoth 7 (by kernel_rfl)]; rfl
    match i, hi, ho with
    | 0, _, ho =>
      simp only [List.getElem?_cons_zero, Option.some.injEq] at ho
      subst ho
      unfold Oper.wp
      simp [execOp, go_sem, t0]
      exact came _ rfl (Below.refl _ _) rfl (fun h => absurd h (by decide))
    | 1, _, ho =>
      simp only [List.getElem?_cons_succ, List.getElem?_cons_zero, Option.some.injEq] at ho
      subst ho
      obtain ⟨u0, e0⟩ := hdep ⟨0, .data⟩ (by simp) rfl _ 45 rfl rfl
      rw [show vals 0 = .pointer (some ⟨mb, 0, none⟩) from e0] at u0
      unfold Oper.wp
      simp [execOp, go_sem, u0]
      exact came _ rfl (Below.refl _ _) rfl (fun h => absurd h (by decide))
    | 2, _, ho =>
      simp only [List.getElem?_cons_succ, List.getElem?_cons_zero, Option.some.injEq] at ho
      subst ho
      obtain ⟨u1, e1⟩ := hdep ⟨1, .data⟩ (by simp) rfl _ 46 rfl rfl
      rw [show vals 1 = .pointer (some ⟨mb, 0, none⟩) from e1] at u1
      unfold Oper.wp
      simp [execOp, go_sem, u1]
      exact came _ rfl (Below.refl _ _) rfl (fun h => absurd h (by decide))
    | 3, _, ho =>
      simp only [List.getElem?_cons_succ, List.getElem?_cons_zero, Option.some.injEq] at ho
      subst ho
      obtain ⟨u2, e2⟩ := hdep ⟨2, .data⟩ (by simp) rfl _ 47 rfl rfl
      rw [show vals 2 = .pointer (some ⟨mb, 0, none⟩) from e2] at u2
      have cc : x.cell? ⟨mb, 0, none⟩ = some (.pointer (some ⟨tb, 0, none⟩)) := (h6.row.later hX).cell 0
      unfold Oper.wp
      simp [execOp, go_sem, u2, cc]
      exact came _ rfl (Below.refl _ _) rfl (fun h => absurd h (by decide))
    | 4, _, ho =>
      simp only [List.getElem?_cons_succ, List.getElem?_cons_zero, Option.some.injEq] at ho
      subst ho
      unfold Oper.wp
      simp [execOp, go_sem, t1]
      exact came _ rfl (Below.refl _ _) rfl (fun h => absurd h (by decide))
    | 5, _, ho =>
      simp only [List.getElem?_cons_succ, List.getElem?_cons_zero, Option.some.injEq] at ho
      subst ho
      exact opw_loadE _ rfl (by simp [Act.eval, t7]) (hr6.in.later hX) (came _ rfl (Below.refl _ _) rfl (fun h => absurd h (by decide)))
    | m + 6, hi, _ => exact absurd hi (by omega)
  · intro vals x9 hX9 hR9 _
    have q3 : vals 3 = .pointer (some ⟨tb, 0, none⟩) := hR9 3 (by decide)
    have q4 : vals 4 = .int .i64 (ip : Int) := hR9 4 (by decide)
    have q5 : vals 5 = .agg (ev (e0.add (1))) := hR9 5 (by decide)
    have h9 := h6.later hX9
    have HN := hid_of' (set_ok h9.tree ip (e0.add (1)) hip hn h9.no (by decide))
    simp only [List.take, List.drop, putAll, q3, q4, q5]
    clear q3 q4 q5 hR9
    simp only [List.setIfInBounds_toArray, List.set_cons_succ, List.set_cons_zero]
    unfold pv at HN
    go_wp2_with (go_at_call 73; refine HN.out.mono ?_; rintro r w10 ⟨rfl, hT10, hk10⟩)
    go_ret
    rw [← HE.out] at hT10
    exact ⟨rfl, ⟨h9.row.kp hk10 ne1, hT10, h9.map.kp hk10 (fun q => ne3 q.symm), h9.no, h9.nom, Nat.le_trans h9.hi hk10.size⟩, (Kp.of (bgo hB6 hX9)).trans hk10⟩
set_option maxHeartbeats 4000000 in
theorem add_down {mb tb kb n : Nat} {R : Rows} {l : List El} {f : Idn → Option Int} {w : World} (h : MdAt mb tb kb n R l f w) (ip : Nat) (e0 : El) (he : l[ip]? = some e0) (h1 : -1000000000000 ≤ e0.hd) (h2 : e0.hd ≤ 1000000000000) (hn : l.length + 1 ≤ 1073741824) :
    Calls Tryz.prog 52 #[pv mb, .int .i64 (ip : Int), .int .i64 (-1)] w fun r w' => r = .returned .nilIface ∧ MdAt mb tb kb n R (addE l ip (-1)) f w' ∧ Kp tb w w' := by
  obtain ⟨ne1, ne2, ne3⟩ := h.ne
  have hfr : fairH (e0.hd + -1) = true := by unfold fairH; simp; omega
  have HA := hid_of' (at_L h.tree ip e0 (by omega) he)
  have HV := hid_of' (fun x => rightHides_any (e0.hd + -1) x)
  rw [hfr] at HV
  have HE := hid_of' (add_is (d := -1) he)
  have hip := (List.getElem?_eq_some_iff.1 he).1
  have c0 : w.cell? ⟨mb, 0, none⟩ = some (.pointer (some ⟨tb, 0, none⟩)) := h.row.cell 0
  clear he hfr
  unfold pv at HA ⊢
  go_enter Tryz.func52, Tryz.ntmps52
  go_upto_region 2 with (first | (go_at_call 72; refine HA.out.mono ?_; rintro r w1 ⟨rfl, hb1⟩) | (refine wpL_storeE rfl _ _ rfl rfl rfl (row_new w1 _ _) ?_))
  have hr5 := (row_new w1 #[.int .i64 0, .int .i64 0, .int .i64 0, .int .i32 0, .int .i64 0] 49).put (ev e0)
  have hB : Below w.heap.size w ((w1.alloc (.cells #[.int .i64 0, .int .i64 0, .int .i64 0, .int .i32 0, .int .i64 0] 49)).setRow w1.heap.size (ev e0)) := bgo hb1 (below_row (below_one w1 _) (Nat.le_refl _) _)
  have hg1 := hb1.size
  generalize (w1.alloc (.cells #[.int .i64 0, .int .i64 0, .int .i64 0, .int .i32 0, .int .i64 0] 49)).setRow w1.heap.size (ev e0) = W5 at hr5 hB ⊢
  generalize w1.heap.size = g at hr5 hg1 ⊢
  clear hb1 HA c0 w1
  have c4 : W5.cell? ⟨g, 4, none⟩ = some (.int .i64 e0.hd) := hr5.cell 4
  have f4 : W5.frozen? ⟨g, 4, none⟩ = false := Lib.frozen_of_heap hr5 4
  go_upto_region 7 with (go_at_call 40; refine (HV.out _).mono ?_; rintro r w2 ⟨rfl, hw⟩; obtain rfl := hw.symm)
  have hr6 : RowAt g (ev (e0.add (-1))) 49 (W5.setCell ⟨g, 4, none⟩ (.int .i64 (e0.hd + -1))) := heap_setCell_at hr5 4 _
  have hB6 : Below w.heap.size w (W5.setCell ⟨g, 4, none⟩ (.int .i64 (e0.hd + -1))) := hB.setCell (p := ⟨g, 4, none⟩) hg1 _
  have h6 := h.later hB6
  generalize W5.setCell ⟨g, 4, none⟩ (.int .i64 (e0.hd + -1)) = W6 at hr6 hB6 h6 ⊢
  clear hr5 hB c4 f4 h
  refine wp_region_tail 6 (by kernel_rfl) (fun _ => none) (by kernel_rfl) (by kernel_rfl) (by decide) (fun i v x => match i with
    | 0 => v = .pointer (some ⟨mb, 0, none⟩)
    | 1 => v = .pointer (some ⟨mb, 0, none⟩)
    | 2 => v = .pointer (some ⟨mb, 0, none⟩)
    | 3 => v = .pointer (some ⟨tb, 0, none⟩)
    | 4 => v = .int .i64 (ip : Int)
    | 5 => v = .agg (ev (e0.add (-1)))
    | _ => True) (fun _ => false) (fun _ _ _ _ h => by cases h) ?_ ?_ ?_
  · intro i v x x' hR hb
    match i, hR with
    | 0, h => exact h
    | 1, h => exact h
    | 2, h => exact h
    | 3, h => exact h
    | 4, h => exact h
    | 5, h => exact h
    | m + 6, h => exact h
  · intro i o hi ho q x vals hX hdep hoth
    have t0 : q.tmps[0]? = some (.pointer (some ⟨mb, 0, none⟩)) := by rw [hoth 0 (by kernel_rfl)]; rfl
    have t1 : q.tmps[1]? = some (.int .i64 (ip : Int)) := by rw [hoth 1 (by kernel_rfl)]; rfl
    have t7 : q.tmps[7]? = some (.pointer (some ⟨g, 0, none⟩)) := by rw [hoth 7 (by kernel_rfl)]; rfl
    match i, hi, ho with
    | 0, _, ho =>
      simp only [List.getElem?_cons_zero, Option.some.injEq] at ho
      subst ho
      unfold Oper.wp
      simp [execOp, go_sem, t0]
      exact came _ rfl (Below.refl _ _) rfl (fun h => absurd h (by decide))
    | 1, _, ho =>
      simp only [List.getElem?_cons_succ, List.getElem?_cons_zero, Option.some.injEq] at ho
      subst ho
      obtain ⟨u0, e0⟩ := hdep ⟨0, .data⟩ (by simp) rfl _ 45 rfl rfl
      rw [show vals 0 = .pointer (some ⟨mb, 0, none⟩) from e0] at u0
      unfold Oper.wp
      simp [execOp, go_sem, u0]
      exact came _ rfl (Below.refl _ _) rfl (fun h => absurd h (by decide))
    | 2, _, ho =>
      simp only [List.getElem?_cons_succ, List.getElem?_cons_zero, Option.some.injEq] at ho
      subst ho
      obtain ⟨u1, e1⟩ := hdep ⟨1, .data⟩ (by simp) rfl _ 46 rfl rfl
      rw [show vals 1 = .pointer (some ⟨mb, 0, none⟩) from e1] at u1
      unfold Oper.wp
      simp [execOp, go_sem, u1]
      exact came _ rfl (Below.refl _ _) rfl (fun h => absurd h (by decide))
    | 3, _, ho =>
      simp only [List.getElem?_cons_succ, List.getElem?_cons_zero, Option.some.injEq] at ho
      subst ho
      obtain ⟨u2, e2⟩ := hdep ⟨2, .data⟩ (by simp) rfl _ 47 rfl rfl
      rw [show vals 2 = .pointer (some ⟨mb, 0, none⟩) from e2] at u2
      have cc : x.cell? ⟨mb, 0, none⟩ = some (.pointer (some ⟨tb, 0, none⟩)) := (h6.row.later hX).cell 0
      unfold Oper.wp
      simp [execOp, go_sem, u2, cc]
      exact came _ rfl (Below.refl _ _) rfl (fun h => absurd h (by decide))
    | 4, _, ho =>
      simp only [List.getElem?_cons_succ, List.getElem?_cons_zero, Option.some.injEq] at ho
      subst ho
      unfold Oper.wp
      simp [execOp, go_sem, t1]
      exact came _ rfl (Below.refl _ _) rfl (fun h => absurd h (by decide))
    | 5, _, ho =>
      simp only [List.getElem?_cons_succ, List.getElem?_cons_zero, Option.some.injEq] at ho
      subst ho
      exact opw_loadE _ rfl (by simp [Act.eval, t7]) (hr6.in.later hX) (came _ rfl (Below.refl _ _) rfl (fun h => absurd h (by decide)))
    | m + 6, hi, _ => exact absurd hi (by omega)
  · intro vals x9 hX9 hR9 _
    have q3 : vals 3 = .pointer (some ⟨tb, 0, none⟩) := hR9 3 (by decide)
    have q4 : vals 4 = .int .i64 (ip : Int) := hR9 4 (by decide)
    have q5 : vals 5 = .agg (ev (e0.add (-1))) := hR9 5 (by decide)
    have h9 := h6.later hX9
    have HN := hid_of' (set_ok h9.tree ip (e0.add (-1)) hip hn h9.no (by decide))
    simp only [List.take, List.drop, putAll, q3, q4, q5]
    clear q3 q4 q5 hR9
    simp only [List.setIfInBounds_toArray, List.set_cons_succ, List.set_cons_zero]
    unfold pv at HN
    go_wp2_with (go_at_call 73; refine HN.out.mono ?_; rintro r w10 ⟨rfl, hT10, hk10⟩)
    go_ret
    rw [← HE.out] at hT10
    exact ⟨rfl, ⟨h9.row.kp hk10 ne1, hT10, h9.map.kp hk10 (fun q => ne3 q.symm), h9.no, h9.nom, Nat.le_trans h9.hi hk10.size⟩, (Kp.of (bgo hB6 hX9)).trans hk10⟩
end Go.Proofs.YtjalehlmldlooaaGreatDoor
