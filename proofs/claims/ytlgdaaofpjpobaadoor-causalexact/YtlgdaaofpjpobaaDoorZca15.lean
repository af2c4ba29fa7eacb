
/-
  Package causal: names of acts as keys; an Inbox in memory; isNamed, has, nameOf, New, Len.
-/
import Derived.Test.YtlgdaaofpjpobaaDoorZca14
namespace Go.Proofs.YtlgdaaofpjpobaaDoor
open Go.RowKit Go.Maps
set_option maxRecDepth 100000

/-- A name's cells. -/
def nmc (r n : Int) : Array Value := #[.int .i64 r, .int .i64 n]
theorem laidOutP : laidOutB Tryd.prog = true := by kernel_rfl
theorem rowNm : (92 : TypeId) < Tryd.prog.types.size := of_decide_eq_true (by kernel_rfl)
theorem wideNm : (match Tryd.prog.underlying 92 with | some (.array _ _) | some (.struct _) => true | _ => false) = true := by kernel_rfl
theorem lawNm : Keyed Tryd.prog 92 := Keyed.of_law (deep_law_laid laidOutP (m := 2) (by omega) rowNm (by kernel_rfl) wideNm)
/-- What a name reads as. -/
def nml (r n : Int) : Lit := .string (keyBytes [.int .i64 r, .int .i64 n])
theorem wf64 {a : Int} (h : fitsI a) : (Lit.int .i64 a).wf = true := WalkArith.wf_i64 h
theorem keyLits2 {P : Program} {k e : TypeId} {fs : Array Field} (hu : P.underlying k = some (.struct fs)) (hf : fs.toList.map (fun f => (f.type, f.offset)) = [(e, 0), (e, 1)]) (hn : fs.all (·.name != "_") = true) (hi : P.underlying e = some (.int .i64)) (hq : P.cellsOf e = 1) (hz : P.cellsOf k = 2) (m : Nat) {a b : Int} (ha : fitsI a) (hb : fitsI b) :
    P.keyLits (m + 2) k [.int .i64 a, .int .i64 b] = some [.int .i64 a, .int .i64 b] := by
  have h1 : ∀ x : Int, fitsI x → P.keyLits (m + 1) e [.int .i64 x] = some [.int .i64 x] := fun x hx => by
    unfold Program.keyLits
    simp [hi, wf64 hx]
  have h2 : fs.toList.mapM (fun f => P.keyLits (m + 1) f.type ((([.int .i64 a, .int .i64 b] : List Value).drop f.offset).take (P.cellsOf f.type))) = (fs.toList.map (fun f => (f.type, f.offset))).mapM (fun p : TypeId × Nat => P.keyLits (m + 1) p.1 ((([.int .i64 a, .int .i64 b] : List Value).drop p.2).take (P.cellsOf p.1))) := by
    rw [List.mapM_map]
    rfl
  unfold Program.keyLits
  simp only [hu]
  rw [if_pos ⟨by simp [hz], hn⟩, h2, hf]
  simp [hq, h1 a ha, h1 b hb]
theorem key_nm {a b : Int} (ha : fitsI a) (hb : fitsI b) : keyOf Tryd.prog 92 (.agg (nmc a b)) = some (nml a b) := by
  have k1 : Tryd.prog.keyType 92 = true := by kernel_rfl
  have k2 : (Value.agg (nmc a b)).formed Tryd.prog 92 = true := by kernel_rfl
  have hs : Tryd.prog.types.size + 1 = (179 - 1) + 2 := by kernel_rfl
  have k3 := keyLits2 Tryd.underlying92 (by kernel_rfl) (by kernel_rfl) Tryd.underlying3 (by kernel_rfl) (by kernel_rfl) (179 - 1) ha hb
  rw [← hs] at k3
  unfold keyOf
  rw [Tryd.underlying92]
  simp only [k1, k2, Bool.and_self, if_true]
  rw [show (Value.agg (nmc a b)).cells.toList = [.int .i64 a, .int .i64 b] from rfl, k3]
  rfl
theorem nm_inj {a b c d : Int} (ha : fitsI a) (hb : fitsI b) (hc : fitsI c) (hd : fitsI d) (h : nml a b = nml c d) : a = c ∧ b = d := by
  have e := lawNm.inj (key_nm ha hb) (h ▸ key_nm hc hd)
  simpa [nmc] using e
/-- The names of acts, as a set in memory. -/
def MpS (kb n : Nat) (f : Int → Int → Bool) (w : World) : Prop := ∃ D : DataW Unit, w.ownsMap Tryd.prog 92 unitElem kb n D ∧ ∀ a b : Int, fitsI a → fitsI b → Maps.has D (nml a b) = f a b
theorem MpS.new (w : World) : MpS w.heap.size 0 (fun _ _ => false) (w.alloc (.map #[] 0)) :=
  ⟨.map [], World.ownsMap_made _ _ _ _, fun _ _ _ _ => rfl⟩
theorem MpS.lt {kb n : Nat} {f : Int → Int → Bool} {w : World} (h : MpS kb n f w) : kb < w.heap.size := by
  obtain ⟨D, h, _⟩ := h
  exact h.lt
theorem MpS.block {kb n : Nat} {f : Int → Int → Bool} {w w' : World} (h : MpS kb n f w) (hb : w'.heap[kb]? = w.heap[kb]?) : MpS kb n f w' := by
  obtain ⟨D, ⟨es, cl, h1, h2⟩, h3⟩ := h
  exact ⟨D, ⟨es, cl, hb.trans h1, h2⟩, h3⟩
theorem MpS.later {kb n : Nat} {f : Int → Int → Bool} {w w' : World} (h : MpS kb n f w) (hb : Below w.heap.size w w') : MpS kb n f w' := h.block (hb.block _ h.lt)
theorem MpS.ch {kb n : Nat} {f : Int → Int → Bool} {S : Nat → Prop} {w w' : World} (h : MpS kb n f w) (c : Ch S w w') (hn : ¬ S kb) : MpS kb n f w' := h.block (c.block _ h.lt hn)
theorem MpS.mono {kb n n' : Nat} {f : Int → Int → Bool} {w : World} (h : MpS kb n f w) (hn : n ≤ n') : MpS kb n' f w := by
  obtain ⟨D, h, h3⟩ := h
  exact ⟨D, h.mono hn, h3⟩
theorem MpS.eq {kb n : Nat} {f g : Int → Int → Bool} {w : World} (h : MpS kb n f w) (e : ∀ a b, fitsI a → fitsI b → f a b = g a b) : MpS kb n g w := by
  obtain ⟨D, h, h3⟩ := h
  exact ⟨D, h, fun a b ha hb => (h3 a b ha hb).trans (e a b ha hb)⟩
/-- A map's block is no block of cells. -/
theorem MpS.ne {kb n : Nat} {f : Int → Int → Bool} {w : World} (h : MpS kb n f w) {b : Nat} {cs : Array Value} {t : TypeId} {p : Nat × Nat} (hb : w.heap[b]? = some (.cells cs t p)) : ¬ kb = b := by
  obtain ⟨D, ⟨es, cl, h1, _⟩, _⟩ := h
  intro e
  subst e
  rw [h1] at hb
  cases hb
theorem zeroU (w : World) : (zeroValue 90).run Tryd.prog w = .ok (.agg #[]) w := by kernel_rfl
theorem MpS.look {kb n : Nat} {f : Int → Int → Bool} {w : World} (h : MpS kb n f w) {a b : Int} (ha : fitsI a) (hb : fitsI b) : (Instr.lookup 53 (.map (some kb)) (.agg (nmc a b)) true).run Tryd.prog w = .ok (.tuple #[.agg #[], .bool (f a b)]) w := by
  obtain ⟨D, h, hD⟩ := h
  obtain ⟨v, ps, hrun, hv⟩ := h.look_ok lawNm Tryd.underlying53 (zeroU w) unitElem_mk (key_nm ha hb)
  obtain ⟨rfl, _⟩ := unitElem_inv hv
  rw [hrun, hD a b ha hb]
/-- A name is laid in. -/
def putS (f : Int → Int → Bool) (r k : Int) : Int → Int → Bool := fun a b => (decide (a = r) && decide (b = k)) || f a b
def delS (f : Int → Int → Bool) (r k : Int) : Int → Int → Bool := fun a b => !(decide (a = r) && decide (b = k)) && f a b
theorem MpS.put {kb n : Nat} {f : Int → Int → Bool} {w : World} (h : MpS kb n f w) {r k : Int} (hr : fitsI r) (hk : fitsI k) (hn : n < 1099511627776) :
    ∃ w', (Instr.mapUpdate 53 (.map (some kb)) (.agg (nmc r k)) (.agg #[])).run Tryd.prog w = .ok () w' ∧ MpS kb (n + 1) (putS f r k) w' ∧ w.grownBy w' (some kb) := by
  obtain ⟨D, h, hD⟩ := h
  obtain ⟨w', hrun, r1, r2⟩ := h.update lawNm Tryd.underlying53 (by unfold maxLen; omega) (key_nm hr hk) unitElem_mk
  refine ⟨w', hrun, ⟨_, r1, fun a b ha hb => ?_⟩, r2⟩
  unfold putS
  by_cases e : a = r ∧ b = k
  · obtain ⟨rfl, rfl⟩ := e
    rw [has_put_same h.isMap (lawNm.key (key_nm ha hb)) _]
    simp
  · rw [has_put_other (fun he => e (nm_inj ha hb hr hk he)), hD a b ha hb, Bool.and_eq_decide]
    simp [e]
theorem MpS.del {kb n : Nat} {f : Int → Int → Bool} {w : World} (h : MpS kb n f w) {r k : Int} (hr : fitsI r) (hk : fitsI k) (ty : TypeId) :
    ∃ w', (Builtin.delete_ #[53, 92] ty #[.map (some kb), .agg (nmc r k)]).run Tryd.prog w = .ok (.tuple #[]) w' ∧ MpS kb n (delS f r k) w' ∧ w.grownBy w' (some kb) := by
  obtain ⟨D, h, hD⟩ := h
  obtain ⟨w', hrun, r1, r2⟩ := h.drop lawNm Tryd.underlying53 (key_nm hr hk) ty
  refine ⟨w', hrun, ⟨_, r1, fun a b ha hb => ?_⟩, r2.grown⟩
  unfold delS
  by_cases e : a = r ∧ b = k
  · obtain ⟨rfl, rfl⟩ := e
    rw [has_del_same]
    simp
  · rw [has_del_other (fun he => e (nm_inj ha hb hr hk he)), hD a b ha hb]
    have : (decide (a = r) && decide (b = k)) = false := by
      rw [← Bool.not_eq_true, Bool.and_eq_true, decide_eq_true_eq, decide_eq_true_eq]; exact e
    rw [this]; rfl

/-- What names the held acts have. -/
def namesOf (l : List Ac) : Int → Int → Bool := fun r k => l.any fun x => decide (x.rep = r) && decide (x.num = k)
/-- An Act whose replica is an int, too. -/
def Ac.Full (x : Ac) : Prop := x.Fit ∧ fitsI x.rep
/-- Is there an act of that name? -/
def Ac.named (x : Ac) : Bool := decide (0 ≤ x.rep ∧ x.rep < 8) && decide (1 ≤ x.num)
/-- Two acts are one. -/
def Ac.one (x y : Ac) : Prop := x.rep = y.rep ∧ x.num = y.num
/-- An Inbox in memory. -/
structure IbAt (B : Nat) (v : Value) (kb n : Nat) (m : Int) (l : List Ac) (w : World) : Prop where
  lies : RowAt B #[.int .i64 m, v, .map (some kb)] 55 w
  row : OwnA v l w
  map : MpS kb n (namesOf l) w
  full : ∀ x ∈ l, fitsI x.rep
  apart : l.Pairwise fun x y => ¬ x.one y
  room : (l.length : Int) ≤ m
  most : m ≤ 256
theorem IbAt.neB {B : Nat} {v : Value} {kb n : Nat} {m : Int} {l : List Ac} {w : World} (h : IbAt B v kb n m l w) : ¬ kb = B := h.map.ne h.lies
theorem IbAt.neV {B : Nat} {v : Value} {kb n : Nat} {m : Int} {l : List Ac} {w : World} (h : IbAt B v kb n m l w) : ∀ k, v.ownBlock = some k → ¬ kb = k ∧ ¬ B = k := fun k hk => by
  rcases h.row.1.2 with ⟨hv, _⟩ | ⟨g, cap, cur, hv, hg, _⟩
  · rw [hv] at hk; cases hk
  · rw [hv] at hk; cases hk
    refine ⟨h.map.ne hg, fun e => ?_⟩
    subst e
    have := h.lies
    unfold RowAt at this
    rw [hg] at this
    simp at this
theorem IbAt.ch {B : Nat} {v : Value} {kb n : Nat} {m : Int} {l : List Ac} {S : Nat → Prop} {w w' : World} (h : IbAt B v kb n m l w) (c : Ch S w w') (h1 : ¬ S B) (h2 : ¬ S kb) (h3 : ∀ k, v.ownBlock = some k → ¬ S k) : IbAt B v kb n m l w' :=
  ⟨h.lies.ch c h1, h.row.ch c h3, h.map.ch c h2, h.full, h.apart, h.room, h.most⟩
theorem IbAt.later {B : Nat} {v : Value} {kb n : Nat} {m : Int} {l : List Ac} {w w' : World} (h : IbAt B v kb n m l w) (hb : Below w.heap.size w w') : IbAt B v kb n m l w' :=
  ⟨h.lies.later hb, h.row.later hb, h.map.later hb, h.full, h.apart, h.room, h.most⟩
theorem IbAt.mono {B : Nat} {v : Value} {kb n n' : Nat} {m : Int} {l : List Ac} {w : World} (h : IbAt B v kb n m l w) (hn : n ≤ n') : IbAt B v kb n' m l w := ⟨h.lies, h.row, h.map.mono hn, h.full, h.apart, h.room, h.most⟩
/-- The blocks of an Inbox. -/
def ibS (B : Nat) (v : Value) (kb : Nat) (k : Nat) : Prop := k = B ∨ k = kb ∨ v.ownBlock = some k

theorem box1 (w : World) (x : Ac) : RowAt w.heap.size (acv x) 48 (w.alloc (.cells (acv x) 48)) := heap_alloc_last w _
set_option maxHeartbeats 400000 in
theorem isNamed_is (x : Ac) (w : World) : Calls Tryd.prog 33 #[.agg (acv x)] w fun e w' => e = .returned (.bool x.named) ∧ Below w.heap.size w w' := by
  have r1 := acv_rep x
  have r2 := acv_num x
  by_cases h0 : 0 ≤ x.rep
  · by_cases h8 : x.rep < 8
    · by_cases hn : 1 ≤ x.num
      · have HV : Hid (x.named = true) := by simp [Hid, Ac.named, h0, h8, hn]
        go_enter Tryd.func33, Tryd.ntmps33
        go_wp2
        go_ret
        exact ⟨by rw [HV.out]; rfl, below_one _ _⟩
      · have HV : Hid (x.named = false) := by simp [Hid, Ac.named, hn]
        have hn' : decide (1 ≤ x.num) = false := by simpa using hn
        go_enter Tryd.func33, Tryd.ntmps33
        go_wp2
        go_ret
        exact ⟨by rw [HV.out]; rfl, below_one _ _⟩
    · have HV : Hid (x.named = false) := by simp [Hid, Ac.named, h8]
      have h8' : decide (x.rep < 8) = false := by simpa using h8
      go_enter Tryd.func33, Tryd.ntmps33
      go_wp2
      go_ret
      exact ⟨by rw [HV.out]; rfl, below_one _ _⟩
  · have HV : Hid (x.named = false) := by simp [Hid, Ac.named, h0]
    have h0' : decide (0 ≤ x.rep) = false := by simpa using h0
    go_enter Tryd.func33, Tryd.ntmps33
    go_wp2
    go_ret
    exact ⟨by rw [HV.out]; rfl, below_one _ _⟩
/-- Has, of an act. -/
def hasA (h : List Int) (x : Ac) : Bool := hasC h x.rep x.num
set_option maxHeartbeats 400000 in
theorem hasA_any (h : List Int) (x : Ac) (w : World) (ha : h.length = 8) : Calls Tryd.prog 34 #[.agg (cv h), .agg (acv x)] w fun e w' => e = .returned (.bool (hasA h x)) ∧ Below w.heap.size w w' := by
  have r1 := acv_rep x
  have r2 := acv_num x
  obtain ⟨h1, h2, hB⟩ := startA w (x := x) ha
  have HH := hid_of' (has_any h x.rep x.num ((w.alloc (.cells (cv h) 44)).alloc (.cells (acv x) 48)) ha)
  unfold hasA
  go_enter Tryd.func34, Tryd.ntmps34
  go_wp2_with (first | (refine wpL_load rfl _ rfl rfl h1 ?_) | (go_at_call 47; refine HH.out.mono ?_; rintro e w1 ⟨rfl, hb1⟩; clear HH))
  go_ret
  exact ⟨rfl, bgo hB hb1⟩
theorem hasA_is {h : List Int} {x : Ac} {v : Bool} (hv : hasA h x = v) (w : World) (ha : h.length = 8) : Calls Tryd.prog 34 #[.agg (cv h), .agg (acv x)] w fun e w' => e = .returned (.bool v) ∧ Below w.heap.size w w' := hv ▸ hasA_any h x w ha
theorem nm_size (r k : Int) : (Tryd.prog.info? 92).map (·.size) = some (nmc r k).size := (by kernel_rfl : (Tryd.prog.info? 92).map (·.size) = some 2)
set_option maxHeartbeats 400000 in
theorem nameOf_is (x : Ac) (w : World) : Calls Tryd.prog 37 #[.agg (acv x)] w fun e w' => e = .returned (.agg (nmc x.rep x.num)) ∧ Below w.heap.size w w' := by
  have r1 := acv_rep x
  have r2 := acv_num x
  have hN := row_new2 w (.cells (acv x) 48) (nmc x.rep x.num) 92
  go_enter Tryd.func37, Tryd.ntmps37
  go_wp2
  exact bodyPost_ret (v := .agg (nmc x.rep x.num)) (results_cell_row rfl _ _ (w.heap.size + 1) _ _ _ _ rfl hN Tryd.underlying92 rfl (nm_size _ _)) rfl ⟨rfl, below_two w _ _⟩
/-- A new Inbox. -/
theorem newI_ok (m : Int) (h0 : 0 ≤ m) (h1 : m ≤ 256) (w : World) :
    Calls Tryd.prog 4 #[.int .i64 m] w fun e w' => ∃ B kb, e = .returned (.tuple #[.pointer (some ⟨B, 0, none⟩), .nilIface]) ∧ IbAt B (.slice none 0 0) kb 0 m [] w' ∧ w.heap.size ≤ B ∧ w.heap.size ≤ kb ∧ Below w.heap.size w w' := by
  have H := hid_of' (And.intro h0 h1)
  have k1 : ¬ m < 0 := by omega
  have k2 : ¬ 256 < m := by omega
  have hmm := @run_makeMap Tryd.prog
  clear h0 h1
  go_enter Tryd.func4, Tryd.ntmps4
  go_wp2
  go_ret2
  refine ⟨w.heap.size + 1, rfl, w.heap.size, ⟨row_new2 w _ _ _, OwnA.nil _, (MpS.new w).later (below_one _ _), (fun x h => by cases h), List.Pairwise.nil, H.out.1, H.out.2⟩, by omega, by omega, below_two w _ _⟩
theorem IbAt.slice {B : Nat} {v : Value} {kb n : Nat} {m : Int} {l : List Ac} {w : World} (h : IbAt B v kb n m l w) : ∃ a c, v = .slice a l.length c ∧ l.length ≤ c ∧ c ≤ maxLen := h.row.form
theorem lenI_is {B : Nat} {v : Value} {kb n : Nat} {m : Int} {l : List Ac} {w : World} (h : IbAt B v kb n m l w) :
    Calls Tryd.prog 18 #[.pointer (some ⟨B, 0, none⟩)] w fun e w' => e = .returned (.int .i64 (l.length : Int)) ∧ w' = w := by
  obtain ⟨a, c, rfl, _⟩ := h.slice
  have c1 := h.lies.cellIs 1 rfl
  clear h
  go_enter Tryd.func18, Tryd.ntmps18
  go_wp2
  go_ret
  exact ⟨rfl, rfl⟩
end Go.Proofs.YtlgdaaofpjpobaaDoor
