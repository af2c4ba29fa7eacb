
/-
  The map of ranks: IDs as keys, what is looked up, what is laid in.
  evenRank; which characters and Hides are right; is an element live; a look-up of a rank in a drawn region.
  evenRank; what is wrong with an element, where nothing is.
-/
import Derived.Test.YtjalehlmldlooaaGreatDoorZap01
import Derived.Maps.OwnSet
import Derived.DeepKeys4
import Derived.Test.YtjalehlmldlooaaGreatDoorZap05
namespace Go.Proofs.YtjalehlmldlooaaGreatDoor
open Go.RowKit Go.Maps
set_option maxRecDepth 100000

/-- A number of Go's int. -/
def In64 (a : Int) : Prop := -9223372036854775808 ≤ a ∧ a ≤ 9223372036854775807
/-- An ID's cells. -/
def idc (a b c : Int) : Array Value := #[.int .i64 a, .int .i64 b, .int .i64 c]
theorem laidOutP : laidOutB Tryz.prog = true := by kernel_rfl
theorem rowId : (32 : TypeId) < Tryz.prog.types.size := of_decide_eq_true (by kernel_rfl)
theorem wideId : (match Tryz.prog.underlying 32 with | some (.array _ _) | some (.struct _) => true | _ => false) = true := by kernel_rfl
theorem lawId : Keyed Tryz.prog 32 := Keyed.of_law (deep_law_laid laidOutP (m := 2) (by omega) rowId (by kernel_rfl) wideId)
theorem zeroI (w : World) : (zeroValue 3).run Tryz.prog w = .ok (.int .i64 0) w := by kernel_rfl
/-- What an ID reads as. -/
def idl (a b c : Int) : Lit := .string (keyBytes [.int .i64 a, .int .i64 b, .int .i64 c])
theorem wf64 {a : Int} (h : In64 a) : (Lit.int .i64 a).wf = true := WalkArith.wf_i64 h
theorem keyLits3 {P : Program} {k e : TypeId} {fs : Array Field} (hu : P.underlying k = some (.struct fs)) (hf : fs.toList.map (fun f => (f.type, f.offset)) = [(e, 0), (e, 1), (e, 2)]) (hn : fs.all (·.name != "_") = true) (hi : P.underlying e = some (.int .i64)) (hq : P.cellsOf e = 1) (hz : P.cellsOf k = 3) (m : Nat) {a b c : Int} (ha : In64 a) (hb : In64 b) (hc : In64 c) :
    P.keyLits (m + 2) k [.int .i64 a, .int .i64 b, .int .i64 c] = some [.int .i64 a, .int .i64 b, .int .i64 c] := by
  have h1 : ∀ x : Int, In64 x → P.keyLits (m + 1) e [.int .i64 x] = some [.int .i64 x] := fun x hx => by
    unfold Program.keyLits
    simp [hi, wf64 hx]
  have h2 : fs.toList.mapM (fun f => P.keyLits (m + 1) f.type ((([.int .i64 a, .int .i64 b, .int .i64 c] : List Value).drop f.offset).take (P.cellsOf f.type))) = (fs.toList.map (fun f => (f.type, f.offset))).mapM (fun p : TypeId × Nat => P.keyLits (m + 1) p.1 ((([.int .i64 a, .int .i64 b, .int .i64 c] : List Value).drop p.2).take (P.cellsOf p.1))) := by
    rw [List.mapM_map]
    rfl
  unfold Program.keyLits
  simp only [hu]
  rw [if_pos ⟨by simp [hz], hn⟩, h2, hf]
  simp [hq, h1 a ha, h1 b hb, h1 c hc]
theorem key_id {a b c : Int} (ha : In64 a) (hb : In64 b) (hc : In64 c) : keyOf Tryz.prog 32 (.agg (idc a b c)) = some (idl a b c) := by
  have k1 : Tryz.prog.keyType 32 = true := by kernel_rfl
  have k2 : (Value.agg (idc a b c)).formed Tryz.prog 32 = true := by kernel_rfl
  have hs : Tryz.prog.types.size + 1 = (231 - 1) + 2 := by kernel_rfl
  have k3 := keyLits3 Tryz.underlying32 (by kernel_rfl) (by kernel_rfl) Tryz.underlying3 (by kernel_rfl) (by kernel_rfl) (231 - 1) ha hb hc
  rw [← hs] at k3
  unfold keyOf
  rw [Tryz.underlying32]
  simp only [k1, k2, Bool.and_self, if_true]
  rw [show (Value.agg (idc a b c)).cells.toList = [.int .i64 a, .int .i64 b, .int .i64 c] from rfl, k3]
  rfl
/-- Three numbers: an ID. -/
structure Idn where
  a : Int
  b : Int
  c : Int
deriving DecidableEq
def Idn.In (i : Idn) : Prop := In64 i.a ∧ In64 i.b ∧ In64 i.c
def Idn.v (i : Idn) : Value := .agg (idc i.a i.b i.c)
def Idn.l (i : Idn) : Lit := idl i.a i.b i.c
theorem Idn.In.key {i : Idn} (h : i.In) : keyOf Tryz.prog 32 i.v = some i.l := key_id h.1 h.2.1 h.2.2
theorem Idn.inj {i j : Idn} (hi : i.In) (hj : j.In) (h : i.l = j.l) : i = j := by
  have e := lawId.inj hi.key (h ▸ hj.key)
  cases i; cases j
  simp [Idn.v, idc] at e
  simp [e]
/-- A map of ranks in memory. -/
def MpAt (kb n : Nat) (f : Idn → Option Int) (w : World) : Prop := ∃ D : DataW Unit, w.ownsMap Tryz.prog 32 (plainElem Tryz.prog 3) kb n D ∧ ∀ i : Idn, i.In → Maps.has D i.l = (f i).isSome ∧ D.atKey i.l (.lit (.int .i64 0)) = .lit (.int .i64 ((f i).getD 0))
theorem MpAt.new (w : World) : MpAt w.heap.size 0 (fun _ => none) (w.alloc (.map #[] 0)) :=
  ⟨.map [], World.ownsMap_made _ _ _ _, fun _ _ => ⟨rfl, rfl⟩⟩
theorem MpAt.lt {kb n : Nat} {f : Idn → Option Int} {w : World} (h : MpAt kb n f w) : kb < w.heap.size := by
  obtain ⟨D, h, _⟩ := h
  exact h.lt
theorem MpAt.block {kb n : Nat} {f : Idn → Option Int} {w w' : World} (h : MpAt kb n f w) (hb : w'.heap[kb]? = w.heap[kb]?) : MpAt kb n f w' := by
  obtain ⟨D, ⟨es, cl, h1, h2⟩, h3⟩ := h
  exact ⟨D, ⟨es, cl, hb.trans h1, h2⟩, h3⟩
theorem MpAt.later {kb n : Nat} {f : Idn → Option Int} {w w' : World} (h : MpAt kb n f w) (hb : Below w.heap.size w w') : MpAt kb n f w' := h.block (hb.block _ h.lt)
theorem MpAt.look {kb n : Nat} {f : Idn → Option Int} {w : World} (h : MpAt kb n f w) {i : Idn} (hi : i.In) : (Instr.lookup 57 (.map (some kb)) i.v true).run Tryz.prog w = .ok (.tuple #[.int .i64 ((f i).getD 0), .bool (f i).isSome]) w := by
  obtain ⟨D, h, hD⟩ := h
  obtain ⟨d1, d2⟩ := hD i hi
  obtain ⟨v, ps, hrun, hv⟩ := h.look_ok lawId Tryz.underlying57 (zeroI w) (plainElem_int Tryz.underlying3 (by decide)) hi.key
  obtain ⟨c, rfl, hc, _⟩ := plainElem_int_inv Tryz.underlying3 hv
  have e := congrArg Prod.fst hc
  rw [d2] at e
  simp only [DataW.lit.injEq, Lit.int.injEq, true_and] at e
  rw [hrun, d1, e]
theorem MpAt.look1 {kb n : Nat} {f : Idn → Option Int} {w : World} (h : MpAt kb n f w) {i : Idn} (hi : i.In) : (Instr.lookup 57 (.map (some kb)) i.v false).run Tryz.prog w = .ok (.int .i64 ((f i).getD 0)) w := by
  obtain ⟨D, h, hD⟩ := h
  obtain ⟨d1, d2⟩ := hD i hi
  obtain ⟨c, hrun, hat, _⟩ := h.lookup_int lawId Tryz.underlying57 Tryz.underlying3 (zeroI w) hi.key
  rw [d2] at hat
  simp only [DataW.lit.injEq, Lit.int.injEq, true_and] at hat
  rw [hrun, hat]
/-- A rank is laid in. -/
def putF (f : Idn → Option Int) (i : Idn) (x : Int) : Idn → Option Int := fun j => if j = i then some x else f j
theorem MpAt.put {kb n : Nat} {f : Idn → Option Int} {w : World} (h : MpAt kb n f w) {i : Idn} (hi : i.In) {x : Int} (hx : In64 x) (hn : n < 1099511627776) :
    ∃ w', (Instr.mapUpdate 57 (.map (some kb)) i.v (.int .i64 x)).run Tryz.prog w = .ok () w' ∧ MpAt kb (n + 1) (putF f i x) w' ∧ w.grownBy w' (some kb) := by
  obtain ⟨D, h, hD⟩ := h
  obtain ⟨w', hrun, r1, r2⟩ := h.update lawId Tryz.underlying57 (by unfold maxLen; omega) hi.key (plainElem_int Tryz.underlying3 (wf64 hx))
  refine ⟨w', hrun, ⟨_, r1, fun j hj => ?_⟩, r2⟩
  unfold putF
  by_cases e : j = i
  · subst e
    rw [if_pos rfl]
    exact ⟨has_put_same h.isMap (lawId.key hj.key) _, atKey_put_same h.isMap (lawId.key hj.key) _ _⟩
  · rw [if_neg e, has_put_other (fun he => e (Idn.inj hj hi he)), atKey_put_other (fun he => e (Idn.inj hj hi he))]
    exact hD j hj
end Go.Proofs.YtjalehlmldlooaaGreatDoor
namespace Go.Proofs.YtjalehlmldlooaaGreatDoor
open Go.RowKit
set_option maxRecDepth 100000

/-- Is a character right? -/
def rightC (c : Int) : Bool := decide (0 ≤ c) && decide (c ≤ 1114111) && (decide (c < 55296) || decide (57343 < c))
/-- Is a Hides right? -/
def fairH (n : Int) : Bool := decide (-1099511627776 ≤ n) && decide (n ≤ 1099511627776)

set_option maxHeartbeats 400000 in
theorem validRune_any (c : Int) (w : World) : Calls Tryz.prog 39 #[.int .i32 c] w fun r w' => r = .returned (.bool (rightC c)) ∧ w' = w := by
  by_cases h0 : 0 ≤ c
  · by_cases h1 : c < 55296
    · have hr : rightC c = true := by simp [rightC]; omega
      rw [hr]
      go_enter Tryz.func39, Tryz.ntmps39
      go_wp2
      go_ret
      exact ⟨rfl, rfl⟩
    · by_cases h2 : 57343 < c
      · by_cases h3 : c ≤ 1114111
        · have hr : rightC c = true := by simp [rightC]; omega
          rw [hr]
          go_enter Tryz.func39, Tryz.ntmps39
          go_wp2
          go_ret
          exact ⟨rfl, rfl⟩
        · have hr : rightC c = false := by simp [rightC]; omega
          rw [hr]
          go_enter Tryz.func39, Tryz.ntmps39
          go_wp2
          go_ret
          exact ⟨rfl, rfl⟩
      · have hr : rightC c = false := by simp [rightC]; omega
        rw [hr]
        go_enter Tryz.func39, Tryz.ntmps39
        go_wp2
        go_ret
        exact ⟨rfl, rfl⟩
  · have hr : rightC c = false := by simp [rightC]; omega
    have h2 : ¬ 57343 < c := by omega
    rw [hr]
    go_enter Tryz.func39, Tryz.ntmps39
    go_wp2
    go_ret
    exact ⟨rfl, rfl⟩
set_option maxHeartbeats 400000 in
theorem refRight_any (c : Int) (w : World) : Calls Tryz.prog 13 #[.int .i32 c] w fun r w' => r = .returned (.bool (rightC c)) ∧ w' = w := by
  by_cases h0 : 0 ≤ c
  · by_cases h3 : c ≤ 1114111
    · by_cases h1 : c < 55296
      · have hr : rightC c = true := by simp [rightC]; omega
        rw [hr]
        go_enter Tryz.func13, Tryz.ntmps13
        go_wp2
        go_ret
        exact ⟨rfl, rfl⟩
      · by_cases h2 : 57343 < c
        · have hr : rightC c = true := by simp [rightC]; omega
          rw [hr]
          go_enter Tryz.func13, Tryz.ntmps13
          go_wp2
          go_ret
          exact ⟨rfl, rfl⟩
        · have hr : rightC c = false := by simp [rightC]; omega
          rw [hr]
          go_enter Tryz.func13, Tryz.ntmps13
          go_wp2
          go_ret
          exact ⟨rfl, rfl⟩
    · have hr : rightC c = false := by simp [rightC]; omega
      rw [hr]
      go_enter Tryz.func13, Tryz.ntmps13
      go_wp2
      go_ret
      exact ⟨rfl, rfl⟩
  · have hr : rightC c = false := by simp [rightC]; omega
    rw [hr]
    go_enter Tryz.func13, Tryz.ntmps13
    go_wp2
    go_ret
    exact ⟨rfl, rfl⟩
set_option maxHeartbeats 400000 in
theorem rightHides_any (n : Int) (w : World) : Calls Tryz.prog 40 #[.int .i64 n] w fun r w' => r = .returned (.bool (fairH n)) ∧ w' = w := by
  by_cases h0 : -1099511627776 ≤ n
  · by_cases h1 : n ≤ 1099511627776
    · have hr : fairH n = true := by simp [fairH]; omega
      rw [hr]
      go_enter Tryz.func40, Tryz.ntmps40
      go_wp2
      go_ret
      exact ⟨rfl, rfl⟩
    · have hr : fairH n = false := by simp [fairH]; omega
      rw [hr]
      go_enter Tryz.func40, Tryz.ntmps40
      go_wp2
      go_ret
      exact ⟨rfl, rfl⟩
  · have hr : fairH n = false := by simp [fairH]; omega
    rw [hr]
    go_enter Tryz.func40, Tryz.ntmps40
    go_wp2
    go_ret
    exact ⟨rfl, rfl⟩
/-- The k-th of so many ranks. -/
def rankN (k n : Int) : Int := k * (4611686018427387904 / n) + 4611686018427387904 / n / 2
theorem rankN_b {k n : Int} (h0 : 0 ≤ k) (h1 : k < n) : 0 ≤ rankN k n ∧ rankN k n < 4611686018427387904 := by
  unfold rankN
  have hn : 0 < n := by omega
  have a1 : 0 ≤ 4611686018427387904 / n := Int.ediv_nonneg (by omega) (by omega)
  have a2 : (4611686018427387904 / n) * n ≤ 4611686018427387904 := Int.ediv_mul_le _ (by omega)
  obtain ⟨s, hs⟩ : ∃ s, s = 4611686018427387904 / n := ⟨_, rfl⟩
  rw [← hs] at a1 a2 ⊢
  have a3 : k * s ≤ (n - 1) * s := Int.mul_le_mul_of_nonneg_right (by omega) a1
  have a4 : (n - 1) * s = s * n - s := by rw [Int.sub_mul, Int.one_mul, Int.mul_comm]
  have a5 : 0 ≤ k * s := Int.mul_nonneg h0 a1
  refine ⟨by omega, ?_⟩
  by_cases h : s = 0
  · subst h; omega
  · omega
end Go.Proofs.YtjalehlmldlooaaGreatDoor
namespace Go.Proofs.YtjalehlmldlooaaGreatDoor
open Go.RowKit
set_option maxRecDepth 100000

theorem wrapIs {a : Int} (h1 : -9223372036854775808 ≤ a) (h2 : a ≤ 9223372036854775807) : wrap64 a = a := by unfold wrap64; omega
theorem rank_w {k n : Int} (h0 : 0 ≤ k) (h1 : k < n) : wrap64 (wrap64 (wrap64 (k * (4611686018427387904 / n))) + wrap64 ((4611686018427387904 / n).tdiv 2)) = rankN k n := by
  have hb := rankN_b h0 h1
  have hn : 0 < n := by omega
  have a1 : 0 ≤ 4611686018427387904 / n := Int.ediv_nonneg (by omega) (by omega)
  unfold rankN at hb ⊢
  obtain ⟨s, hs⟩ : ∃ s, s = 4611686018427387904 / n := ⟨_, rfl⟩
  rw [← hs] at a1 hb ⊢
  have a5 : 0 ≤ k * s := Int.mul_nonneg h0 a1
  obtain ⟨p, hp⟩ : ∃ p, p = k * s := ⟨_, rfl⟩
  rw [← hp] at a5 hb ⊢
  have a6 : s.tdiv 2 = s / 2 := Int.tdiv_eq_ediv_of_nonneg a1
  rw [a6]
  have b1 : wrap64 p = p := wrapIs (by omega) (by omega)
  have b2 : wrap64 (s / 2) = s / 2 := wrapIs (by omega) (by omega)
  rw [b1, b1, b2]
  exact wrapIs (by omega) (by omega)

set_option maxHeartbeats 1000000 in
theorem evenRank_0 (k n : Int) (w : World) (h0 : 0 ≤ k) (h1 : k < n) :
    Calls Tryz.prog 18 #[.int .i64 0, .int .i64 62, .int .i64 k, .int .i64 n] w fun r w' => r = .returned (.int .i64 (rankN k n)) ∧ w' = w := by
  have hn : n ≠ 0 := by omega
  have hR := hid_of' (rank_w h0 h1)
  go_enter Tryz.func18, Tryz.ntmps18
  go_wp2
  go_ret
  exact ⟨congrArg (fun x => Ending.returned (Value.int .i64 x)) hR.out, rfl⟩

/-- An element's ID. -/
def El.id (e : El) : Idn := ⟨e.ep, e.rp, e.no⟩
section
variable {P : Program}
theorem quiet_lookup {o : Oper} {a : Act} {C : World → Prop} {K : Act → Prop} (m x : Operand) (ho : o.op = .lookup 57 m x true) {kb n : Nat} {f : Idn → Option Int} {i : Idn} (hi : i.In) (hm : a.eval m = .map (some kb)) (hx : a.eval x = .agg (idc i.a i.b i.c)) (h : ∀ w, C w → MpAt kb n f w)
    (k : K (a.put o.dst (.tuple #[.int .i64 ((f i).getD 0), .bool (f i).isSome]))) : o.quiet Tryz.prog a C K :=
  ⟨_, fun w hw => by
    unfold Oper.quietAt execOp
    have e := (h w hw).look hi
    unfold Idn.v at e
    simp only [ho, hm, hx, e, Sem.run_bind, Sem.run_pure, Result.andThen_ok]
    exact ⟨rfl, rfl⟩, k⟩
end
theorem MpAt.cls {kb n : Nat} {f : Idn → Option Int} {w : World} (h : MpAt kb n f w) : ∀ w', (∃ s : Wld w, w' = wOf s) → MpAt kb n f w' := fun _ ⟨s, e⟩ => by rw [e]; exact h.later (wOf_below s)
theorem id_size (a b c : Int) : (Tryz.prog.info? 32).map (·.size) = some (idc a b c).size := (by kernel_rfl : (Tryz.prog.info? 32).map (·.size) = some 3)
theorem id_at {w : World} {g o_ : Nat} {e : El} (h : CsIn g o_ (ev e) w) : CsIn g o_ (idc e.ep e.rp e.no) w :=
  ⟨h.1, fun j v hv => by
    refine h.2 j v ?_
    match j, hv with
    | 0, hv => exact hv
    | 1, hv => exact hv
    | 2, hv => exact hv
    | m + 3, hv => simp [idc] at hv⟩

set_option maxHeartbeats 2000000 in
/-- flaw, where nothing is wrong. -/
theorem flaw_ok {mb tb kb n : Nat} {f : Idn → Option Int} {e : El} {w : World} (h1 : RowAt mb #[pv tb, .map (some kb)] 59 w) (hM : MpAt kb n f w) (hi : e.id.In) (hc : rightC e.ch = true) (hh : fairH e.hd = true) (hf : (f e.id).isSome = false) :
    Calls Tryz.prog 16 #[pv mb, .agg (ev e)] w fun r w' => r = .returned .nilIface ∧ Below w.heap.size w w' := by
  have hE : CsIn w.heap.size 0 (idc e.ep e.rp e.no) (w.alloc (.cells (ev e) 49)) := id_at (row_new w _ _).in
  have hM1 := hM.later (below_one w (.cells (ev e) 49))
  have c1 : (w.alloc (.cells (ev e) 49)).cell? ⟨mb, 1, none⟩ = some (.map (some kb)) := (h1.later (below_one w _)).cell 1
  have hB := below_one w (.cells (ev e) 49)
  have hr1 := row_new w (ev e) 49
  have HV := hid_of' (validRune_any e.ch)
  have HR := hid_of' (rightHides_any e.hd)
  rw [hc] at HV
  rw [hh] at HR
  have hMr := h1.later (below_one w (.cells (ev e) 49))
  clear h1 hM c1
  go_enter Tryz.func16, Tryz.ntmps16
  go_upto_region 1 with fail
  generalize hw0 : w.alloc (.cells (ev e) 49) = w0 at *
  clear hw0
  replace hB := hid_of' hB
  generalize w.heap.size = g at hE hr1 ⊢
  replace hB := hB.out
  have c1 : ∀ s : Wld w0, (wOf s).cell? ⟨mb, 1, none⟩ = some (.map (some kb)) := fun s => hMr.cls 1 _ rfl s
  have d1 : ∀ s : Wld w0, (wOf s).cell? ⟨g, 3, none⟩ = some (.int .i32 e.ch) := fun s => hr1.cls 3 _ rfl s
  unfold pv
  refine wp_region_cls (by kernel_rfl) (by kernel_rfl) ?_
  repeat (first | go_big_quiet_skip | (go_big_quiet_want; first | (refine quiet_load_in _ _ rfl rfl hE.cls Tryz.underlying32 rfl (id_size _ _ _) ?_; simp only [Act.put, List.setIfInBounds_toArray, List.set_cons_succ, List.set_cons_zero]; go_big_quiet_on) | (refine quiet_lookup _ _ rfl hi rfl rfl hM1.cls ?_; simp only [Act.put, List.setIfInBounds_toArray, List.set_cons_succ, List.set_cons_zero]; go_big_quiet_on) | (go_big_quiet_op; first | go_big_quiet_on | go_big_quiet_call ((fail)))))
  refine wpQuiet_nil ?_
  rintro w1 ⟨s1, e1⟩
  have hb1 := wOf_below s1
  rw [← e1] at hb1
  clear e1 s1
  replace hr1 := hr1.later hb1
  replace hB := bgo hB hb1
  clear hb1
  have d3 : w1.cell? ⟨g, 3, none⟩ = some (.int .i32 e.ch) := hr1.cell 3
  have d4 : w1.cell? ⟨g, 4, none⟩ = some (.int .i64 e.hd) := hr1.cell 4
  rw [hf]
  go_wp2_with (first | (go_at_call 39; refine (HV.out _).mono ?_; rintro r w2 ⟨rfl, hw⟩; obtain rfl := hw.symm) | (go_at_call 40; refine (HR.out _).mono ?_; rintro r w2 ⟨rfl, hw⟩; obtain rfl := hw.symm))
  go_ret
  exact ⟨rfl, hB⟩
end Go.Proofs.YtjalehlmldlooaaGreatDoor
