
/-
  Package causal: a queue's put.
-/
import Derived.Test.YtlkcjbmdeimocaaDoorCq2
import Derived.Test.YtlkcjbmdeimocaaDoorSeqC
import Derived.Test.YtlkcjbmdeimocaaDoorCa13
namespace Go.Proofs.YtlkcjbmdeimocaaDoor
open Go.RowKit Go.Maps Go.MapKept
open Go.ChangeMaps (setBlock heap_setBlock_same heap_setBlock_other)
set_option maxRecDepth 100000

theorem lacking_some {q : Nat} {v : Value} {h : List Int} {kb : Nat} {f : List Nat} {w : World} (hq : QAt q v h kb f w) (hl : h.length = 8) {c : List Int} (hc : Ck c) (hex : ¬ ∀ r : Nat, r < 8 → en c r ≤ en h r) :
    Calls Tryd.prog 70 #[.pointer (some ⟨q, 0, none⟩), .agg (cv c)] w fun e w' => ∃ r : Nat, r < 8 ∧ en h r < en c r ∧ e = .returned (.tuple #[.agg (nmc (r : Int) (en c r)), .bool true]) ∧ Below w.heap.size w w' := by
  refine (lacking_is hq hl hc).mono ?_
  rintro e w' ⟨⟨r, h1, h2, h3⟩ | ⟨h1, _⟩, hb⟩
  · exact ⟨r, h1, h2, h3, hb⟩
  · exact absurd h1 hex
theorem lacking_none {q : Nat} {v : Value} {h : List Int} {kb : Nat} {f : List Nat} {w : World} (hq : QAt q v h kb f w) (hl : h.length = 8) {c : List Int} (hc : Ck c) (hall : ∀ r : Nat, r < 8 → en c r ≤ en h r) :
    Calls Tryd.prog 70 #[.pointer (some ⟨q, 0, none⟩), .agg (cv c)] w fun e w' => e = .returned (.tuple #[.agg (nmc 0 0), .bool false]) ∧ Below w.heap.size w w' := by
  refine (lacking_is hq hl hc).mono ?_
  rintro e w' ⟨⟨r, h1, h2, h3⟩ | ⟨_, h3⟩, hb⟩
  · have := hall r h1; omega
  · exact ⟨h3, hb⟩
theorem opw_loadNm {K : Act → World → Prop} {o : Oper} {A : Act} {w : World} {Q : Exit → Act → World → Prop} (x : Operand) (ho : o.op = .load 92 x) {g : Nat} (hx : A.eval x = .pointer (some ⟨g, 0, none⟩)) {a b : Int} (h : RowAt g (nmc a b) 92 w)
    (k : K (A.put o.dst (.agg (nmc a b))) w) : o.wp Tryd.prog A w K Q := by
  unfold Oper.wp execOp
  simp only [ho, hx, Instr.loadAt, Instr.sureAddr, Sem.run_bind, Sem.run_pure, Result.andThen_ok, run_loadVar_row w g _ _ _ _ _ h Tryd.underlying92 rfl (nm_size a b)]
  exact k
theorem wpL_loadCkQ {ops : Array Oper} {rest : List Oper} {o : Oper} {A : Act} {w : World} {Q : Exit → Act → World → Prop} (hgd : o.guard = none) (x : Operand) (ho : o.op = .load 44 x) {b off : Nat} (hx : A.eval x = .pointer (some ⟨b, off, none⟩)) {p : List Int} (hp : p.length = 8) (h : CsIn b off (cv p) w)
    (k : wpList Tryd.prog ops Q rest (A.put o.dst (.agg (cv p))) w) : wpList Tryd.prog ops Q (o :: rest) A w := by
  refine wpList_plain hgd fun _ hK => ?_
  unfold Oper.wp execOp
  simp only [ho, hx, Instr.loadAt, Instr.sureAddr, Sem.run_bind, Sem.run_pure, Result.andThen_ok, run_loadVar_in h Tryd.underlying44 rfl (ck_size hp)]
  exact hK _ _ k
theorem opw_entry {K : Act → World → Prop} {o : Oper} {A : Act} {w : World} {Q : Exit → Act → World → Prop} (m x : Operand) {t : TypeId} (ho : o.op = .mapEntry t m x) {kb : Nat} {key v : Value} {w' : World} (hm : A.eval m = .map (some kb)) (hx : A.eval x = key) (hr : (Instr.mapEntry t (.map (some kb)) key).run Tryd.prog w = .ok v w')
    (k : K (A.put o.dst v) w') : o.wp Tryd.prog A w K Q := by
  unfold Oper.wp
  simp [execOp, ho, hm, hx, hr, Result.andThen]
  exact k
theorem wpL_entryStore {ops : Array Oper} {rest : List Oper} {o : Oper} {A : Act} {w : World} {Q : Exit → Act → World → Prop} (hgd : o.guard = none) (m s x : Operand) {t : TypeId} (ho : o.op = .entryStore t m s x) {kb : Nat} {st v : Value} {w' : World} (hm : A.eval m = .map (some kb)) (hs : A.eval s = st) (hx : A.eval x = v) (hr : (Instr.entryStore t (.map (some kb)) st v).run Tryd.prog w = .ok () w')
    (k : wpList Tryd.prog ops Q rest (A.put o.dst undef) w') : wpList Tryd.prog ops Q (o :: rest) A w := by
  refine wpList_plain hgd fun _ hK => ?_
  unfold Oper.wp
  simp [execOp, ho, hm, hs, hx, hr, Result.andThen]
  exact hK _ _ k
theorem info_in : (Tryd.prog.info? 3).map (fun i => (i.zero, i.size, i.bytes)) = some (some (.int .i64 0), 1, 8) := by kernel_rfl
theorem opw_appI {K : Act → World → Prop} {o : Oper} {A : Act} {w : World} {Q : Exit → Act → World → Prop} (s x : Operand) (ho : o.op = .call { callee := .builtin .append, args := #[s, x], argTypes := #[30, 30] })
    {v : Value} {zs : List Nat} {i gi : Nat} (hs : A.eval s = v) (hx : A.eval x = .slice (some ⟨gi, 0, none⟩) 1 1) (hv : OwnI v zs w) (hu : CsIn gi 0 #[.int .i64 (i : Int)] w) (hn : zs.length + 1 ≤ 1000000)
    (k : ∀ v' w', OwnI v' (zs ++ [i]) w' → w.grownBy w' v.ownBlock → At' w v v' → K (A.put o.dst v') w') : o.wp Tryd.prog A w K Q := by
  obtain ⟨i0, hi, hz0, hz1, hz2⟩ := info_parts info_in
  refine opw_app s x 30 ho 3 i0 (.int .i64 0) 1 8 Tryd.underlying30 hi hz0 hz1 hz2 rfl hs hx hv (m := 1) (ys := [.int .i64 (i : Int)]) ⟨rfl, .inr ⟨_, _, rfl, fun j u hj => ?_⟩⟩ (by simp [Value.oneCell']) (by unfold maxLen; omega) (by omega) ?_
  · rw [Addr.add_lit]
    exact hu.2 j u (by simpa using hj)
  · intro v' w' h1 h2 h3
    refine k v' w' ?_ h2 h3
    unfold OwnI
    simpa using h1
/-- Between the entry and the store. -/
def G1C (kb : Nat) (es1 : Array MapEntry) (cl1 : Nat) (v0 : Value) (zs : List Nat) (w2 X : World) : Prop := X.heap[kb]? = some (.map es1 cl1) ∧ Ch (fun j => j = kb ∨ v0.ownBlock = some j) w2 X ∧ OwnI v0 zs X
def GK (kb : Nat) (es1 : Array MapEntry) (cl1 : Nat) (v0 : Value) (zs : List Nat) (w2 : World) : Nat → World → Prop
  | 0, X => Below w2.heap.size w2 X
  | 1, X => G1C kb es1 cl1 v0 zs w2 X
  | _ + 2, X => X.heap[kb]? = some (.map es1 cl1) ∧ Ch (fun j => j = kb ∨ v0.ownBlock = some j) w2 X
theorem GK.later {kb : Nat} {es1 : Array MapEntry} {cl1 : Nat} {v0 : Value} {zs : List Nat} {w2 X X' : World} : ∀ {k : Nat}, GK kb es1 cl1 v0 zs w2 k X → Below X.heap.size X X' → GK kb es1 cl1 v0 zs w2 k X'
  | 0, h, hb => bgo (show Below w2.heap.size w2 X from h) hb
  | 1, h, hb => ⟨(hb.block kb (Array.getElem?_eq_some_iff.1 h.1).1).trans h.1, h.2.1.later hb, h.2.2.later hb⟩
  | _ + 2, h, hb => ⟨(hb.block kb (Array.getElem?_eq_some_iff.1 h.1).1).trans h.1, h.2.later hb⟩
theorem setB_ch {kb n base : Nat} {g : Int → Int → List Nat} {w X : World} (hX : X.heap[kb]? = w.heap[kb]?) (h : GpAt kb n base g w) (es : Array MapEntry) (cl : Nat) : Ch (fun j => j = kb) X (setBlock X kb (.map es cl)) := by
  obtain ⟨es', cl', h1, _⟩ := h
  exact ⟨rfl, rfl, rfl, by simp [setBlock], fun i _ hi => heap_setBlock_other (hX.trans h1) _ hi⟩
theorem setB_at {kb n base : Nat} {g : Int → Int → List Nat} {w X : World} (hX : X.heap[kb]? = w.heap[kb]?) (h : GpAt kb n base g w) (es : Array MapEntry) (cl : Nat) : (setBlock X kb (.map es cl)).heap[kb]? = some (.map es cl) := by
  obtain ⟨es', cl', h1, _⟩ := h
  exact heap_setBlock_same (hX.trans h1) _
/-- What put leaves. -/
def PutR (h : List Int) (x : Ac) (i : Nat) (f : List Nat) (g : Int → Int → List Nat) (f' : List Nat) (g' : Int → Int → List Nat) : Prop :=
  (∃ r : Nat, r < 8 ∧ en h r < en x.ck r ∧ f' = f ∧ g' = putG g r (en x.ck r) (g r (en x.ck r) ++ [i])) ∨
  ((∀ r : Nat, r < 8 → en x.ck r ≤ en h r) ∧ g' = g ∧ ((rdyC h x = true ∧ f' = f.set x.rep.toNat (min (fn f x.rep.toNat) i)) ∨ (rdyC h x = false ∧ f' = f)))
/-- A queue's blocks. -/
def qS (kb q : Nat) (w : World) (k : Nat) : Prop := k = kb ∨ k = q ∨ RowsOf kb w k
structure PutQ (q : Nat) (v : Value) (h : List Int) (kb n base : Nat) (x : Ac) (i : Nat) (f : List Nat) (g : Int → Int → List Nat) (w w' : World) (f' : List Nat) (g' : Int → Int → List Nat) : Prop where
  rel : PutR h x i f g f' g'
  at_ : QAt q v h kb f' w'
  map : GpAt kb (n + 1) base g' w'
  ch : Ch (qS kb q w) w w'
  rows : ∀ k, RowsOf kb w' k → RowsOf kb w k ∨ w.heap.size ≤ k
theorem GpAt.mono {kb n n' base : Nat} {g : Int → Int → List Nat} {w : World} (h : GpAt kb n base g w) (hn : n ≤ n') : GpAt kb n' base g w := by
  obtain ⟨es, cl, h1, E⟩ := h
  exact ⟨es, cl, h1, Nat.le_trans E.size hn, E.st, E.each, E.none, E.apart, E.above⟩
theorem GpAt.neQ {kb n base q : Nat} {g : Int → Int → List Nat} {v : Value} {h : List Int} {f : List Nat} {w : World} (hm : GpAt kb n base g w) (hq : QAt q v h kb f w) : ¬ q = kb ∧ ∀ k, RowsOf kb w k → ¬ k = q ∧ ¬ k = kb := by
  have hq' : w.heap[q]? = some (.cells (qcv v h kb f) 86 (0, 0)) := hq
  refine ⟨fun e => ?_, fun k hk => ⟨fun e => ?_, fun e => ?_⟩⟩
  · obtain ⟨es, cl, h1, _⟩ := hm
    rw [e, h1] at hq'
    cases hq'
  · obtain ⟨_, _, cs, hcs⟩ := hm.rows hk
    rw [e, hq'] at hcs
    simp at hcs
  · obtain ⟨_, _, cs, hcs⟩ := hm.rows hk
    obtain ⟨es, cl, h1, _⟩ := hm
    rw [e, h1] at hcs
    cases hcs

set_option maxHeartbeats 4000000 in
theorem put_wait {q kb n base : Nat} {v : Value} {h : List Int} {f : List Nat} {g : Int → Int → List Nat} {w : World} {L : List Ac} (hq : QAt q v h kb f w) (hm : GpAt kb n base g w) (hv : SlC w v L) (hfit : AFit L) (hL : L.length ≤ 1000) (hh : Ck h) (_hf8 : f.length = 8) {i : Nat} {x : Ac} (hx : L[i]? = some x) (hn : n < 1000000) (hbase : base ≤ w.heap.size) (hex : ¬ ∀ r : Nat, r < 8 → en x.ck r ≤ en h r) (hz : ∀ a b, (g a b).length ≤ 1000) :
    Calls Tryd.prog 63 #[.pointer (some ⟨q, 0, none⟩), .int .i64 (i : Int)] w fun e w' => (∃ z, e = .returned z) ∧ ∃ f' g', PutQ q v h kb n base x i f g w w' f' g' := by
  have hil : i < L.length := (List.getElem?_eq_some_iff.1 hx).1
  have hii : (i : Int) < (L.length : Int) := by omega
  obtain ⟨g0, o0, c9, hve, _⟩ := hv.pos (by omega)
  have hxf := hfit.at hx
  have hin := (by rw [hve] at hv; exact hv : SlC w (.slice (some ⟨g0, o0, none⟩) L.length c9) L).in hfit hx
  subst hve
  have c0 : w.cell? ⟨q, 0, none⟩ = some (.slice (some ⟨g0, o0, none⟩) L.length c9) := hq.cellIs 0 (qcv_list _ _ _ _)
  have hsz0 := hq.lt
  have H := hid_of' (And.intro hq (And.intro hm hbase))
  clear hq hm hv hfit hx hbase
  go_enter Tryd.func63, Tryd.ntmps63
  go_upto_region 1 with (first | (refine wpL_loadA rfl _ rfl rfl hxf hin ?_) | (refine wpL_storeAr (p := x) (q := ac0) rfl _ _ rfl rfl rfl hxf ac0_fit (row_new w (acv ac0) _) ?_))
  clear c0 hin
  obtain ⟨hb1, hb2⟩ := boxed_act w (x := x)
  rw [show (Obj.cells #[Value.int .i64 0, .int .i64 0, .int .i32 0, .int .i64 0, .int .i64 0, .int .i64 0, .int .i64 0, .int .i64 0, .int .i64 0, .int .i64 0, .int .i64 0, .int .i64 0, .int .i64 0] 48) = Obj.cells (acv ac0) 48 from rfl]
  obtain ⟨xb, hxb⟩ : ∃ xb, w.heap.size = xb := ⟨_, rfl⟩
  generalize (w.alloc (.cells (acv ac0) 48)).setRow w.heap.size (acv x) = W1 at hb1 hb2 ⊢
  rw [hxb] at hb1 ⊢
  have hckx : CsIn xb 5 (cv x.ck) W1 := hb1.in.sub 5 (fun j u hu => acv_ck x j u hu)
  have HK := hid_of' (lacking_some (H.out.1.later hb2) hh.1 hxf.1 hex)
  go_upto_region 2 with (first | (refine wpL_loadCkQ rfl _ rfl rfl hxf.1.1 hckx ?_) | (go_at_call 70; refine HK.out.mono ?_; rintro e w3 ⟨r, hr8, hrl, rfl, hb3⟩; clear HK) | (refine wpL_storeNm (a := (r : Int)) (b := (en x.ck r)) (c := 0) (d := 0) rfl _ _ rfl rfl rfl (row_new w3 (nmc 0 0) _) ?_))
  rw [show (Obj.cells #[Value.int .i64 0, .int .i64 0] 92) = Obj.cells (nmc 0 0) 92 from rfl]
  have hnb : RowAt w3.heap.size (nmc (r : Int) (en x.ck r)) 92 ((w3.alloc (.cells (nmc 0 0) 92)).setRow w3.heap.size (nmc (r : Int) (en x.ck r))) := (row_new w3 (nmc 0 0) _).put _
  have hb4 : Below w3.heap.size w3 ((w3.alloc (.cells (nmc 0 0) 92)).setRow w3.heap.size (nmc (r : Int) (en x.ck r))) := below_row (below_one w3 _) (Nat.le_refl _) _
  generalize (w3.alloc (.cells (nmc 0 0) 92)).setRow w3.heap.size (nmc (r : Int) (en x.ck r)) = w2 at hnb hb4 ⊢
  obtain ⟨nb, hnbe⟩ : ∃ nb, w3.heap.size = nb := ⟨_, rfl⟩
  rw [hnbe] at hnb ⊢
  have hbw := bgo (bgo hb2 hb3) hb4
  have hbl := hbw.size
  obtain ⟨num, hnum⟩ : ∃ num, en x.ck r = num := ⟨_, rfl⟩
  rw [hnum] at hnb ⊢
  have hqq := H.out.1.later hbw
  have hmm := H.out.2.1.later hbw
  have hfr : fitsI (r : Int) := by unfold fitsI; omega
  have hfn : fitsI num := by rw [← hnum]; exact hxf.1.2 r hr8
  obtain ⟨v0, st, es1, cl1, hE⟩ := hmm.entry (r := (r : Int)) (k := num) hfr hfn (by omega)
  obtain ⟨zs, hzs⟩ : ∃ zs, g (r : Int) num = zs := ⟨_, rfl⟩
  rw [hzs] at hE
  have HE := hid_of' hE
  have HM := hid_of' hmm
  have HKB := hid_of' hmm.lt
  have hne := hmm.neQ hqq
  have hv0 : ∀ j, v0.ownBlock = some j → ¬ j = kb ∧ ¬ j = q := fun j hj => ⟨(hne.2 j (hE.2.1 j hj)).2, (hne.2 j (hE.2.1 j hj)).1⟩
  have HV0 : Hid (∀ j, v0.ownBlock = some j → ¬ j = kb) := hid_of' fun j hj => (hv0 j hj).1
  have HV1 : Hid (¬ v0.ownBlock = some kb) := hid_of' fun e => (hv0 kb e).1 rfl
  have HL : Hid (zs.length + 1 ≤ 1000000) := hid_of' (by have := hz (r : Int) num; rw [hzs] at this; omega)
  have HS0 : Hid (∀ gi, w2.heap.size ≤ gi → ¬ (gi = kb ∨ v0.ownBlock = some gi)) := hid_of' fun gi hgi e => by
    rcases e with e | e
    · have := hmm.lt; omega
    · have := hE.1.lt gi e; omega
  have hq9 : ∀ (X : World) (kk : Nat), GK kb es1 cl1 v0 zs w2 kk X → Ch (fun j => j = kb ∨ v0.ownBlock = some j) w2 X := fun X kk hG => by
    match kk, hG with
    | 0, hG => exact Ch.of hG
    | 1, hG => exact hG.2.1
    | m + 2, hG => exact hG.2
  have hnbl : nb < w2.heap.size := hnb.lt
  have hnbk : ¬ (nb = kb ∨ v0.ownBlock = some nb) := fun e => by
    have := hmm.lt
    have h3s : w.heap.size ≤ w3.heap.size := Nat.le_trans hb2.size hb3.size
    rcases e with e | e
    · have := H.out.2.1.lt; omega
    · obtain ⟨cs, hcs⟩ := hE.1.obj nb e
      have hnb' : w2.heap[nb]? = some (.cells (nmc (r : Int) num) 92 (0, 0)) := hnb
      rw [hnb'] at hcs
      simp at hcs
  have HG0 : Hid (∀ (X : World) (kk : Nat), GK kb es1 cl1 v0 zs w2 kk X → ∀ {n : Nat}, kk ≤ n → X.cell? ⟨q, 9, none⟩ = some (.map (some kb)) ∧ RowAt nb (nmc (r : Int) num) 92 X) := hid_of' fun X kk hG _ _ =>
    ⟨(hqq.ch (hq9 X kk hG) (fun e => e.elim hne.1 (fun e => (hv0 q e).2 rfl))).cellIs 9 (qcv_map hh.1), hnb.ch (hq9 X kk hG) hnbk⟩
  have HSZ : Hid (∀ (X : World) (kk : Nat), GK kb es1 cl1 v0 zs w2 kk X → w2.heap.size ≤ X.heap.size) := hid_of' fun X kk hG => (hq9 X kk hG).size
  have HZ := hid_of' (And.intro hqq (And.intro hbw (And.intro hv0 (And.intro hne (And.intro hnum hzs)))))
  have HR := hid_of' (And.intro hr8 hrl)
  clear hE hmm hqq hnb hbw hne hv0 hq9 hnbk hb1 hb2 hb3 hb4 hckx hfr hfn hzs hnum hrl
  go_upto_region 3 with fail
  refine wp_region_seqD 11 (by kernel_rfl) (fun _ => none) (by kernel_rfl) (by kernel_rfl) (by decide) (fun ii u X => match ii with
    | 0 => u = .pointer (some ⟨q, 0, none⟩)
    | 1 => u = .pointer (some ⟨q, 0, none⟩)
    | 2 => u = .pointer (some ⟨q, 9, none⟩)
    | 3 => u = .map (some kb)
    | 4 => u = .agg (nmc (r : Int) num)
    | 5 => u = .int .i64 (i : Int)
    | 6 => ∃ gi, u = .slice (some ⟨gi, 0, none⟩) 1 1 ∧ w2.heap.size ≤ gi ∧ CsIn gi 0 #[.int .i64 (i : Int)] X
    | 7 => u = .tuple #[v0, goInt st]
    | 8 => u = v0
    | 9 => OwnI u (zs ++ [i]) X ∧ At' w2 v0 u
    | 10 => u = goInt st
    | _ => True) (fun _ => false) ?_ [7, 9] (by decide) (by decide) (fun k X => GK kb es1 cl1 v0 zs w2 k X) (fun a b => Ch (fun j => j = kb ∨ v0.ownBlock = some j) a b) (fun k X X' hG hb => GK.later hG hb) (fun _ h => h) ?_ ?_ ?_ ?_
  · intro j v x b hj
    cases hj
  · intro ii u X X' hR hb
    match ii, hR with
    | 0, h => exact h
    | 1, h => exact h
    | 2, h => exact h
    | 3, h => exact h
    | 4, h => exact h
    | 5, h => exact h
    | 6, h => exact (by obtain ⟨gi, h1, h2, h3⟩ := h; exact ⟨gi, h1, h2, h3.later hb⟩)
    | 7, h => exact h
    | 8, h => exact h
    | 9, h => exact ⟨h.1.later hb, h.2⟩
    | 10, h => exact h
    | m + 11, h => exact h
  · intro cc ii u X X' hcc hne hanc hR hb
    match ii, hne, hanc, hR with
    | 0, hne, hanc, h => exact h
    | 1, hne, hanc, h => exact h
    | 2, hne, hanc, h => exact h
    | 3, hne, hanc, h => exact h
    | 4, hne, hanc, h => exact h
    | 5, hne, hanc, h => exact h
    | 6, hne, hanc, h => exact (by obtain ⟨gi, h1, h2, h3⟩ := h; exact ⟨gi, h1, h2, h3.ch hb (HS0.out gi h2)⟩)
    | 7, hne, hanc, h => exact h
    | 8, hne, hanc, h => exact h
    | 9, hne, hanc, h => exact absurd hcc (fun q => by
        rcases List.mem_cons.1 q with q | q
        · subst q; exact absurd hanc (by rw [show ancB _ 24 7 9 = true by kernel_rfl]; decide)
        · exact hne (List.mem_singleton.1 q).symm)
    | 10, hne, hanc, h => exact h
    | m + 11, hne, hanc, h => exact h
  · intro ii o hi ho qq X vals kk hG hlo hhi hdep hoth
    have t0 : qq.tmps[0]? = some (.pointer (some ⟨q, 0, none⟩)) := by rw [hoth 0 (by kernel_rfl)]; rfl
    have t1 : qq.tmps[1]? = some (.int .i64 (i : Int)) := by rw [hoth 1 (by kernel_rfl)]; rfl
    have t5 : qq.tmps[5]? = some (.pointer (some ⟨nb, 0, none⟩)) := by rw [hoth 5 (by kernel_rfl)]; rfl
    match ii, hi, ho, hlo, hhi with
    | 0, _, ho, hlo, hhi =>
      simp only [List.getElem?_cons_zero, Option.some.injEq] at ho
      subst ho
      unfold Oper.wp
      simp [execOp, go_sem, t0]
      exact cameDB _ rfl (by decide) (Below.refl _ _) rfl (fun h => absurd h (by decide))
    | 1, _, ho, hlo, hhi =>
      simp only [List.getElem?_cons_succ, List.getElem?_cons_zero, Option.some.injEq] at ho
      subst ho
      obtain ⟨u0, e0⟩ := hdep ⟨0, .data⟩ (by simp) rfl _ 23 rfl rfl
      rw [show vals 0 = .pointer (some ⟨q, 0, none⟩) from e0] at u0
      unfold Oper.wp
      simp [execOp, go_sem, u0]
      exact cameDB _ rfl (by decide) (Below.refl _ _) rfl (fun h => absurd h (by decide))
    | 2, _, ho, hlo, hhi =>
      simp only [List.getElem?_cons_succ, List.getElem?_cons_zero, Option.some.injEq] at ho
      subst ho
      obtain ⟨u1, e1⟩ := hdep ⟨1, .data⟩ (by simp) rfl _ 24 rfl rfl
      rw [show vals 1 = .pointer (some ⟨q, 0, none⟩) from e1] at u1
      unfold Oper.wp
      simp [execOp, go_sem, u1]
      exact cameDB _ rfl (by decide) (Below.refl _ _) rfl (fun h => absurd h (by decide))
    | 3, _, ho, hlo, hhi =>
      simp only [List.getElem?_cons_succ, List.getElem?_cons_zero, Option.some.injEq] at ho
      subst ho
      obtain ⟨u2, e2⟩ := hdep ⟨2, .data⟩ (by simp) rfl _ 25 rfl rfl
      rw [show vals 2 = .pointer (some ⟨q, 9, none⟩) from e2] at u2
      have cc : X.cell? ⟨q, 9, none⟩ = some (.map (some kb)) := (HG0.out X kk hG hhi).1
      unfold Oper.wp
      simp [execOp, go_sem, u2, cc]
      exact cameDB _ rfl (by decide) (Below.refl _ _) rfl (fun h => absurd h (by decide))
    | 4, _, ho, hlo, hhi =>
      simp only [List.getElem?_cons_succ, List.getElem?_cons_zero, Option.some.injEq] at ho
      subst ho
      exact opw_loadNm _ rfl (by simp [Act.eval, t5]) (HG0.out X kk hG hhi).2 (cameDB _ rfl (by decide) (Below.refl _ _) rfl (fun h => absurd h (by decide)))
    | 5, _, ho, hlo, hhi =>
      simp only [List.getElem?_cons_succ, List.getElem?_cons_zero, Option.some.injEq] at ho
      subst ho
      unfold Oper.wp
      simp [execOp, go_sem, t1]
      exact cameDB _ rfl (by decide) (Below.refl _ _) rfl (fun h => absurd h (by decide))
    | 6, _, ho, hlo, hhi =>
      simp only [List.getElem?_cons_succ, List.getElem?_cons_zero, Option.some.injEq] at ho
      subst ho
      obtain ⟨u5, e5⟩ := hdep ⟨5, .data⟩ (by simp) rfl _ 29 rfl rfl
      rw [show vals 5 = .int .i64 (i : Int) from e5] at u5
      unfold Oper.wp
      simp [execOp, go_sem, u5]
      exact cameDB _ rfl (by decide) (below_one _ _) ⟨X.heap.size, rfl, HSZ.out X kk hG, (row_new X _ _).in⟩ (fun h => absurd h (by decide))
    | 7, _, ho, hlo, hhi =>
      simp only [List.getElem?_cons_succ, List.getElem?_cons_zero, Option.some.injEq] at ho
      subst ho
      obtain ⟨u3, e3⟩ := hdep ⟨3, .data⟩ (by simp) rfl _ 26 rfl rfl
      rw [show vals 3 = .map (some kb) from e3] at u3
      obtain ⟨u4, e4⟩ := hdep ⟨4, .data⟩ (by simp) rfl _ 27 rfl rfl
      rw [show vals 4 = .agg (nmc (r : Int) num) from e4] at u4
      obtain rfl : kk = 0 := Nat.le_zero.1 (Nat.le_trans hhi (Nat.le_of_eq (by kernel_rfl)))
      have hb0 : Below w2.heap.size w2 X := hG
      refine opw_entry _ _ rfl (by simp [Act.eval, u3]) (by simp [Act.eval, u4]) (HE.out.2.2.1 X (hb0.block kb HM.out.lt)) ?_
      exact cameDX _ rfl (by decide) ⟨(setB_ch (hb0.block kb HM.out.lt) HM.out _ _).mono (fun s q => .inl (.inl q)), ⟨setB_at (hb0.block kb HM.out.lt) HM.out _ _, (Ch.of hb0).trans ((setB_ch (hb0.block kb HM.out.lt) HM.out _ _).mono (fun s q => .inl (.inl q))), (HE.out.1.later hb0).ch (setB_ch (hb0.block kb HM.out.lt) HM.out _ _) (HV0.out)⟩, by simp [setBlock]⟩ rfl rfl
    | 8, _, ho, hlo, hhi =>
      simp only [List.getElem?_cons_succ, List.getElem?_cons_zero, Option.some.injEq] at ho
      subst ho
      obtain ⟨u7, e7⟩ := hdep ⟨7, .data⟩ (by simp) rfl _ 31 rfl rfl
      rw [show vals 7 = .tuple #[v0, goInt st] from e7] at u7
      unfold Oper.wp
      simp [execOp, go_sem, u7]
      exact cameDB _ rfl (by decide) (Below.refl _ _) rfl (fun h => absurd h (by decide))
    | 9, _, ho, hlo, hhi =>
      simp only [List.getElem?_cons_succ, List.getElem?_cons_zero, Option.some.injEq] at ho
      subst ho
      obtain ⟨u8, e8⟩ := hdep ⟨8, .data⟩ (by simp) rfl _ 28 rfl rfl
      rw [show vals 8 = v0 from e8] at u8
      obtain ⟨u6, e6⟩ := hdep ⟨6, .data⟩ (by simp) rfl _ 30 rfl rfl
      obtain rfl : kk = 1 := Nat.le_antisymm (Nat.le_trans hhi (Nat.le_of_eq (by kernel_rfl))) (Nat.le_trans (Nat.le_of_eq (by kernel_rfl)) hlo)
      obtain ⟨gi, h6, hgi, hci⟩ : ∃ gi, vals 6 = .slice (some ⟨gi, 0, none⟩) 1 1 ∧ w2.heap.size ≤ gi ∧ CsIn gi 0 #[.int .i64 (i : Int)] X := e6
      rw [h6] at u6
      obtain ⟨hk1, hc1, ho1⟩ : G1C kb es1 cl1 v0 zs w2 X := hG
      refine opw_appI _ _ rfl (by simp [Act.eval, u8]) (by simp [Act.eval, u6]) ho1 hci HL.out ?_
      intro v' X' p1 p2 p3
      have hc2 := grown_ch p2
      exact cameDX _ rfl (by decide) ⟨hc2.mono (fun s q => .inl (.inr q)), ⟨(hc2.block kb (Array.getElem?_eq_some_iff.1 hk1).1 (HV1.out)).trans hk1, hc1.trans (hc2.mono (fun s q => .inl (.inr q)))⟩, hc2.size⟩ ⟨p1, fun k hk => (p3 k hk).imp id (fun q => Nat.le_trans hc1.size q)⟩ rfl
    | 10, _, ho, hlo, hhi =>
      simp only [List.getElem?_cons_succ, List.getElem?_cons_zero, Option.some.injEq] at ho
      subst ho
      obtain ⟨u7, e7⟩ := hdep ⟨7, .data⟩ (by simp) rfl _ 31 rfl rfl
      rw [show vals 7 = .tuple #[v0, goInt st] from e7] at u7
      unfold Oper.wp
      simp [execOp, go_sem, u7]
      exact cameDB _ rfl (by decide) (Below.refl _ _) rfl (fun h => absurd h (by decide))
    | m + 11, hi, _, _, _ => exact absurd hi (by omega)
  · intro vals X hGG hR _
    obtain ⟨hk2, hc2⟩ : X.heap[kb]? = some (.map es1 cl1) ∧ Ch (fun j => j = kb ∨ v0.ownBlock = some j) w2 X := hGG
    have e3 : vals 3 = .map (some kb) := hR 3 (by decide)
    obtain ⟨h9, hat9⟩ : OwnI (vals 9) (zs ++ [i]) X ∧ At' w2 v0 (vals 9) := hR 9 (by decide)
    have e10 : vals 10 = goInt st := hR 10 (by decide)
    obtain ⟨u9, hu9⟩ : ∃ u9, vals 9 = u9 := ⟨_, rfl⟩
    rw [hu9] at h9 hat9
    obtain ⟨w5, hrun, hg5, hc5, hr5⟩ := HE.out.2.2.2 X u9 (zs ++ [i]) hk2 hc2 h9 (fun j hj => (hat9 j hj).imp id (fun q => ⟨q, by have := H.out.2.2; omega⟩))
    clear hR h9 hat9
    simp only [List.drop, List.take, putAll, List.setIfInBounds_toArray, List.set_cons_succ, List.set_cons_zero, e3, hu9, e10]
    clear e3 e10 hu9
    have HF := hid_of' (And.intro hg5 (And.intro (hc2.trans (hc5.mono (fun s q => .inl (.inl q)))) hr5))
    clear hg5 hc5 hr5 hk2 hc2
    go_wp2_with (refine wpL_entryStore rfl _ _ _ rfl rfl rfl rfl hrun ?_)
    (try simp only [Exit.inBlock, Exit.then])
    refine bodyPost_ret (results_none rfl _ _ _) rfl ?_
    obtain ⟨z1, z2, z3, z4, z5, z6⟩ := HZ.out
    obtain ⟨hg5, hc6, hr5⟩ := HF.out
    have hc7 : Ch (qS kb q w) w w5 := (Ch.of z2).go (S' := fun j => j = kb ∨ v0.ownBlock = some j) hc6 (fun s q => q.elim (fun e => .inl (.inl e)) (fun e => by
      have h1 := HE.out.2.1 s e
      exact .inl (.inr (.inr (h1.same (z2.block kb H.out.2.1.lt).symm.symm)))))
    refine ⟨⟨_, rfl⟩, f, _, ⟨.inl ⟨r, HR.out.1, HR.out.2, rfl, rfl⟩, z1.ch hc6 (fun e => e.elim z4.1 (fun e => (z3 q e).2 rfl)), ?_, hc7, fun k hk => ?_⟩⟩
    · rw [z5, z6]; exact hg5
    · rcases hr5 k hk with e | e
      · exact .inl (e.same (z2.block kb H.out.2.1.lt).symm.symm)
      · exact .inr (by omega)
end Go.Proofs.YtlkcjbmdeimocaaDoor
