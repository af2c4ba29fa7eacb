
/-
  A Writer in memory, and what its calls change.
-/
import Derived.Test.YthabeapgkaggmaaDoorLnSu
namespace Go.Proofs.YthabeapgkaggmaaDoor
open Go.RowKit
set_option maxRecDepth 100000

/-- A Writer in memory: the bytes that it holds. -/
structure WwAt (b : Nat) (bs : List UInt8) (v : Value) (w : World) : Prop where
  row : RowAt b #[v] 27 w
  own : Rw 5 1 v bs.length (Lib.byteCells bs) w

theorem rw_ne {v : Value} {n b : Nat} {xs : List Value} {cs : Array Value} {w : World} (h : Rw 5 1 v n xs w) (hr : RowAt b cs 27 w) : ∀ k, v.ownBlock = some k → ¬ k = b := fun k hk e => by
  subst e
  rcases h.2 with ⟨rfl, _⟩ | ⟨g, cap, cur, rfl, hg, _⟩
  · cases hk
  · cases hk
    unfold RowAt at hr
    rw [hg] at hr
    simp at hr
theorem WwAt.ne {b : Nat} {bs : List UInt8} {v : Value} {w : World} (h : WwAt b bs v w) : ∀ k, v.ownBlock = some k → ¬ k = b := rw_ne h.own h.row
theorem ww_new (w : World) : WwAt w.heap.size [] (.slice none 0 0) (w.alloc (.cells #[.slice none 0 0] 27)) := ⟨row_new w _ _, Rw.nil _ _ _⟩
theorem WwAt.ch {S : Nat → Prop} {b : Nat} {bs : List UInt8} {v : Value} {w w' : World} (h : WwAt b bs v w) (c : Ch S w w') (hb : ¬ S b) (hv : ∀ k, v.ownBlock = some k → ¬ S k) : WwAt b bs v w' := ⟨h.row.ch c hb, h.own.ch c hv⟩
theorem WwAt.later {b : Nat} {bs : List UInt8} {v : Value} {w w' : World} (h : WwAt b bs v w) (hb : Below w.heap.size w w') : WwAt b bs v w' := ⟨h.row.later hb, h.own.later hb⟩
theorem WwAt.sl {b : Nat} {bs : List UInt8} {v : Value} {w : World} (h : WwAt b bs v w) : SlB w v bs := BsAt.sl (K := fun _ => True) ⟨h.own, fun _ _ => trivial⟩
theorem WwAt.form {b : Nat} {bs : List UInt8} {v : Value} {w : World} (h : WwAt b bs v w) : ∃ a c, v = .slice a bs.length c := by
  obtain ⟨a, c, e, _⟩ := h.own.form
  exact ⟨a, c, e⟩
theorem WwAt.cell {b : Nat} {bs : List UInt8} {v : Value} {w : World} (h : WwAt b bs v w) : w.cell? ⟨b, 0, none⟩ = some v := h.row.cell 0

/-- The blocks of a Writer. -/
def BlW (b : Nat) (v : Value) : Nat → Prop := fun k => k = b ∨ v.ownBlock = some k
theorem blw_go {b : Nat} {v v' : Value} {a c d : World} (h : Ch (BlW b v) a c) (k : Ch (BlW b v') c d) (q : At' a v v') : Ch (BlW b v) a d := h.go k fun s hs => hs.elim (fun e => .inl (.inl e)) (fun e => (q s e).imp .inr id)
/-- What a call leaves that puts bytes behind. -/
def PutW (b : Nat) (bs : List UInt8) (v : Value) (w w' : World) : Prop := ∃ v', WwAt b bs v' w' ∧ At' w v v' ∧ Ch (BlW b v) w w'

theorem so_1 (w : World) (x : Int) : So 1 (.slice (some ⟨w.heap.size, 0, none⟩) 1 1) 1 [.int .u8 x] (w.alloc (.cells #[.int .u8 x] 5)) :=
  ⟨rfl, .inr ⟨_, _, rfl, fun j u hj => by
    match j, hj with
    | 0, hj =>
      cases hj
      rw [Addr.add_lit]
      exact RowAt.cell (row_new w #[.int .u8 x] 5) 0
    | j + 1, hj => simp at hj⟩⟩

/-- The store of a row that has grown. -/
theorem ww_put {b : Nat} {bs bs' : List UInt8} {v v2 : Value} {w w1 w2 : World} (h : WwAt b bs v w) (hB : Below w.heap.size w w1) (q1 : Rw 5 1 v2 bs'.length (Lib.byteCells bs') w2) (q2 : w1.grownBy w2 v.ownBlock) (q3 : At' w1 v v2) :
    w2.cell? ⟨b, 0, none⟩ = some v ∧ w2.frozen? ⟨b, 0, none⟩ = false ∧ PutW b bs' v w (w2.setCell ⟨b, 0, none⟩ v2) := by
  have hr := (h.row.later hB).grow q2 (fun e => h.ne b e rfl)
  refine ⟨hr.cell 0, Lib.frozen_of_heap hr _, v2, ⟨hr.setc 0 v2, q1.ch (S := fun k => k = b) (Ch.set (S := fun k => k = b) (Ch.refl _ _) (p := ⟨b, 0, none⟩) (.inl rfl) v2) (rw_ne q1 hr)⟩, fun k hk => (q3 k hk).imp id (fun q => Nat.le_trans hB.size q), ?_⟩
  exact ((Ch.of (S := BlW b v) hB).grown q2 (fun k hk => .inl (.inr hk))).set (p := ⟨b, 0, none⟩) (.inl (.inl rfl)) v2

theorem byte_grown {v : Value} {bs : List UInt8} {c : UInt8} {w : World} (q : Rw 5 1 v (bs.length + 1) (Lib.byteCells bs ++ [.int .u8 (c.toNat : Int)]) w) : Rw 5 1 v (bs ++ [c]).length (Lib.byteCells (bs ++ [c])) w := by
  rw [List.length_append]
  simpa [Lib.byteCells] using q
set_option maxHeartbeats 1000000 in
theorem byte_ww {b : Nat} {bs : List UInt8} {v : Value} {w : World} (h : WwAt b bs v w) (x : Int) (c : UInt8) (hx : x = (c.toNat : Int)) (hlen : bs.length + 1 ≤ 140737488355328) :
    Calls Tryd.prog 11 #[.pointer (some ⟨b, 0, none⟩), .int .u8 x] w fun e w' => e = .returned (.tuple #[]) ∧ PutW b (bs ++ [c]) v w w' := by
  subst hx
  obtain ⟨i0, hi, hz0, hz1, hz2⟩ := info_parts infoB
  have c0 := h.cell
  obtain ⟨a, k, rfl⟩ := h.form
  have HH := hid_of' (And.intro h hlen)
  have HS := hid_of' (And.intro (h.own.later (below_one _ (.cells #[.int .u8 (c.toNat : Int)] 5))) (so_1 w (c.toNat : Int)))
  clear h hlen
  go_enter Tryd.func11, Tryd.ntmps11
  go_wp2_with (at_builtin; refine wpL_app (P := Tryd.prog) rfl _ _ 25 rfl 5 i0 _ 1 1 Tryd.underlying25 hi hz0 hz1 hz2 rfl rfl rfl HS.out.1 HS.out.2 (fun y hy => by rw [List.mem_singleton] at hy; subst hy; rfl) (by have := HH.out.2; unfold maxLen; omega) (by have := HH.out.2; omega) ?_; intro v2 w2 q1 q2 q3; obtain ⟨va, vc, rfl, _, _⟩ := q1.form; obtain ⟨d1, f1, hp⟩ := ww_put HH.out.1 (below_one _ _) (byte_grown q1) q2 q3; have HP := hid_of' hp; clear q1 q2 q3 hp)
  clear HS
  go_end0
  exact ⟨rfl, HP.out⟩

theorem digit_len (n m : Nat) (pre : List UInt8) (hn : n < 9223372036854775808) (h : pre ++ formN m = formN n) : pre.length + 1 ≤ 9 := by
  have h1 := congrArg List.length h
  have h2 := form_len9 n hn
  have h3 : 1 ≤ (formN m).length := by rw [formN]; split <;> simp
  rw [List.length_append] at h1
  omega
set_option maxHeartbeats 1000000 in
theorem digits_ww {b : Nat} {bs : List UInt8} {v : Value} {w : World} (h : WwAt b bs v w) (n : Nat) (hn : n < 9223372036854775808) (hlen : bs.length + 9 ≤ 140737488355328) :
    Calls Tryd.prog 19 #[.pointer (some ⟨b, 0, none⟩), .int .i64 n] w fun e w' => e = .returned (.tuple #[]) ∧ PutW b (bs ++ formN n) v w w' := by
  have HL := hid_of' (And.intro hlen hn)
  have HH := hid_of' h
  clear h hlen hn
  go_enter Tryd.func19, Tryd.ntmps19
  go_wp2_with fail
  go_loopg [1] n (fun k nv wr => ∃ (m : Nat) (pre : List UInt8) (v' : Value), k = m ∧ nv = .int .i64 (m : Int) ∧ WwAt b (bs ++ pre) v' wr ∧ Hid (pre ++ formN m = formN n ∧ m < 9223372036854775808) ∧ At' w v v' ∧ Ch (BlW b v) w wr)
  case atStart => exact ⟨n, [], v, rfl, rfl, by simpa using HH.out, ⟨by simp, HL.out.2⟩, At'.refl _ _, Ch.refl _ _⟩
  case round =>
    obtain ⟨m, pre, v', hgk, rfl, hW, hA, hq, hb⟩ := hrel
    have HW := hid_of' hW
    have HB := hid_of' (And.intro hq hb)
    clear hW hb hq
    have hpl := digit_len n m pre HL.out.2 hA.out.1
    by_cases hm : m < 128
    · have hm' : ¬ (128 : Int) ≤ (m : Int) := by omega
      have hw8 : IntKind.u8.wrap (m : Int) = (m : Int) := by rw [IntKind.wrap_u8']; omega
      go_wp2_with (go_at_call 11; refine (byte_ww HW.out _ (UInt8.ofNat m) (ofN_small m hm) (by have := HL.out.1; rw [List.length_append]; omega)).mono ?_; rintro e w2 ⟨rfl, v2, hW2, hq2, hb2⟩)
      go_end0
      refine ⟨rfl, v2, ?_, HB.out.1.trans hq2 HB.out.2.size, blw_go HB.out.2 hb2 HB.out.1⟩
      rw [← hA.out.1, form_small hm, ← List.append_assoc]
      exact hW2
    · have hm' : (128 : Int) ≤ (m : Int) := by omega
      have hw := wrap_div m hA.out.2
      go_wp2_with (go_at_call 11; refine (byte_ww HW.out _ (UInt8.ofNat (m % 128 + 128)) (ofN_big m) (by have := HL.out.1; rw [List.length_append]; omega)).mono ?_; rintro e w2 ⟨rfl, v2, hW2, hq2, hb2⟩)
      go_roundg (m / 128)
      case measure => rw [hgk]; exact Nat.div_lt_self (by omega) (by decide)
      case rel =>
        refine ⟨m / 128, pre ++ [UInt8.ofNat (m % 128 + 128)], v2, rfl, congrArg (Value.int .i64 ·) hw, by rw [← List.append_assoc]; exact hW2, ⟨?_, by have := hA.out.2; omega⟩, HB.out.1.trans hq2 HB.out.2.size, blw_go HB.out.2 hb2 HB.out.1⟩
        rw [← hA.out.1, form_big hm, List.append_assoc]; rfl

theorem number_ww {b : Nat} {bs : List UInt8} {v : Value} {w : World} (h : WwAt b bs v w) (n : Int) (h0 : 0 ≤ n) (hn : n ≤ 9223372036854775807) (hlen : bs.length + 9 ≤ 140737488355328) :
    Calls Tryd.prog 8 #[.pointer (some ⟨b, 0, none⟩), .int .i64 n] w fun e w' => e = .returned .nilIface ∧ PutW b (bs ++ formN n.toNat) v w w' := by
  obtain ⟨m, rfl⟩ : ∃ m : Nat, n = (m : Int) := ⟨n.toNat, by omega⟩
  rw [Int.toNat_natCast]
  have HH := hid_of' (And.intro h (And.intro (show m < 9223372036854775808 by omega) hlen))
  have hnn : ¬ (m : Int) < 0 := by omega
  clear h hn hlen h0
  go_enter Tryd.func8, Tryd.ntmps8
  go_wp2_with (go_at_call 19; refine (digits_ww HH.out.1 m HH.out.2.1 HH.out.2.2).mono ?_; rintro e w2 ⟨rfl, hW2⟩)
  go_ret
  exact ⟨rfl, hW2⟩

theorem len_ww {b : Nat} {bs : List UInt8} {v : Value} {w : World} (h : WwAt b bs v w) :
    Calls Tryd.prog 13 #[.pointer (some ⟨b, 0, none⟩)] w fun e w' => e = .returned (.int .i64 bs.length) ∧ w' = w := by
  have c0 := h.cell
  obtain ⟨a, c, rfl⟩ := h.form
  clear h
  go_enter Tryd.func13, Tryd.ntmps13
  go_wp2
  go_ret
  exact ⟨rfl, rfl⟩

theorem bytes_ww {b : Nat} {bs : List UInt8} {v : Value} {w : World} (h : WwAt b bs v w) (hlen : bs.length ≤ 140737488355328) :
    Calls Tryd.prog 14 #[.pointer (some ⟨b, 0, none⟩)] w fun e w' => e = .returned (.slice (some ⟨w.heap.size, 0, none⟩) bs.length bs.length) ∧ w'.heap[w.heap.size]? = some (.cells (Lib.byteCells bs).toArray 5 (0, 0)) ∧ Below w.heap.size w w' := by
  have c0 := h.cell
  have HH := hid_of' (And.intro h.sl hlen)
  clear h hlen
  go_enter Tryd.func14, Tryd.ntmps14
  go_wp2_with (go_at_call 25; refine (copied_any HH.out.1 HH.out.2).mono ?_; rintro e w1 ⟨rfl, hg1, hb1⟩)
  go_ret
  exact ⟨rfl, hg1, hb1⟩

set_option maxHeartbeats 1000000 in
theorem number_neg_ww {ad : Nat → Addr} {b : Nat} {bs : List UInt8} {v : Value} {w : World} (h0 : w.cell? ⟨0, 0, none⟩ = some (rsn ad 0)) (h : WwAt b bs v w) (n : Int) (hn : n < 0) :
    Calls Tryd.prog 8 #[.pointer (some ⟨b, 0, none⟩), .int .i64 n] w fun e w' => e = .returned (refv w.heap.size) ∧ FaultAt ad w.heap.size nmW ⟨#[78, 117, 109, 98, 101, 114]⟩ (bs.length : Int) 0 w' ∧ w'.heap.size = w.heap.size + 1 ∧ Below w.heap.size w w' := by
  have HH : Hid (∀ n, WwAt b bs v (w.drewN n)) := fun n => h.later (below_drewN w n)
  clear h
  go_enter Tryd.func8, Tryd.ntmps8
  go_wp2_with fail
  go_region_with (first | (go_at_call 13; refine (len_ww (HH.out 1)).mono ?_; rintro e w2 ⟨rfl, rfl⟩) | (go_at_call 18; refine (new_wire _ bs.length _ _ _).mono ?_; rintro e w2 ⟨rfl, rfl⟩))
  all_goals go_wp2
  all_goals go_ret
  all_goals exact ⟨rfl, heap_alloc_last w _ _, by simp, ((Below.refl _ w).alloc (Nat.le_refl _) _).drew⟩

theorem run_appT {P : Program} (w : World) (t u ty e : TypeId) (i : TypeInfo) (ht : P.underlying t = some (.slice e)) (hut : P.underlying u = some .string) (hi : P.info? e = some i) (hz : i.zero = some (.int .u8 0))
    (hsize : i.size = 1) (hby : i.bytes = 1) {v : Value} {n : Nat} {xs : List Value} (hv : Rw e 1 v n xs w) (s : ByteArray) (h63 : n + s.size ≤ maxLen) (hbytes : n + s.size ≤ 140737488355328) :
    ∃ v' w', (Builtin.append_ #[t, u] ty #[v, .string s]).run P w = .ok v' w' ∧ Rw e 1 v' (n + s.size) (xs ++ Lib.strCells s) w' ∧ w.grownBy w' v.ownBlock ∧ At' w v v' := by
  have hsmall : n + s.size ≤ 9223372036854775807 := by simp only [maxLen] at h63; omega
  have hxl : xs.length = n := by simpa using hv.1
  have hlen : (xs ++ Lib.strCells s).length = (n + s.size) * 1 := by rw [List.length_append, hxl, Lib.strCells_length, Nat.mul_one]
  have grown : ∀ (old : Nat) (row : Option Nat),
      Rw e 1 (.slice (some ⟨w.heap.size, 0, none⟩) (n + s.size) (grownCap w (n + s.size) old e)) (n + s.size) (xs ++ Lib.strCells s) (w.drew.alloc (.cells (xs.toArray ++ (Lib.strCells s).toArray ++ Builtin.zeroCells (Value.int .u8 0).cells (grownCap w (n + s.size) old e - (n + s.size))) e)) ∧
      w.grownBy (w.drew.alloc (.cells (xs.toArray ++ (Lib.strCells s).toArray ++ Builtin.zeroCells (Value.int .u8 0).cells (grownCap w (n + s.size) old e - (n + s.size))) e)) row := by
    intro old row
    have hge := grownCap_ge w (n + s.size) old e
    have hcm : grownCap w (n + s.size) old e ≤ maxLen := grownCap_le_maxLen w (n + s.size) old e h63
    refine ⟨⟨hlen, .inr ⟨w.heap.size, _, _, rfl, heap_alloc_new w.drew _, hge, hcm, ?_, ?_⟩⟩, ⟨rfl, rfl, rfl, by simp, fun k hk _ => heap_alloc_old w.drew _ hk⟩⟩
    · have hz1 : (Value.int IntKind.u8 0).cells.size = 1 := rfl
      simp only [Array.size_append, List.size_toArray, size_zeroCells, hz1, hxl, Lib.strCells_length]
      omega
    · simp only [Array.toList_append, List.append_assoc]
      rw [← List.append_assoc, ← hlen]
      exact List.take_left
  rcases hv.2 with ⟨rfl, rfl⟩ | ⟨g, cap, cur, rfl, hg, hnc, hcm, hcs, htake⟩
  · have hx : xs = [] := List.eq_nil_of_length_eq_zero hxl
    subst hx
    by_cases hm : s.size = 0
    · have hn : Lib.strCells s = [] := List.eq_nil_of_length_eq_zero (by rw [Lib.strCells_length]; exact hm)
      refine ⟨.slice none 0 0, w, ?_, by rw [hm, hn]; exact Rw.nil _ _ _, ⟨rfl, rfl, rfl, Nat.le_refl _, fun _ _ _ => rfl⟩, At'.refl _ _⟩
      have hf := Lib.run_firstCells_string (P := P) w 1 s
      rw [hm] at hf
      simp [Builtin.append_, run_underlying ht, run_underlying hut, sizeOf, typeInfo, hi, hsize, Builtin.lenOf, hm, hf]
    · have hr := run_append_nil_string (P := P) w t u ty e i (.int .u8 0) ht hut hi hz s (by omega) (by omega) (by rw [hby]; omega)
      have hgr := grown 0 (Value.ownBlock (.slice none 0 0))
      simp only [Nat.zero_add, List.nil_append, Array.empty_append] at hgr ⊢
      have e1 : (s.data.map fun b => Value.int .u8 b.toNat) = (Lib.strCells s).toArray := by
        apply Array.ext'
        simp [Lib.strCells]
      rw [e1] at hr
      exact ⟨_, _, hr, hgr.1, hgr.2, fun k hk => .inr (by cases hk; exact Nat.le_refl _)⟩
  · by_cases hroom : n + s.size ≤ cap
    · have hcs' : cap ≤ cur.size := by simpa using hcs
      have hr := Lib.run_append_room_string (P := P) (w := w) t u ty e i ht hut hi hsize g n cap cur hg s hroom (by omega)
      refine ⟨_, _, hr, ⟨hlen, .inr ⟨g, cap, _, rfl, setRow_heap w g cur _ e _ hg, hroom, hcm, ?_, ?_⟩⟩, ⟨rfl, rfl, rfl, by simp, fun k _ hk => setRow_other w g k _ (fun e => hk (by simp [Value.ownBlock, e]))⟩, fun k hk => .inl hk⟩
      · simp only [List.size_toArray, List.length_append, List.length_take, List.length_drop, Array.length_toList, Lib.strCells_length]
        omega
      · have ht' : cur.toList.take n = xs := by simpa using htake
        rw [ht', ← hlen]
        exact List.take_left
    · have holds : ∀ j u, xs[j]? = some u → w.cell? ((⟨g, 0, none⟩ : Addr).add j) = some u := fun j u hj => by rw [Addr.add_lit]; exact hv.cells j u hj
      have hr := Lib.run_append_grow_string (P := P) (w := w) t u ty e i (.int .u8 0) ht hut hi hz ⟨g, 0, none⟩ n cap xs (by rw [hsize]; simpa using hxl) holds s (by omega) (by omega) (by rw [hby]; exact growslice_fits (by omega) (by omega))
      have hgr := grown cap (Value.ownBlock (.slice (some ⟨g, 0, none⟩) n cap))
      exact ⟨_, _, hr, hgr.1, hgr.2, fun k hk => .inr (by cases hk; exact Nat.le_refl _)⟩
/-- append of a text, in a walk. -/
theorem wpL_appT {ops : Array Oper} {rest : List Oper} {o : Oper} {A : Act} {w : World} {Q : Exit → Act → World → Prop} (hgd : o.guard = none) (sl x : Operand) (ho : o.op = .call { callee := .builtin .append, args := #[sl, x], argTypes := #[25, 9] }) (_hty : o.type = 25)
    {v : Value} {n : Nat} {xs : List Value} (hs : A.eval sl = v) {s : ByteArray} (hx : A.eval x = .string s) (hv : Rw 5 1 v n xs w) (hbytes : n + s.size ≤ 140737488355328)
    (k : ∀ v' w', Rw 5 1 v' (n + s.size) (xs ++ Lib.strCells s) w' → w.grownBy w' v.ownBlock → At' w v v' → wpList Tryd.prog ops Q rest (A.put o.dst v') w') : wpList Tryd.prog ops Q (o :: rest) A w := by
  obtain ⟨i0, hi, hz0, hz1, hz2⟩ := info_parts infoB
  refine wpList_plain hgd fun _ hK => ?_
  obtain ⟨v', w', hr, h2, h3, h4⟩ := run_appT (P := Tryd.prog) w 25 9 o.type 5 i0 Tryd.underlying25 Tryd.underlying9 hi hz0 hz1 hz2 hv s (by unfold maxLen; omega) hbytes
  unfold Oper.wp execOp
  simp only [ho, resolve, invoke, builtin, Sem.run_bind, Sem.run_pure, Result.andThen_ok, List.map_toArray, List.map_cons, List.map_nil, hs, hx, hr]
  exact hK _ _ (k v' w' h2 h3 h4)
theorem cells_app (l : List UInt8) (s : ByteArray) : Lib.byteCells l ++ Lib.strCells s = Lib.byteCells (l ++ s.data.toList) := by
  simp [Lib.byteCells, Lib.strCells]
theorem size_list (s : ByteArray) : s.data.toList.length = s.size := by rw [Array.length_toList]; rfl

theorem text_grown {v : Value} {m bs f : List UInt8} {s : ByteArray} {w : World} (hm : m = bs ++ f) (q : Rw 5 1 v (m.length + s.size) (Lib.byteCells m ++ Lib.strCells s) w) : Rw 5 1 v (bs ++ (f ++ s.data.toList)).length (Lib.byteCells (bs ++ (f ++ s.data.toList))) w := by
  subst hm
  have e : (bs ++ (f ++ s.data.toList)).length = (bs ++ f).length + s.size := by rw [← List.append_assoc, List.length_append, size_list]
  rw [e, ← List.append_assoc, ← cells_app]
  exact q
theorem putW_go {b : Nat} {bs : List UInt8} {v v2 : Value} {w w2 w3 : World} (q : At' w v v2) (h : Ch (BlW b v) w w2) (p : PutW b bs v2 w2 w3) : PutW b bs v w w3 := by
  obtain ⟨v4, h4, h5, h6⟩ := p
  exact ⟨v4, h4, q.trans h5 h.size, blw_go h h6 q⟩
set_option maxHeartbeats 1000000 in
theorem text_ww {b : Nat} {bs : List UInt8} {v : Value} {w : World} (h : WwAt b bs v w) (s : ByteArray) (hlen : bs.length + 9 + s.size ≤ 140737488355328) :
    Calls Tryd.prog 10 #[.pointer (some ⟨b, 0, none⟩), .string s] w fun e w' => e = .returned .nilIface ∧ PutW b (bs ++ (formN s.size ++ s.data.toList)) v w w' := by
  obtain ⟨i0, hi, hz0, hz1, hz2⟩ := info_parts infoB
  have hfl := form_len9 s.size (by omega)
  have HH := hid_of' (And.intro h (And.intro hlen hfl))
  clear h hlen hfl
  go_enter Tryd.func10, Tryd.ntmps10
  go_wp2_with (first
    | (go_at_call 19; refine (digits_ww HH.out.1 s.size (by have := HH.out.2.1; omega) (by have := HH.out.2.1; omega)).mono ?_; rintro e w2 ⟨rfl, v2, hW2, hq2, hb2⟩; obtain ⟨m, hm⟩ : ∃ m, m = bs ++ formN s.size := ⟨_, rfl⟩; rw [← hm] at hW2; have c0 := hW2.cell; obtain ⟨a, k, rfl⟩ := hW2.form; have HO := hid_of' (And.intro hW2.own (And.intro (show m.length + s.size ≤ 140737488355328 by have := HH.out; rw [hm, List.length_append]; omega) hm)); clear hm)
    | (at_builtin; refine wpL_appT rfl _ _ rfl rfl rfl rfl HO.out.1 HO.out.2.1 ?_; intro v3 w3 q1 q2 q3; obtain ⟨va, vc, rfl, _, _⟩ := q1.form; obtain ⟨d1, f1, hp⟩ := ww_put hW2 (Below.refl _ _) (text_grown HO.out.2.2 q1) q2 q3; have HP := hid_of' (putW_go hq2 hb2 hp); clear q1 q2 q3 hp))
  go_ret
  exact ⟨rfl, HP.out⟩
end Go.Proofs.YthabeapgkaggmaaDoor
