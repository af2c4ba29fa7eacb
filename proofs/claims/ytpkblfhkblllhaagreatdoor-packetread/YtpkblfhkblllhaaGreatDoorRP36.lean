
/-
  barrowref02.Reader: what is refused stays; no, Number, Left. barrowref02.Reader: Number.
-/
import Derived.Test.YtpkblfhkblllhaaGreatDoorRP35
import Derived.Deep.MidRow
import Derived.Test.YtpkblfhkblllhaaGreatDoorRP24
namespace Go.Proofs.YtpkblfhkblllhaaGreatDoor
open Go.RowKit
set_option maxRecDepth 100000

/-- The cells of an operation, an act, a round, rounds, a message. -/
theorem kept_setRowQ (g : Nat) (cs : Array Value) (w : World) : Kept [g] w (w.setRow g cs) := ⟨rfl, rfl, rfl, by simp, fun k _ hn => setRow_other _ _ _ _ (by simpa using hn)⟩
theorem there_row {b : Nat} {cs : Array Value} {t : TypeId} {w : World} (h : RowAt b cs t w) {o n : Nat} (hn : o + n ≤ cs.size) : w.there b o n := fun j hj => by
  refine ⟨?_, Lib.frozen_of_heap h _⟩
  rw [cell_of_row w b _ cs t (0, 0) h, Array.getElem?_eq_getElem (by omega)]
  rfl
section
variable {ops : Array Oper} {rest : List Oper} {o : Oper} {a : Act} {w : World} {Q : Exit → Act → World → Prop}
theorem wpL_ldNo (hgd : o.guard = none) (x : Operand) (ho : o.op = .load 37 x) {b off : Nat} (hx : a.eval x = .pointer (some ⟨b, off, none⟩)) {n0 n1 n2 : Value} (h : CsIn b off #[n0, n1, n2] w)
    (k : wpList Tryz.prog ops Q rest (a.put o.dst (.agg #[n0, n1, n2])) w) : wpList Tryz.prog ops Q (o :: rest) a w :=
  wpList_plain hgd fun _ hK => by
    unfold Oper.wp execOp
    simp only [ho, hx, Instr.loadAt, Instr.sureAddr, Sem.run_bind, Sem.run_pure, Result.andThen_ok, run_loadVar_in h Tryz.underlying37 rfl no_size]
    exact hK _ _ k
theorem opw_ldNo {K : Act → World → Prop} (x : Operand) (ho : o.op = .load 37 x) {b off : Nat} (hx : a.eval x = .pointer (some ⟨b, off, none⟩)) {n0 n1 n2 : Value} (h : CsIn b off #[n0, n1, n2] w)
    (k : K (a.put o.dst (.agg #[n0, n1, n2])) w) : o.wp Tryz.prog a w K Q := by
  unfold Oper.wp execOp
  simp only [ho, hx, Instr.loadAt, Instr.sureAddr, Sem.run_bind, Sem.run_pure, Result.andThen_ok, run_loadVar_in h Tryz.underlying37 rfl no_size]
  exact k
theorem wpL_stNo (hgd : o.guard = none) (x y : Operand) (ho : o.op = .store 37 x y) {g : Nat} (hx : a.eval x = .pointer (some ⟨g, 0, none⟩)) {n0 n1 n2 : Value} (hy : a.eval y = .agg #[n0, n1, n2]) (h1 : #[n0, n1, n2].all (·.oneCell') = true) {c0 c1 c2 : Value} (h : RowAt g #[c0, c1, c2] 37 w)
    (k : wpList Tryz.prog ops Q rest (a.put o.dst undef) (w.setRow g #[n0, n1, n2])) : wpList Tryz.prog ops Q (o :: rest) a w :=
  wpList_store_row hgd _ x y ho g #[n0, n1, n2] hx hy _ _ h no_size rfl h1 k
end
/-- What has been refused, as the Reader keeps it. -/
abbrev nmW : ByteArray := ⟨#[119, 105, 114, 101]⟩
def NoSt (w : World) (n0 n1 n2 : Value) : Option (ByteArray × Nat × Nat) → Prop
  | none => n0 = .int .i64 0 ∧ n1 = .slice none 0 0 ∧ n2 = .slice none 0 0
  | some (ca, p, c) => ∃ g g', n0 = .int .i64 ((c : Int) + 1) ∧ n1 = .slice (some ⟨g', 0, none⟩) 1 1 ∧ n2 = .slice (some ⟨g, 0, none⟩) 1 1 ∧ RowAt g' #[.string nmW, .string ca, .int .i64 (p : Int)] 105 w ∧ RowAt g #[.int .i64 ((c : Int) + 1)] 3 w
theorem NoSt.one {w : World} {n0 n1 n2 : Value} {st : Option (ByteArray × Nat × Nat)} (h : NoSt w n0 n1 n2 st) : #[n0, n1, n2].all (·.oneCell') = true := by
  match st, h with
  | none, h => obtain ⟨rfl, rfl, rfl⟩ := h; simp [Value.oneCell']
  | some (_, _, _), h => obtain ⟨_, _, rfl, rfl, rfl, _⟩ := h; simp [Value.oneCell']
/-- The Reader and what it has refused. -/
structure XsAt (xb : Nat) (v : Value) (bs : List UInt8) (pl : Nat) (st : Option (ByteArray × Nat × Nat)) (n0 n1 n2 : Value) (w : World) : Prop where
  at_ : XrAt xb v bs pl n0 n1 n2 w
  no : NoSt w n0 n1 n2 st
  ap : ∀ g o n c, v = .slice (some ⟨g, o, none⟩) n c → 0 < n → g ≠ xb
theorem SlB.keptX {S : List Nat} {w w' : World} {v : Value} {bs : List UInt8} (h : SlB w v bs) (k : Kept S w w') (hS : ∀ g o n c, v = .slice (some ⟨g, o, none⟩) n c → 0 < n → g ∉ S) : SlB w' v bs := by
  rcases h with h | ⟨g, o, c, rfl, hg, hc⟩
  · exact .inl h
  · exact .inr ⟨g, o, c, rfl, Nat.lt_of_lt_of_le hg k.size, fun i b hb => by rw [World.cell?_of_block (w := w) (k.block g hg (hS _ _ _ _ rfl (Nat.lt_of_le_of_lt (Nat.zero_le _) (List.getElem?_eq_some_iff.1 hb).1)))]; exact hc i b hb⟩
theorem NoSt.keptX {xb : Nat} {w w' : World} {n0 n1 n2 : Value} {st : Option (ByteArray × Nat × Nat)} (h : NoSt w n0 n1 n2 st) (k : Kept [xb] w w') (hx : ∀ g, n1 = .slice (some ⟨g, 0, none⟩) 1 1 ∨ n2 = .slice (some ⟨g, 0, none⟩) 1 1 → g ≠ xb) : NoSt w' n0 n1 n2 st := by
  match st, h with
  | none, h => exact h
  | some (_, _, _), ⟨g, g', h0, h1, h2, h3, h4⟩ => exact ⟨g, g', h0, h1, h2, h3.kept k (by simpa using hx g' (.inl h1)), h4.kept k (by simpa using hx g (.inr h2))⟩
theorem NoSt.later {w w' : World} {n0 n1 n2 : Value} {st : Option (ByteArray × Nat × Nat)} (h : NoSt w n0 n1 n2 st) (hb : Below w.heap.size w w') : NoSt w' n0 n1 n2 st := by
  match st, h with
  | none, h => exact h
  | some (_, _, _), ⟨g, g', h0, h1, h2, h3, h4⟩ => exact ⟨g, g', h0, h1, h2, h3.later hb, h4.later hb⟩
theorem SlB.laterX {w w' : World} {v : Value} {bs : List UInt8} (h : SlB w v bs) (hb : Below w.heap.size w w') : SlB w' v bs := h.keptX (S := []) (.of hb) (fun _ _ _ _ _ _ => by simp)
theorem XsAt.later {xb : Nat} {v n0 n1 n2 : Value} {bs : List UInt8} {pl : Nat} {st : Option (ByteArray × Nat × Nat)} {w w' : World} (h : XsAt xb v bs pl st n0 n1 n2 w) (hb : Below w.heap.size w w') : XsAt xb v bs pl st n0 n1 n2 w' :=
  ⟨⟨h.at_.row.later hb, h.at_.raw.laterX hb, h.at_.le, h.at_.lim⟩, h.no.later hb, h.ap⟩
theorem results_no1 {fn : Func} {u : Tmp} {tmps : Array Value} {w : World} {g : Nat} {n0 n1 n2 : Value} (h : fn.results = #[.cell u 37]) (hp : tmps.getD u undef = .pointer (some ⟨g, 0, none⟩)) (hg : RowAt g #[n0, n1, n2] 37 w) :
    (results fn tmps).run Tryz.prog w = .ok (.agg #[n0, n1, n2]) w := by
  have hp' : tmps[u]?.getD undef = .pointer (some ⟨g, 0, none⟩) := by simpa using hp
  simp [results, h, hp', asAddr, run_loadVar_row w g _ _ _ _ _ hg Tryz.underlying37 rfl no_size]
theorem results_no2 {fn : Func} {p u : Tmp} {tmps : Array Value} {w : World} {g : Nat} {n0 n1 n2 : Value} (h : fn.results = #[.tmp p, .cell u 37]) (hp : tmps.getD u undef = .pointer (some ⟨g, 0, none⟩)) (hg : RowAt g #[n0, n1, n2] 37 w) :
    (results fn tmps).run Tryz.prog w = .ok (.tuple #[tmps.getD p undef, .agg #[n0, n1, n2]]) w := by
  have hp' : tmps[u]?.getD undef = .pointer (some ⟨g, 0, none⟩) := by simpa using hp
  simp [results, h, hp', asAddr, run_loadVar_row w g _ _ _ _ _ hg Tryz.underlying37 rfl no_size]
abbrev zNo : Array Value := #[.int .i64 0, .slice none 0 0, .slice none 0 0]

set_option maxHeartbeats 2000000 in
theorem refno_any {xb : Nat} {v n0 n1 n2 : Value} {bs : List UInt8} {pl : Nat} {st : Option (ByteArray × Nat × Nat)} {w : World} (h : XsAt xb v bs pl st n0 n1 n2 w) (ca : ByteArray) (c : Nat) :
    Calls Tryz.prog 60 #[.pointer (some ⟨xb, 0, none⟩), .string ca, .int .i64 ((c : Int) + 1)] w fun e w' => ∃ m0 m1 m2, e = .returned (.agg #[m0, m1, m2]) ∧ XsAt xb v bs pl (some (ca, pl, c)) m0 m1 m2 w' ∧ Kept [xb] w w' := by
  have hx := h.at_.row.lt
  have HRaw := hid_of' h.at_.raw
  have r0 := RowAt.new w zNo 37
  have hB := below_one w (.cells zNo 37)
  have H1 := hid_of' (h.later hB)
  have c1 : (w.alloc (.cells zNo 37)).cell? ⟨xb, 1, none⟩ = some (.int .i64 (pl : Int)) := by rw [H1.out.at_.row.cell]; rfl
  have hc : (((c : Int) + 1) == 0) = false := by rw [beq_eq_false_iff_ne]; omega
  have HS := hid_of' (say_any nmW ca (pl : Int) ((c : Int) + 1) (w.alloc (.cells zNo 37)) hc)
  have hpl : place (pl : Int) = (pl : Int) := by unfold place; rw [if_neg (by omega)]
  clear h hc
  go_enter Tryz.func60, Tryz.ntmps60
  go_upto_region 2 with (first | (go_at_call 40; refine HS.out.mono ?_; rintro e w2 ⟨g, g', rfl, hg', hg, hcs', hcs, hb2⟩; have q1 := H1.out.at_.row.later hb2) | (refine wpList_store_mid rfl _ _ _ rfl _ _ _ rfl rfl (there_row q1 (by simp)) no_size (by simp [Value.oneCell']) ?_))
  have hp2 : putA #[v, .int .i64 (pl : Int), n0, n1, n2] 2 [.int .i64 ((c : Int) + 1), .slice (some ⟨g', 0, none⟩) 1 1, .slice (some ⟨g, 0, none⟩) 1 1] = #[v, .int .i64 (pl : Int), .int .i64 ((c : Int) + 1), .slice (some ⟨g', 0, none⟩) 1 1, .slice (some ⟨g, 0, none⟩) 1 1] := rfl
  have q2 := heap_setCells [.int .i64 ((c : Int) + 1), .slice (some ⟨g', 0, none⟩) 1 1, .slice (some ⟨g, 0, none⟩) 1 1] 2 _ _ q1
  rw [hp2] at q2
  have ks := kept_setCells (g := xb) [.int .i64 ((c : Int) + 1), .slice (some ⟨g', 0, none⟩) 1 1, .slice (some ⟨g, 0, none⟩) 1 1] 2 w2
  have hg1 : w.heap.size + 1 ≤ g := by simpa using hg
  have hg2 : w.heap.size + 1 ≤ g' := by simpa using hg'
  have kw : Kept [xb] w w2 := (Kept.of hB).go (S' := []) (.of hb2) (by simp)
  have s3 : NoSt (w2.setCells xb 2 [.int .i64 ((c : Int) + 1), .slice (some ⟨g', 0, none⟩) 1 1, .slice (some ⟨g, 0, none⟩) 1 1]) (.int .i64 ((c : Int) + 1)) (.slice (some ⟨g', 0, none⟩) 1 1) (.slice (some ⟨g, 0, none⟩) 1 1) (some (ca, pl, c)) :=
    ⟨g, g', rfl, rfl, rfl, by rw [hpl] at hcs'; exact hcs'.kept ks (by simp; omega), hcs.kept ks (by simp; omega)⟩
  have r3 := (r0.later hb2).kept ks (by simp; omega)
  have kx := kw.trans ks
  have hne : w.heap.size ≠ xb := by omega
  try simp only [Act.put]
  clear q1 hcs hcs' hb2 ks kw hB r0 c1 HS hg hg' hp2
  generalize w2.setCells xb 2 [.int .i64 ((c : Int) + 1), .slice (some ⟨g', 0, none⟩) 1 1, .slice (some ⟨g, 0, none⟩) 1 1] = w3 at *
  have q2i : CsIn xb 2 #[.int .i64 ((c : Int) + 1), .slice (some ⟨g', 0, none⟩) 1 1, .slice (some ⟨g, 0, none⟩) 1 1] w3 := by
    have := (RowAt.in q2).sub 2 (ds := #[.int .i64 ((c : Int) + 1), .slice (some ⟨g', 0, none⟩) 1 1, .slice (some ⟨g, 0, none⟩) 1 1]) (fun j x hx => by
      match j with
      | 0 => exact hx
      | 1 => exact hx
      | 2 => exact hx
      | j + 3 => simp at hx)
    simpa using this
  go_wp2_with (first | (refine wpL_ldNo rfl _ rfl rfl q2i ?_) | (refine wpL_stNo rfl _ _ rfl rfl rfl (by simp [Value.oneCell']) r3 ?_))
  refine bodyPost_ret (results_no1 (fn := Tryz.f60) (u := 6) rfl rfl (setRow_heap _ _ _ _ _ _ r3)) rfl ?_
  have k4 := kept_setRowQ w.heap.size #[.int .i64 ((c : Int) + 1), .slice (some ⟨g', 0, none⟩) 1 1, .slice (some ⟨g, 0, none⟩) 1 1] w3
  have kf := kx.go k4 (by simp)
  refine ⟨_, _, _, rfl, ⟨⟨RowAt.kept q2 k4 (by simp; omega), HRaw.out.keptX kf (fun g o n c h => by simpa using H1.out.ap g o n c h), H1.out.at_.le, H1.out.at_.lim⟩, s3.keptX (xb := w.heap.size) k4 (fun g1 h => ?_), H1.out.ap⟩, kf⟩
  rcases h with h | h
  · simp at h; omega
  · simp at h; omega
end Go.Proofs.YtpkblfhkblllhaaGreatDoor
namespace Go.Proofs.YtpkblfhkblllhaaGreatDoor
open Go.RowKit
set_option maxRecDepth 100000

theorem XsAt.noIn {xb : Nat} {v n0 n1 n2 : Value} {bs : List UInt8} {pl : Nat} {st : Option (ByteArray × Nat × Nat)} {w : World} (h : XsAt xb v bs pl st n0 n1 n2 w) : CsIn xb 2 #[n0, n1, n2] w := by
  have := (RowAt.in h.at_.row).sub 2 (ds := #[n0, n1, n2]) (fun j x hx => by
    match j with
    | 0 => exact hx
    | 1 => exact hx
    | 2 => exact hx
    | j + 3 => simp at hx)
  simpa using this
theorem NoSt.ne {w : World} {n0 n1 n2 : Value} {ca : ByteArray} {p c b : Nat} (h : NoSt w n0 n1 n2 (some (ca, p, c))) (r : RowAt b zNo 37 w) : ∀ g, n1 = .slice (some ⟨g, 0, none⟩) 1 1 ∨ n2 = .slice (some ⟨g, 0, none⟩) 1 1 → g ≠ b := by
  obtain ⟨g, g', _, h1, h2, h3, h4⟩ := h
  have c0 : w.cell? ⟨b, 0, none⟩ = some (.int .i64 0) := by rw [r.cell]; rfl
  rintro x (hx | hx) rfl
  · rw [h1] at hx
    simp only [Value.slice.injEq, Option.some.injEq, Addr.mk.injEq, and_true] at hx
    obtain rfl := hx
    have := (RowAt.in h3).2 0 _ rfl
    rw [Nat.zero_add, c0] at this
    cases this
  · rw [h2] at hx
    simp only [Value.slice.injEq, Option.some.injEq, Addr.mk.injEq, and_true] at hx
    obtain rfl := hx
    have := (RowAt.in h4).2 0 _ rfl
    rw [Nat.zero_add, c0] at this
    have e := Option.some.inj this
    injection e with _ e2
    omega
/-- The place goes on. -/
theorem XsAt.goOn {xb : Nat} {v : Value} {bs : List UInt8} {pl q : Nat} {w : World} (h : XsAt xb v bs pl none (.int .i64 0) (.slice none 0 0) (.slice none 0 0) w) (hq : q ≤ bs.length) : XsAt xb v bs q none (.int .i64 0) (.slice none 0 0) (.slice none 0 0) (w.setCell ⟨xb, 1, none⟩ (.int .i64 (q : Int))) ∧ Kept [xb] w (w.setCell ⟨xb, 1, none⟩ (.int .i64 (q : Int))) := by
  have k : Kept [xb] w (w.setCell ⟨xb, 1, none⟩ (.int .i64 (q : Int))) := (Kept.refl _ w).set (p := ⟨xb, 1, none⟩) (.inl (by simp)) _
  exact ⟨⟨⟨heap_setCell_at h.at_.row 1 (.int .i64 (q : Int)), h.at_.raw.keptX k (fun g o n c e => by simpa using h.ap g o n c e), hq, h.at_.lim⟩, ⟨rfl, rfl, rfl⟩, h.ap⟩, k⟩
/-- Behind a call that has made its result anew. -/
theorem XsAt.res {xb b : Nat} {v n0 n1 n2 : Value} {bs : List UInt8} {pl : Nat} {st : Option (ByteArray × Nat × Nat)} {w0 w : World} {ms : Array Value} (h : XsAt xb v bs pl st n0 n1 n2 w) (hb : w0.heap.size ≤ b) (hraw : SlB w0 v bs) (hx : xb < w0.heap.size) (hk : Kept [xb] w0 w) (hg : ∀ g, n1 = .slice (some ⟨g, 0, none⟩) 1 1 ∨ n2 = .slice (some ⟨g, 0, none⟩) 1 1 → g ≠ b) : XsAt xb v bs pl st n0 n1 n2 (w.setRow b ms) ∧ Kept [xb] w0 (w.setRow b ms) := by
  have k := kept_setRowQ b ms w
  have kf := hk.go k (by simpa using Or.inr hb)
  exact ⟨⟨⟨RowAt.kept h.at_.row k (by simp; omega), hraw.keptX kf (fun g o n c e => by simpa using h.ap g o n c e), h.at_.le, h.at_.lim⟩, h.no.keptX k hg, h.ap⟩, kf⟩

set_option maxHeartbeats 2000000 in
theorem refNumber_broken {xb : Nat} {v n0 n1 n2 : Value} {bs : List UInt8} {pl p c : Nat} {ca : ByteArray} {w : World} (h : XsAt xb v bs pl (some (ca, p, c)) n0 n1 n2 w) (most : Int) :
    Calls Tryz.prog 37 #[.pointer (some ⟨xb, 0, none⟩), .int .i64 most] w fun e w' => e = .returned (.tuple #[.int .i64 0, .agg #[n0, n1, n2]]) ∧ XsAt xb v bs pl (some (ca, p, c)) n0 n1 n2 w' ∧ Kept [xb] w w' := by
  have r0 := RowAt.new w zNo 37
  have hB := below_one w (.cells zNo 37)
  have H := hid_of' h
  have H1 := hid_of' (h.later hB)
  have HN := hid_of' (XsAt.noIn H1.out)
  have hc : (((c : Int) + 1) == 0) = false := by rw [beq_eq_false_iff_ne]; omega
  have c2 : (w.alloc (.cells zNo 37)).cell? ⟨xb, 2, none⟩ = some (.int .i64 ((c : Int) + 1)) := by
    rw [H1.out.at_.row.cell]
    obtain ⟨g, g', e0, _⟩ := h.no
    rw [e0]; rfl
  clear h
  go_enter Tryz.func37, Tryz.ntmps37
  go_upto_region 2 with fail
  refine wp_region_tail 5 (by kernel_rfl) (fun _ => none) (by kernel_rfl) (by kernel_rfl) (by decide) (fun i v x => match i with
    | 0 => v = .pointer (some ⟨xb, 0, none⟩)
    | 1 => v = .pointer (some ⟨xb, 0, none⟩)
    | 2 => v = .pointer (some ⟨xb, 2, none⟩)
    | 3 => v = .agg #[n0, n1, n2]
    | 4 => v = .int .i64 0
    | _ => True) (fun _ => false) (fun _ _ _ _ h => by cases h) ?_ ?_ ?_
  · intro i v x x' hR hb
    match i, hR with
    | 0, h => exact h
    | 1, h => exact h
    | 2, h => exact h
    | 3, h => exact h
    | 4, h => exact h
    | m + 5, h => exact h
  · intro i o hi ho q x vals hX hdep hoth
    have t0 : q.tmps[0]? = some (.pointer (some ⟨xb, 0, none⟩)) := by rw [hoth 0 (by kernel_rfl)]; rfl
    match i, hi, ho with
    | 0, _, ho =>
      simp only [List.getElem?_cons_zero, Option.some.injEq] at ho
      subst ho
      unfold Oper.wp
      simp [execOp, go_sem, t0]
      exact came _ rfl (Below.refl _ _) rfl (fun h => absurd h (by decide))
    | 1, _, ho =>
      simp only [List.getElem?_cons_succ, List.getElem?_cons_zero, Option.some.injEq] at ho
      subst ho
      obtain ⟨u0, e0⟩ := hdep ⟨0, .data⟩ (by simp) rfl _ 15 rfl rfl
      rw [show vals 0 = .pointer (some ⟨xb, 0, none⟩) from e0] at u0
      unfold Oper.wp
      simp [execOp, go_sem, u0]
      exact came _ rfl (Below.refl _ _) rfl (fun h => absurd h (by decide))
    | 2, _, ho =>
      simp only [List.getElem?_cons_succ, List.getElem?_cons_zero, Option.some.injEq] at ho
      subst ho
      obtain ⟨u1, e1⟩ := hdep ⟨1, .data⟩ (by simp) rfl _ 16 rfl rfl
      rw [show vals 1 = .pointer (some ⟨xb, 0, none⟩) from e1] at u1
      unfold Oper.wp
      simp [execOp, go_sem, u1]
      exact came _ rfl (Below.refl _ _) rfl (fun h => absurd h (by decide))
    | 3, _, ho =>
      simp only [List.getElem?_cons_succ, List.getElem?_cons_zero, Option.some.injEq] at ho
      subst ho
      obtain ⟨u2, e2⟩ := hdep ⟨2, .data⟩ (by simp) rfl _ 17 rfl rfl
      rw [show vals 2 = .pointer (some ⟨xb, 2, none⟩) from e2] at u2
      exact opw_ldNo _ rfl (by simp [Act.eval, u2]) ((HN.out.later hX)) (came _ rfl (Below.refl _ _) rfl (fun h => absurd h (by decide)))
    | 4, _, ho =>
      simp only [List.getElem?_cons_succ, List.getElem?_cons_zero, Option.some.injEq] at ho
      subst ho
      unfold Oper.wp
      simp [execOp, go_sem, ]
      exact came _ rfl (Below.refl _ _) rfl (fun h => absurd h (by decide))
    | m + 5, hi, _ => exact absurd hi (by omega)
  · intro vals x hX hR _
    have e3 : vals 3 = .agg #[n0, n1, n2] := hR 3 (by decide)
    have e4 : vals 4 = .int .i64 0 := hR 4 (by decide)
    simp only [List.drop, List.take, putAll, List.setIfInBounds_toArray, List.set_cons_succ, List.set_cons_zero, e3, e4]
    clear hR e3 e4
    have rx := r0.later hX
    have h9 := NoSt.one H.out.no
    go_wp2_with (refine wpL_stNo rfl _ _ rfl rfl rfl h9 rx ?_)
    refine bodyPost_ret (results_no2 (fn := Tryz.f37) (p := 4) (u := 5) rfl rfl (setRow_heap _ _ _ _ _ _ rx)) rfl ?_
    have hf : Below w.heap.size w (x.setRow w.heap.size #[n0, n1, n2]) := below_row (bgo hB hX) (Nat.le_refl _) _
    exact ⟨rfl, H.out.later hf, .of hf⟩

set_option maxHeartbeats 2000000 in
theorem refNumber_err {xb : Nat} {v n0 n1 n2 : Value} {bs : List UInt8} {pl c : Nat} {w : World} (h : XsAt xb v bs pl none n0 n1 n2 w) (most : Int) (hr : numR (bs.drop pl) most = .error c) :
    Calls Tryz.prog 37 #[.pointer (some ⟨xb, 0, none⟩), .int .i64 most] w fun e w' => ∃ m0 m1 m2, e = .returned (.tuple #[.int .i64 0, .agg #[m0, m1, m2]]) ∧ XsAt xb v bs pl (some (⟨#[78, 117, 109, 98, 101, 114]⟩, pl, c)) m0 m1 m2 w' ∧ Kept [xb] w w' := by
  obtain ⟨rfl, rfl, rfl⟩ := h.no
  have hx := h.at_.row.lt
  have r0 := RowAt.new w zNo 37
  have hB := below_one w (.cells zNo 37)
  have H := hid_of' h
  have H1 := hid_of' (h.later hB)
  have hc : (((c : Int) + 1) == 0) = false := by rw [beq_eq_false_iff_ne]; omega
  have c2 : (w.alloc (.cells zNo 37)).cell? ⟨xb, 2, none⟩ = some (.int .i64 0) := by rw [H1.out.at_.row.cell]; rfl
  have HU0 := refnum_any H1.out.at_ most
  rw [hr] at HU0
  have HU := hid_of' HU0
  clear h HU0 hr
  go_enter Tryz.func37, Tryz.ntmps37
  go_wp2_with (first | (go_at_call 61; refine HU.out.mono ?_; rintro e w2 ⟨rfl, hb2⟩; simp only [nums]) | (go_at_call 60; refine (refno_any (H1.out.later hb2) _ c).mono ?_; rintro e w3 ⟨m0, m1, m2, rfl, h3, hk3⟩; have r3 := (r0.later hb2).kept hk3 (by simp; omega)) | (have h9 := NoSt.one h3.no; refine wpL_stNo rfl _ _ rfl rfl rfl h9 r3 ?_))
  refine bodyPost_ret (results_no2 (fn := Tryz.f37) (p := 4) (u := 5) rfl rfl (setRow_heap _ _ _ _ _ _ r3)) rfl ?_
  have hk := ((Kept.of hB).go (S' := []) (.of hb2) (by simp)).trans hk3
  obtain ⟨x1, x2⟩ := h3.res (b := w.heap.size) (ms := #[m0, m1, m2]) (Nat.le_refl _) H.out.at_.raw hx hk (h3.no.ne r3)
  exact ⟨m0, m1, m2, rfl, x1, x2⟩

set_option maxHeartbeats 2000000 in
theorem refNumber_ok {xb : Nat} {v n0 n1 n2 : Value} {bs : List UInt8} {pl n k : Nat} {w : World} (h : XsAt xb v bs pl none n0 n1 n2 w) (most : Int) (hr : numR (bs.drop pl) most = .ok (n, k)) :
    Calls Tryz.prog 37 #[.pointer (some ⟨xb, 0, none⟩), .int .i64 most] w fun e w' => e = .returned (.tuple #[.int .i64 (n : Int), .agg zNo]) ∧ XsAt xb v bs (pl + k) none (.int .i64 0) (.slice none 0 0) (.slice none 0 0) w' ∧ Kept [xb] w w' := by
  obtain ⟨rfl, rfl, rfl⟩ := h.no
  have hx := h.at_.row.lt
  have hkl : pl + k ≤ bs.length := by have h1 := (numR_ok hr).2.2.1; rw [List.length_drop] at h1; have := h.at_.le; omega
  have hlim := h.at_.lim
  have r0 := RowAt.new w zNo 37
  have hB := below_one w (.cells zNo 37)
  have H := hid_of' h
  have H1 := hid_of' (h.later hB)
  have c2 : (w.alloc (.cells zNo 37)).cell? ⟨xb, 2, none⟩ = some (.int .i64 0) := by rw [H1.out.at_.row.cell]; rfl
  have hw : wrap64 ((pl : Int) + (k : Int)) = (pl : Int) + (k : Int) := by unfold wrap64; omega
  have HU0 := refnum_any H1.out.at_ most
  rw [hr] at HU0
  have HU := hid_of' HU0
  clear h HU0 hr
  go_enter Tryz.func37, Tryz.ntmps37
  go_upto_region 6 with (go_at_call 61; refine HU.out.mono ?_; rintro e w2 ⟨rfl, hb2⟩; simp only [nums])
  have h2 := H1.out.later hb2
  have r2 := r0.later hb2
  have c1 : w2.cell? ⟨xb, 1, none⟩ = some (.int .i64 (pl : Int)) := by rw [h2.at_.row.cell]; rfl
  have f1 := frozenW_of h2.at_.row 1
  obtain ⟨h3, k3⟩ := h2.goOn hkl
  have ecs : (((pl + k : Nat) : Nat) : Int) = (pl : Int) + (k : Int) := by push_cast; rfl
  rw [ecs] at h3 k3
  have hk := ((Kept.of (S := [xb]) hB).go (S' := []) (.of hb2) (by simp)).trans k3
  have r3 := r2.kept k3 (by simp; omega)
  have H3 := hid_of' (And.intro h3 hk)
  clear h3 hk k3 r2 HU hb2 h2
  go_upto_region 7 with fail
  generalize w2.setCell ⟨xb, 1, none⟩ (.int .i64 ((pl : Int) + (k : Int))) = w3 at *
  go_wp2_with (refine wpL_stNo rfl _ _ rfl rfl rfl (by simp [Value.oneCell']) r3 ?_)
  refine bodyPost_ret (results_no2 (fn := Tryz.f37) (p := 4) (u := 5) rfl rfl (setRow_heap _ _ _ _ _ _ r3)) rfl ?_
  obtain ⟨x1, x2⟩ := H3.out.1.res (b := w.heap.size) (ms := zNo) (Nat.le_refl _) H.out.at_.raw hx H3.out.2 (fun g h => by simp at h)
  exact ⟨rfl, x1, x2⟩
end Go.Proofs.YtpkblfhkblllhaaGreatDoor
