
/-
  barrowlaw09.PacketRead: every round, and the whole. Rows of bytes that came in. barrowlaw09.PacketRead.
-/
import Derived.Test.YtpkblfhkblllhaaGreatDoorRP52
import Derived.Test.YtpkblfhkblllhaaGreatDoorRows
import Derived.ProofKit
import Derived.Deep.Slices
import Derived.Deep.Strs
import Derived.OpenShut
import Derived.Carry
namespace Go.Proofs.YtpkblfhkblllhaaGreatDoor
open Go.RowKit Go.Extern.Stop Go.Stop Go.Extern
set_option maxRecDepth 100000

theorem lent_slQ {w : World} {G c : Nat} {bs : List UInt8} (h : Rw 5 1 (.slice (some ⟨G, 0, none⟩) (bs.length + 4) c) (bs.length + 4) (Lib.byteCells bs ++ mk4) w) : SlB w (.slice (some ⟨G, 0, none⟩) bs.length c) bs := by
  refine .inr ⟨G, 0, c, rfl, h.lt G rfl, fun i b hb => ?_⟩
  refine Rw.cells h i _ ?_
  rw [List.getElem?_append_left (by rw [Lib.byteCells_length]; exact (List.getElem?_eq_some_iff.1 hb).1), byteCells_at, hb]
  rfl
/-- Rows of bytes in memory. -/
def SlBB (w : World) (v : Value) (rows : List (List UInt8)) : Prop := (rows = [] ∧ ∃ a c, v = .slice a 0 c) ∨ ∃ g o c, v = .slice (some ⟨g, o, none⟩) rows.length c ∧ g < w.heap.size ∧
  ∀ i bs, rows[i]? = some bs → ∃ u, w.cell? ⟨g, o + i, none⟩ = some u ∧ SlB w u bs ∧ ∀ a n c, u = .slice a n c → n ≤ c
/-- A load of a struct, where a guard lets it through. -/
theorem wpL_ldG {P : Program} {ops : Array Oper} {rest : List Oper} {o : Oper} {a : Act} {w : World} {Q : Exit → Act → World → Prop} (hw : Region.wanted o (yielded ops a.tmps) = true) (ty : TypeId) (x : Operand) (ho : o.op = .load ty x) {b off : Nat} (hx : a.eval x = .pointer (some ⟨b, off, none⟩)) {cs : Array Value} (h : CsIn b off cs w)
    {d : TypeDesc} (hu : P.underlying ty = some d) (hd : (match d with | .struct _ | .array _ _ => true | _ => false) = true) (hi : (P.info? ty).map (·.size) = some cs.size)
    (k : wpList P ops Q rest (a.put o.dst (.agg cs)) w) : wpList P ops Q (o :: rest) a w :=
  wpList_step fun K hK => by
    rw [if_pos hw]
    unfold Oper.wp execOp
    simp only [ho, hx, Instr.loadAt, Instr.sureAddr, Sem.run_bind, Sem.run_pure, Result.andThen_ok, run_loadVar_in h hu hd hi]
    exact hK _ _ k
/-- The document's answer, in memory. -/
structure Wt9 (bs : List UInt8) (mb nb : Nat) (s : Value) (no : Array Value) (w : World) : Prop where
  x : RowAt mb (mv (mOf bs) s) 33 w
  n : RowAt nb no 37 w
  q : NoQ (PS.all bs).2 (.agg no) w
  a : Rw 76 13 s (mOf bs).2.2.2.2.1.length (acsl (mOf bs).2.2.2.2.1) w
theorem Wt9.later {bs : List UInt8} {mb nb : Nat} {s : Value} {no : Array Value} {w w' : World} (h : Wt9 bs mb nb s no w) (hb : Below w.heap.size w w') : Wt9 bs mb nb s no w' := ⟨h.x.later hb, h.n.later hb, h.q.later hb, h.a.later hb⟩
/-- The program's answer, in memory. -/
structure Rd9 (ad : Nat → Addr) (bs : List UInt8) (err : Value) (mb : Nat) (s : Value) (w : World) : Prop where
  e : ErrQ ad bs err w
  x : RowAt mb (mv (mOf bs) s) 33 w
  a : Rw 76 13 s (mOf bs).2.2.2.2.1.length (acsl (mOf bs).2.2.2.2.1) w
theorem Rd9.later {ad : Nat → Addr} {bs : List UInt8} {err : Value} {mb : Nat} {s : Value} {w w' : World} (h : Rd9 ad bs err mb s w) (hb : Below w.heap.size w w') : Rd9 ad bs err mb s w' := ⟨h.e.later hb, h.x.later hb, h.a.later hb⟩
theorem Rd9.byte {ad : Nat → Addr} {bs : List UInt8} {err : Value} {mb G n c : Nat} {s : Value} {xs : List Value} {w w' : World} (h : Rd9 ad bs err mb s w) (hr : Rw 5 1 (.slice (some ⟨G, 0, none⟩) n c) n xs w) (hc : Ch (fun k => k = G) w w') : Rd9 ad bs err mb s w' := by
  have hG : ∃ cs, RowAt G cs 5 w := by
    rcases hr.2 with ⟨hv, _⟩ | ⟨g', _, cur, hv, hg, _⟩
    · cases hv
    · cases hv; exact ⟨cur, hg⟩
  obtain ⟨cs, hG⟩ := hG
  refine ⟨?_, h.x.ch hc (row_neT h.x hG (by decide)), h.a.ch hc (fun k hk e => ?_)⟩
  · have he := h.e
    unfold ErrQ at he ⊢
    split
    · rename_i hr; rw [hr] at he; exact he
    · rename_i x hr
      rw [hr] at he
      obtain ⟨f, h1, h2⟩ := he
      exact ⟨f, h1, h2.kept (S := [G]) ⟨hc.os, hc.tape, hc.output, hc.size, fun g hg hn => hc.block g hg (by simpa using hn)⟩ (fun s hs => by rw [List.mem_singleton] at hs; subst hs; exact ⟨cs, _, hG, by decide⟩)⟩
  · subst e
    rcases h.a.2 with ⟨e, _⟩ | ⟨gg, _, _, e, hgg, _⟩
    · rw [e] at hk; cases hk
    · rw [e] at hk
      simp only [Value.ownBlock, Option.some.injEq] at hk
      subst hk
      exact row_neT hgg hG (by decide) rfl
theorem mOf_len {bs : List UInt8} : (mOf bs).2.2.2.2.1.length ≤ bs.length := by
  unfold mOf
  cases hr : readM bs with
  | error x => exact Nat.zero_le _
  | ok m =>
    have h1 := readM_one hr
    have h2 := okMsg_len h1.1
    rw [h1.2] at h2
    exact h2
theorem refKind_at {w : World} {v : Value} {bs : List UInt8} {kd : Int} (hk : kindB bs = kd) (h : SlB w v bs) :
    Calls Tryz.prog 12 #[v] w fun e w' => e = .returned (.int .i64 kd) ∧ w' = w := hk ▸ refKind_is h
theorem rw_one {e : TypeId} {size n : Nat} {v : Value} {xs : List Value} {w : World} (h : Rw e size v n xs w) : v.oneCell' = true := by
  obtain ⟨a, c, rfl, _⟩ := h.form
  rfl
end Go.Proofs.YtpkblfhkblllhaaGreatDoor
namespace Go.Proofs.YtpkblfhkblllhaaGreatDoor
open Go.ChangeShapes Go.WideShapes Go.ChangeAt Go.RowKit Go.Deep
set_option maxRecDepth 100000

instance : Inhabited (Value × List UInt8) := ⟨⟨.slice none 0 0, []⟩⟩
theorem cellsBQ : Tryz.prog.cellsOf 5 = 1 := by kernel_rfl
theorem cellsBsQ : Tryz.prog.cellsOf 23 = 1 := by kernel_rfl
section
variable {H : Type} {enc : TypeId × Value → H} {W : World} {base : Nat}
/-- Bytes that came in, by their one cell. -/
theorem open_bsQ {cs : List Value} {fuel : Nat} {x : DataW H × List MemPlace} (hf : DataW.trod enc Tryz.prog W 0 (fun _ => true) true fuel 23 cs = some x) :
    ∃ v, ∃ bs : List UInt8, cs = [v] ∧ SlB W v bs ∧ ∀ a n c, v = .slice a n c → n ≤ c := by
  rcases open_ints Tryz.underlying23 Tryz.underlying5 cellsBQ hf with ⟨hcs, hx⟩ | ⟨a, len, cap, zs, hcs, _, hl, hm, hz, hx, hcell, hwz⟩
  · exact ⟨_, [], hcs, .inl ⟨rfl, _, _, rfl⟩, fun a n c e => by cases e; omega⟩
  · simp only [if_true] at hz
    have hlen : ((zs.take len).map fun n => UInt8.ofNat n.toNat).length = len := by simp; omega
    refine ⟨_, (zs.take len).map fun n => UInt8.ofNat n.toNat, hcs, ?_, fun a n c e => by cases e; omega⟩
    by_cases h0 : len = 0
    · subst h0
      exact .inl ⟨by simp, _, _, rfl⟩
    · obtain ⟨ab, ao, spot⟩ := a
      have hspot : spot = none := by simpa [Addr.add] using World.cell?_spot (hcell 0 (by omega))
      subst hspot
      refine .inr ⟨ab, ao, cap, by rw [hlen], ?_, fun i b hi => ?_⟩
      · have := World.block_lt_of_cell? _ _ (hcell 0 (by omega))
        simpa [Addr.add] using this
      · have hil : i < len := by have := (List.getElem?_eq_some_iff.1 hi).1; omega
        have hci := hcell i (by omega)
        rw [Addr.add_lit] at hci
        rw [hci]
        have hzi : zs[i]? = some (zs[i]'(by omega)) := List.getElem?_eq_getElem _
        have e : zs.getD i 0 = zs[i]'(by omega) := by simp [List.getD, hzi]
        rw [e]
        have hb : 0 ≤ zs[i]'(by omega) ∧ zs[i]'(by omega) ≤ 255 := by
          have := hwz (zs[i]'(by omega)) (List.getElem_mem _)
          simp only [Lit.wf, Bool.and_eq_true, decide_eq_true_eq] at this
          have h1 : IntKind.u8.min = 0 := rfl
          have h2 : IntKind.u8.max = 255 := rfl
          omega
        simp only [List.getElem?_map, List.getElem?_take, if_pos hil, hzi, Option.map_some, Option.some.injEq] at hi
        rw [← hi]
        congr 2
        simp only [UInt8.toNat_ofNat']
        omega
/-- Rows of bytes that came in. -/
theorem open_rowsQ {v : Value} {d : DataW H} {p : List MemPlace} (hval : Value.okWide Tryz.prog W .any base 22 v) (h : DataW.Trod enc Tryz.prog W 0 (fun _ => true) true 22 v d p) :
    ∃ rows : List (List UInt8), SlBB W v rows := by
  obtain ⟨a1, len, cap, rfl⟩ := okWide_slice Tryz.underlying22 hval
  obtain ⟨fuel, hf⟩ := h
  rcases open_slice Tryz.underlying22 hf with ⟨hcs, hx⟩ | ⟨a, len', cap', m, n, D, Pl_, hcs, _, hl, hm, hmm, hx, hcell⟩
  · simp [Value.cells] at hcs
    obtain ⟨rfl, rfl, rfl⟩ := hcs
    exact ⟨[], .inl ⟨rfl, _, _, rfl⟩⟩
  · simp [Value.cells] at hcs
    obtain ⟨rfl, rfl, rfl⟩ := hcs
    simp only [if_true] at hmm
    subst hmm
    have each : ∀ i, i < len → ∃ x : Value × List UInt8, SlB W x.1 x.2 ∧ (∀ a n c, x.1 = .slice a n c → n ≤ c) ∧ W.cell? (a.add i) = some x.1 := by
      intro i hi
      obtain ⟨cs', h1, h2⟩ := hcell i (by omega)
      rw [cellsBsQ] at h1
      obtain ⟨_, hlen, hc⟩ := World.cells?_some h1
      obtain ⟨u, l, hu, hs, hb⟩ := open_bsQ h2
      refine ⟨⟨u, l⟩, hs, hb, ?_⟩
      have := hc 0 (by omega)
      rw [add_add] at this
      rw [hu] at this
      simpa using this
    obtain ⟨f, hf⟩ := choose_lt (α := Value × List UInt8) each
    by_cases h0 : len = 0
    · subst h0
      exact ⟨[], .inl ⟨rfl, _, _, rfl⟩⟩
    · obtain ⟨ab, ao, spot⟩ := a
      have c0 := (hf 0 (by omega)).2.2
      have hspot : spot = none := by simpa [Addr.add] using World.cell?_spot c0
      subst hspot
      have hlt := World.block_lt_of_cell? _ _ c0
      refine ⟨(List.range len).map fun i => (f i).2, .inr ⟨ab, ao, _, by rw [List.length_map, List.length_range], by simpa [Addr.add] using hlt, fun i bs hi' => ?_⟩⟩
      have hi : i < len := by
        have := (List.getElem?_eq_some_iff.1 hi').1
        simpa using this
      rw [List.getElem?_map, List.getElem?_range hi] at hi'
      simp at hi'
      subst hi'
      obtain ⟨q1, q2, q3⟩ := hf i hi
      rw [Addr.add_lit] at q3
      exact ⟨_, q3, q1, q2⟩
end
end Go.Proofs.YtpkblfhkblllhaaGreatDoor
namespace Go.Proofs.YtpkblfhkblllhaaGreatDoor
open Go.RowKit Go.Extern.Stop Go.Stop Go.Extern
set_option maxRecDepth 100000

set_option maxHeartbeats 16000000 in
theorem packetRead_all {ad : Nat → Addr} {W : World} {v : Value} {rows : List (List UInt8)} (L : Laid ad W) (hv : SlBB W v rows) :
    Calls Tryz.prog 3 #[v] W fun e w' => e = .returned (.bool true) ∧ Below W.heap.size W w' := by
  obtain ⟨a, n, c, hva, hn⟩ : ∃ a n c, v = .slice a n c ∧ rows.length = n := by
    rcases hv with ⟨rfl, a, c, rfl⟩ | ⟨g, o, c, rfl, _⟩
    · exact ⟨a, 0, c, rfl, rfl⟩
    · exact ⟨_, _, c, rfl, rfl⟩
  subst hva
  have H := hid_of' (And.intro L (And.intro hv hn))
  have hLw := (lwOf L).size
  clear L hv hn
  go_enter Tryz.func3, Tryz.ntmps3
  go_upto_region 2 with fail
  go_loopw [3] (fun iv wr => ∃ i : Nat, iv = .int .i64 (i : Int) ∧ i ≤ 40 ∧ i ≤ n ∧ Below W.heap.size W wr) (fun iv _ => 40 - (intOf iv).toNat)
  case atStart => exact ⟨0, rfl, by omega, by omega, Below.refl _ _⟩
  case round =>
    obtain ⟨i, rfl, hi40, hin, hB⟩ := hrel
    by_cases hlt : i < n
    · have hi1 : (i : Int) < (n : Int) := by omega
      by_cases h40 : i < 40
      · have hi2 : (i : Int) < 40 := by omega
        obtain ⟨bs0, hbs⟩ : ∃ bs0, rows[i]? = some bs0 := ⟨_, List.getElem?_eq_getElem (by rw [H.out.2.2]; exact hlt)⟩
        obtain ⟨g, o, hag, hc0⟩ : ∃ g o, a = some ⟨g, o, none⟩ ∧ ∃ u, wr.cell? ⟨g, o + i, none⟩ = some u ∧ SlB wr u bs0 ∧ ∀ a n c, u = .slice a n c → n ≤ c := by
          rcases H.out.2.1 with ⟨hr, _⟩ | ⟨g, o, c', e, hg, hall⟩
          · rw [hr] at hbs; cases hbs
          · cases e
            obtain ⟨u, h1, h2, h3⟩ := hall i bs0 hbs
            refine ⟨g, o, rfl, u, ?_, h2.grow hB, h3⟩
            rw [World.cell?_of_block (w := W) (hB.block g hg)]
            exact h1
        subst hag
        obtain ⟨u, hcu, hu0, hucap⟩ := hc0
        obtain ⟨ua0, uc0, rfl⟩ := hu0.form
        have HC := hid_of' (clip9_cap hu0 hucap)
        have HB := hid_of' hB
        have hlen : (bs0.take 3000).length ≤ 3000 := by rw [List.length_take]; omega
        clear hu0 hucap hB hbs
        go_upto_region 5 with (go_at_call 4; refine HC.out.mono ?_; rintro e w0 ⟨u, rfl, hu, hucap, hz⟩; obtain rfl := hz.symm)
        clear HC hcu hucap
        generalize bs0.take 3000 = bs at *
        obtain ⟨ra, rc, rfl⟩ := hu.form
        have HU := hid_of' hu
        have HRd := hid_of' (refRead_px hu (by omega))
        clear hu
        go_upto_region 6 with (first
          | (go_at_call 5; refine HRd.out.mono ?_; intro e w1 h1; obtain ⟨sv, no, rfl, hq1, ha1, how1, hsh, hb1⟩ := RrQ.an h1; obtain ⟨c9, a9, n9, k9, a9', n9', k9', rfl, _⟩ := hq1.code; have r1 : RowAt w1.heap.size (mv zM (.slice none 0 0)) 33 ((w1.alloc (.cells (mv zM (.slice none 0 0)) 33)).alloc (.cells #[.int .i64 0, .slice none 0 0, .slice none 0 0] 37)) := (RowAt.new w1 _ _).later (below_one _ _); have r2 : RowAt (w1.heap.size + 1) #[.int .i64 0, .slice none 0 0, .slice none 0 0] 37 (((w1.alloc (.cells (mv zM (.slice none 0 0)) 33)).alloc (.cells #[.int .i64 0, .slice none 0 0, .slice none 0 0] 37)).setRow w1.heap.size (mv (mOf bs) sv)) := (show RowAt (w1.heap.size + 1) #[.int .i64 0, .slice none 0 0, .slice none 0 0] 37 ((w1.alloc (.cells (mv zM (.slice none 0 0)) 33)).alloc (.cells #[.int .i64 0, .slice none 0 0, .slice none 0 0] 37)) from (by have := RowAt.new (w1.alloc (.cells (mv zM (.slice none 0 0)) 33)) #[.int .i64 0, .slice none 0 0, .slice none 0 0] 37; simpa using this)).other _ _ (by omega))
          | (refine wpL_allocQ rfl _ rfl zero_msQ ?_; go_simp)
          | (refine wpL_allocQ rfl _ rfl zero_noQ ?_; go_simp)
          | (refine wpList_store_row rfl 33 _ _ rfl w1.heap.size (mv (mOf bs) sv) rfl rfl _ _ r1 (mv_size hsh) (by rw [mvq_sz hsh, mvq_sz shM_z]) (mv_one _ (rw_one ha1)) ?_)
          | (refine wpL_storeNo rfl _ _ rfl rfl rfl r2 ?_))
        have hx1 : Below w1.heap.size w1 ((w1.alloc (.cells (mv zM (.slice none 0 0)) 33)).alloc (.cells #[.int .i64 0, .slice none 0 0, .slice none 0 0] 37)) := bgo (below_one _ _) (below_one _ _)
        have hb2 : Below w1.heap.size w1 ((((w1.alloc (.cells (mv zM (.slice none 0 0)) 33)).alloc (.cells #[.int .i64 0, .slice none 0 0, .slice none 0 0] 37)).setRow w1.heap.size (mv (mOf bs) sv)).setRow (w1.heap.size + 1) (nov c9 a9 n9 k9 a9' n9' k9')) := below_setRow (below_setRow hx1 (Nat.le_refl _) _) (Nat.le_succ _) _
        have hW : Wt9 bs w1.heap.size (w1.heap.size + 1) sv (nov c9 a9 n9 k9 a9' n9' k9') ((((w1.alloc (.cells (mv zM (.slice none 0 0)) 33)).alloc (.cells #[.int .i64 0, .slice none 0 0, .slice none 0 0] 37)).setRow w1.heap.size (mv (mOf bs) sv)).setRow (w1.heap.size + 1) (nov c9 a9 n9 k9 a9' n9' k9')) :=
          ⟨(r1.put _).other _ _ (by omega), r2.put _, hq1.later hb2, ha1.later hb2⟩
        have hB2 := HB.out.trans (show Below W.heap.size wr _ from (bgo hb1 hb2).mono HB.out.size)
        have hsz2 : w1.heap.size + 2 ≤ ((((w1.alloc (.cells (mv zM (.slice none 0 0)) 33)).alloc (.cells #[.int .i64 0, .slice none 0 0, .slice none 0 0] 37)).setRow w1.heap.size (mv (mOf bs) sv)).setRow (w1.heap.size + 1) (nov c9 a9 n9 k9 a9' n9' k9')).heap.size := by have := hW.n.lt; omega
        have HL2 := hid_of' (H.out.1.below hB2)
        have HU2 := hid_of' (HU.out.grow (bgo hb1 hb2))
        have HB2 := hid_of' hB2
        clear r1 r2 hq1 ha1 how1 hb1 hx1 hb2 hB2 HB HU HRd
        generalize (((w1.alloc (.cells (mv zM (.slice none 0 0)) 33)).alloc (.cells #[.int .i64 0, .slice none 0 0, .slice none 0 0] 37)).setRow w1.heap.size (mv (mOf bs) sv)).setRow (w1.heap.size + 1) (nov c9 a9 n9 k9 a9' n9' k9') = w2 at hW hsz2 HL2 HU2 HB2 ⊢
        generalize w1.heap.size = mb at hW hsz2 ⊢
        generalize hno : nov c9 a9 n9 k9 a9' n9' k9' = no at hW
        have hsn : (Tryz.prog.info? 37).map (·.size) = some no.size := by rw [← hno, no_size]; rfl
        have HSN := hid_of' hsn
        clear hno hsn
        have HW := hid_of' hW
        have HSH := hid_of' hsh
        clear hW hsh
        have HL3 := hid_of' (lend_is HU2.out (by omega))
        go_upto_region 7 with (go_at_call 6; refine HL3.out.mono ?_; rintro e w3 ⟨G, lc, rfl, r3, hG, b3⟩)
        have HR3 := hid_of' (And.intro r3 (And.intro hG b3))
        clear r3 hG b3 HL3
        have HP3 := hid_of' (read_any (lwOf (HL2.out.below HR3.out.2.2)) (lent_slQ HR3.out.1) (by omega))
        go_upto_region 8 with (first
          | (go_at_call 7; refine HP3.out.mono ?_; intro e w4 h4; obtain ⟨sA, err, rfl, he4, ha4, how4, _, hb4⟩ := ReadQ.an h4; obtain ⟨sa, sc, hsa, _, _⟩ := ha4.form; subst hsa; clear h4)
          | (refine wpL_allocQ rfl _ rfl zero_msQ ?_; go_simp)
          | (refine wpL_stNew rfl 33 _ _ rfl rfl rfl (cs := mv (mOf bs) (.slice sa (mOf bs).2.2.2.2.1.length sc)) rfl (mv_size HSH.out) (by rw [mvq_sz HSH.out, mvq_sz shM_z]) (mv_one _ rfl) ?_))
        have b5 := below_one w4 (.cells (mv (mOf bs) (.slice sa (mOf bs).2.2.2.2.1.length sc)) 33)
        have hR5 : Rd9 ad bs err w4.heap.size (.slice sa (mOf bs).2.2.2.2.1.length sc) (w4.alloc (.cells (mv (mOf bs) (.slice sa (mOf bs).2.2.2.2.1.length sc)) 33)) := ⟨he4.later b5, RowAt.new _ _ _, ha4.later b5⟩
        have hb35 := bgo hb4 b5
        have hs4 := hb4.size
        clear b5 he4 ha4 hb4 HP3
        generalize w4.alloc (.cells (mv (mOf bs) (.slice sa (mOf bs).2.2.2.2.1.length sc)) 33) = w5 at hR5 hb35 ⊢
        generalize w4.heap.size = m5 at hR5 hs4 ⊢
        have HR5 := hid_of' hR5
        have HO5 := hid_of' (And.intro how4 (And.intro hb35 hs4))
        clear hR5 how4 hb35 hs4
        have hKd := kindP_any ((lent_slQ HR3.out.1).grow HO5.out.2.1)
        obtain ⟨kd, hkd⟩ : ∃ kd, kindB bs = kd := ⟨_, rfl⟩
        rw [hkd] at hKd
        have HK5 := hid_of' hKd
        have HKD := hid_of' hkd
        clear hKd hkd
        go_upto_region 9 with (go_at_call 8; refine HK5.out.mono ?_; rintro e wz ⟨rfl, hz⟩; obtain rfl := hz.symm)
        clear HK5
        have hb25 : Below w2.heap.size w2 w5 := bgo HR3.out.2.2 HO5.out.2.1
        have HI5 := hid_of' (intact_is (HR3.out.1.later HO5.out.2.1) (HU2.out.grow hb25) (by omega))
        have HB25 := hid_of' hb25
        clear hb25
        go_upto_region 11 with (first
          | (go_at_call 9; refine HI5.out.mono ?_; rintro e w7 ⟨rfl, ch7⟩; have hA7 := HR5.out.byte (HR3.out.1.later HO5.out.2.1) ch7; have hb27 : Below w2.heap.size w2 w7 := HB25.out.trans (ch7.below (fun s hs e => by have := HR3.out.2.1; omega) HB25.out.size); have hW7 := HW.out.later hb27; have hL7 := HL2.out.below hb27)
          | (go_at_call 10; refine (refused_same hL7 hW7.q hA7.e).mono ?_; rintro e w8 ⟨rfl, hb8⟩; have hA8 := hA7.later hb8; have hW8 := hW7.later hb8)
          | (go_at_call 11; refine (message_same HSH.out hA8.a hW8.a (Nat.le_trans mOf_len (by omega))).mono ?_; rintro e w9 ⟨rfl, hb9⟩; have hA9 := hA8.later hb9; have hW9 := hW8.later hb9; have hb29 := bgo hb27 (bgo hb8 hb9))
          | (go_at_call 12; refine (refKind_at HKD.out (HU2.out.grow hb29)).mono ?_; rintro e wz ⟨rfl, hz⟩; obtain rfl := hz.symm)
          | (refine wpL_ldG rfl 37 _ rfl rfl hW7.n.in Tryz.underlying37 rfl HSN.out ?_)
          | (refine wpL_ldG rfl 33 _ rfl rfl hA8.x.in Tryz.underlying33 rfl (mv_size HSH.out) ?_)
          | (refine wpL_ldG rfl 33 _ rfl rfl hW8.x.in Tryz.underlying33 rfl (mv_size HSH.out) ?_))
        have hcs : w9.cell? ⟨m5, 11, none⟩ = some (.slice sa (mOf bs).2.2.2.2.1.length sc) := (hA9.x.cell 11).trans (mv_a _ HSH.out)
        have hs39 : w3.heap.size ≤ w9.heap.size := by
          have h1 := HO5.out.2.1.size
          have h2 := ch7.size
          have h3 := hb8.size
          have h4 := hb9.size
          omega
        have HSp := hid_of' (spoilActs_is hA9.a (Nat.le_trans mOf_len (by omega)) w3.heap.size HO5.out.1 hs39)
        have hm := mOf_len (bs := bs)
        have HB29 := hid_of' hb29
        clear hA7 hb27 hW7 hL7 hA8 hW8 hA9 hW9 hb29 hb8 hb9 ch7 hs39
        go_upto_region 12 with (go_at_call 13; refine HSp.out.mono ?_; rintro e w10 ⟨⟨z, rfl⟩, ch10⟩)
        have hb210 : Below w2.heap.size w2 w10 := HB29.out.trans (ch10.below (fun s hs e => by have := HR3.out.2.2.size; omega) HB29.out.size)
        have HL10 := hid_of' (HL2.out.below hb210)
        have HW10 := hid_of' (HW.out.later hb210)
        have HP10 := hid_of' (read_any (lwOf HL10.out) (HU2.out.grow hb210) (by omega))
        have HB10 := hid_of' (HB2.out.trans (hb210.mono HB2.out.size))
        clear hb210 ch10 hcs HSp HI5 HR5 HB25 HB29
        go_upto_region 13 with (first
          | (go_at_call 7; refine HP10.out.mono ?_; intro e w11 h11; obtain ⟨sB, err2, rfl, he11, ha11, _, _, hb11⟩ := ReadQ.an h11; obtain ⟨ta, tc, hta, _, _⟩ := ha11.form; subst hta; clear h11)
          | (refine wpL_allocQ rfl _ rfl zero_msQ ?_; go_simp)
          | (refine wpL_stNew rfl 33 _ _ rfl rfl rfl (cs := mv (mOf bs) (.slice ta (mOf bs).2.2.2.2.1.length tc)) rfl (mv_size HSH.out) (by rw [mvq_sz HSH.out, mvq_sz shM_z]) (mv_one _ rfl) ?_))
        have b12 := below_one w11 (.cells (mv (mOf bs) (.slice ta (mOf bs).2.2.2.2.1.length tc)) 33)
        have hR12 : Rd9 ad bs err2 w11.heap.size (.slice ta (mOf bs).2.2.2.2.1.length tc) (w11.alloc (.cells (mv (mOf bs) (.slice ta (mOf bs).2.2.2.2.1.length tc)) 33)) := ⟨he11.later b12, RowAt.new _ _ _, ha11.later b12⟩
        have hb12 := bgo hb11 b12
        clear b12 he11 ha11 hb11 HP10
        generalize w11.alloc (.cells (mv (mOf bs) (.slice ta (mOf bs).2.2.2.2.1.length tc)) 33) = w12 at hR12 hb12 ⊢
        generalize w11.heap.size = m12 at hR12 ⊢
        have hW12 := HW10.out.later hb12
        have hL12 := HL10.out.below hb12
        have HB12 := hid_of' (HB10.out.trans (hb12.mono HB10.out.size))
        clear hb12
        go_wp2_with (first
          | (go_at_call 10; refine (refused_same hL12 hW12.q hR12.e).mono ?_; rintro e w13 ⟨rfl, hb13⟩; have hA13 := hR12.later hb13; have hW13 := hW12.later hb13)
          | (go_at_call 11; refine (message_same HSH.out hA13.a hW13.a (Nat.le_trans mOf_len (by omega))).mono ?_; rintro e w14 ⟨rfl, hb14⟩)
          | (refine wpL_ld rfl 37 _ rfl rfl hW12.n.in Tryz.underlying37 rfl HSN.out ?_)
          | (refine wpL_ldG rfl 33 _ rfl rfl hA13.x.in Tryz.underlying33 rfl (mv_size HSH.out) ?_)
          | (refine wpL_ldG rfl 33 _ rfl rfl hW13.x.in Tryz.underlying33 rfl (mv_size HSH.out) ?_))
        have HB14 := hid_of' (HB12.out.trans ((bgo hb13 hb14).mono HB12.out.size))
        clear hA13 hW13 hR12 hW12 hL12 hb13 hb14
        go_roundw
        case rel => exact ⟨i + 1, by go_num, by omega, by omega, HB14.out⟩
        case measure => simp [intOf]; omega
      · have hi2 : ¬ (i : Int) < 40 := by omega
        have HE := hid_of' hB
        clear hB
        go_wp2_with (go_at_call 14; refine (wakes9_ok (lwOf (H.out.1.below HE.out))).mono ?_; rintro e w1 ⟨rfl, hb⟩)
        go_ret
        exact ⟨rfl, HE.out.trans (hb.mono HE.out.size)⟩
    · have hi1 : ¬ (i : Int) < (n : Int) := by omega
      have HE := hid_of' hB
      clear hB
      go_wp2_with (go_at_call 14; refine (wakes9_ok (lwOf (H.out.1.below HE.out))).mono ?_; rintro e w1 ⟨rfl, hb⟩)
      go_ret
      exact ⟨rfl, HE.out.trans (hb.mono HE.out.size)⟩
end Go.Proofs.YtpkblfhkblllhaaGreatDoor
