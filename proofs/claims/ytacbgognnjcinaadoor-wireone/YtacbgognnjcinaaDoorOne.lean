/-
  barrowlaw02.WireOne answers true.
-/
import Derived.Test.YtacbgognnjcinaaDoorStay
import Derived.Test.YtacbgognnjcinaaDoorClip
import Derived.Test.YtacbgognnjcinaaDoorInvG
namespace Go.Proofs.YtacbgognnjcinaaDoor
open Go.RowKit
set_option maxRecDepth 100000

theorem txtR_ok {bs : List UInt8} {most : Int} {s : ByteArray} {K : Nat} (h : txtR bs most = .ok (s, K)) : ∃ n k, numR bs most = .ok (n, k) ∧ n ≤ bs.length - k ∧ s = ⟨((bs.drop k).take n).toArray⟩ ∧ K = k + n := by
  unfold txtR at h
  split at h
  · cases h
  · rename_i n k hn
    split at h
    · cases h
    · rename_i hf
      cases h
      exact ⟨n, k, hn, by omega, rfl, rfl⟩
theorem txtR_err {bs : List UInt8} {most : Int} {c : Nat} (h : txtR bs most = .error c) : c < 14 := by
  unfold txtR at h
  split at h
  · rename_i c' hc
    cases h
    have := numR_err hc
    omega
  · split at h
    · cases h; omega
    · cases h
theorem cntR_ok {bs : List UInt8} {least most : Int} {n k : Nat} (h : cntR bs least most = .ok (n, k)) : numR bs most = .ok (n, k) ∧ ¬ ((bs.length - k : Nat) : Int) / (if least < 1 then 1 else least) < (n : Int) := by
  unfold cntR at h
  cases hn : numR bs most with
  | error c => rw [hn] at h; cases h
  | ok x =>
    obtain ⟨n', k'⟩ := x
    rw [hn] at h
    simp only at h
    by_cases hf : ((bs.length - k' : Nat) : Int) / (if least < 1 then 1 else least) < (n' : Int)
    · rw [if_pos hf] at h; cases h
    · rw [if_neg hf] at h
      cases h
      exact ⟨rfl, hf⟩
theorem rdOut_err {ad : Nat → Addr} {rb g : Nat} {bs : List UInt8} {pl : Nat} {name : ByteArray} {w : World} {tup : Value → Value → Value} {z : Value} {res : Except Nat (Value × Nat)} {c : Nat} {e : Ending} {w' : World} (h : RdOut ad rb g bs pl name w tup z res e w') (hr : res = .error c) : ∃ f, w.heap.size ≤ f ∧ e = .returned (tup z (refv f)) ∧ RdAt rb g bs pl (refv f) w' ∧ Kept [rb] w w' := by
  subst hr
  obtain ⟨hk, f, h1, h2, h3, _⟩ := h
  exact ⟨f, h1, h2, h3, hk⟩

/-- A text that was read, as it is written. -/
theorem txt_bytes {bs : List UInt8} {pl : Nat} {most : Int} {s : ByteArray} {k : Nat} (hbs : bs.length ≤ 4000) (h : txtR (bs.drop pl) most = .ok (s, k)) : s.size ≤ 4000 ∧ bs.take pl ++ formN s.size ++ s.data.toList = bs.take (pl + k) := by
  obtain ⟨n, k', hn, hf, rfl, rfl⟩ := txtR_ok h
  rw [List.length_drop] at hf
  have hl : (((bs.drop pl).drop k').take n).length = n := by rw [List.drop_drop]; simp; omega
  have hs : (⟨(((bs.drop pl).drop k').take n).toArray⟩ : ByteArray).size = n := hl
  refine ⟨by rw [hs]; omega, ?_⟩
  rw [hs, numR_form hn]
  show bs.take pl ++ (bs.drop pl).take k' ++ ((bs.drop pl).drop k').take n = _
  rw [List.append_assoc, ← List.take_add, ← List.take_add]
/-- A byte that was read, as it is written. -/
theorem byte_bytes {bs : List UInt8} {pl n k : Nat} (h : byteR (bs.drop pl) = .ok (n, k)) : k = 1 ∧ ∃ c : UInt8, (n : Int) = (c.toNat : Int) ∧ bs.take pl ++ [c] = bs.take (pl + k) := by
  cases hd : bs.drop pl with
  | nil => rw [hd] at h; simp [byteR] at h
  | cons c r =>
    rw [hd] at h
    simp only [byteR, Except.ok.injEq, Prod.mk.injEq] at h
    obtain ⟨rfl, rfl⟩ := h
    exact ⟨rfl, c, rfl, by rw [List.take_add, hd]; rfl⟩

/-- What stands between two rounds. -/
structure OneInv (ad : Nat → Addr) (rb g b B : Nat) (bs : List UInt8) (w : World) (pl : Nat) (br : Value) (wr : World) : Prop where
  rd : RdAt rb g bs pl br wr
  br : br = .nilIface ∨ ∃ f, br = refv f
  wt : ∃ v, WrAt B b (bs.take pl) v wr
  lw : Lw ad wr
  bel : Below w.heap.size w wr
  sz : B ≤ wr.heap.size
  lo : w.heap.size ≤ rb ∧ rb < B ∧ g < B ∧ w.heap.size ≤ B ∧ 4 ≤ B

theorem OneInv.same {ad : Nat → Addr} {rb g b B : Nat} {bs : List UInt8} {w : World} {pl : Nat} {br : Value} {wr : World} (h : OneInv ad rb g b B bs w pl br wr) (o : Obj) {wx : World} {br' : Value} (hr : RdAt rb g bs pl br' wx) (hk : Kept [rb] (wr.alloc o) wx) (hb : br' = .nilIface ∨ ∃ f, br' = refv f) : OneInv ad rb g b B bs w pl br' wx := by
  have k0 : Kept [rb] wr wx := ((Kept.refl _ wr).alloc o).trans hk
  obtain ⟨v, hv⟩ := h.wt
  exact ⟨hr, hb, ⟨v, hv.keep k0 (by simpa using h.lo.2.1)⟩, h.lw.kept k0 (by simpa using hr.lo), h.bel.trans (k0.below (by simpa using h.lo.1) h.bel.size), by have := k0.size; have := h.sz; omega, h.lo⟩

theorem OneInv.more {ad : Nat → Addr} {rb g b B : Nat} {bs : List UInt8} {w : World} {pl : Nat} {br : Value} {wr : World} (h : OneInv ad rb g b B bs w pl br wr) (o : Obj) {wx wy : World} {pl' : Nat} {v' : Value} (hr : RdAt rb g bs pl' .nilIface wx) (hk : Kept [rb] (wr.alloc o) wx) (hW : WrAt B b (bs.take pl') v' wy) (hb : Below B wx wy) : OneInv ad rb g b B bs w pl' .nilIface wy := by
  have k0 : Kept [rb] wr wx := ((Kept.refl _ wr).alloc o).trans hk
  have hwx : Below w.heap.size w wx := h.bel.trans (k0.below (by simpa using h.lo.1) h.bel.size)
  have hlw : Lw ad wx := h.lw.kept k0 (by simpa using hr.lo)
  refine ⟨⟨by rw [hb.block rb h.lo.2.1]; exact hr.lies, by rw [hb.block g h.lo.2.2.1]; exact hr.raw, hr.lo, hr.le, hr.lim⟩, .inl rfl, ⟨v', hW⟩, ⟨fun k hk => ?_, by have := hlw.size; have := hb.size; omega⟩, hwx.trans (hb.mono h.lo.2.2.2.1), by have := k0.size; have := h.sz; have := hb.size; omega, h.lo⟩
  rw [hb.cell (p := ⟨gixW k, 0, none⟩) (by have := gixW_lt k hk; have := h.lo.2.2.2.2; show gixW k < B; omega)]
  exact hlw.var k hk


/-- The operations that come behind Bytes. -/
def OneQ (j : Nat) : Bool := j == 1 || j == 2 || j == 7 || j == 8 || j == 16 || j == 17

/-- How far the last statement has come: has Bytes been called? -/
structure OneJ (P : List UInt8) (wr : World) (listed : Array Bool) (x : World) : Prop where
  bel : Below wr.heap.size wr x
  pre : listed.getD 1 false = false → x.heap.size = wr.heap.size
  post : listed.getD 1 false = true → x.heap[wr.heap.size]? = some (.cells (Lib.byteCells P).toArray 5 (0, 0))
  dep : ∀ j, OneQ j = true → listed.getD j false = true → listed.getD 1 false = true

theorem OneJ.step {P : List UInt8} {wr : World} {listed : Array Bool} {x : World} (h : OneJ P wr listed x) (i : Nat) (hi : i ≠ 1) (hd : OneQ i = true → listed.getD 1 false = true) : OneJ P wr (listed.setIfInBounds i true) x := by
  have e1 : (listed.setIfInBounds i true).getD 1 false = listed.getD 1 false := getD_set_ne false hi
  refine ⟨h.bel, fun hl => h.pre (e1 ▸ hl), fun hl => h.post (e1 ▸ hl), fun j hj hl => ?_⟩
  rw [e1]
  by_cases e : i = j
  · subst e; exact hd hj
  · rw [getD_set_ne false e] at hl; exact h.dep j hj hl
theorem OneJ.go {P : List UInt8} {wr : World} {listed : Array Bool} {x y : World} (h : OneJ P wr listed x) (hb : Below x.heap.size x y) (h1 : listed.getD 1 false = true) : OneJ P wr listed y :=
  ⟨h.bel.trans (hb.mono h.bel.size), fun hl => absurd (h1.symm.trans hl) (by decide), fun _ => by rw [hb.block _ (lt_of_heap (h.post h1))]; exact h.post h1, h.dep⟩
theorem OneJ.bytes {P : List UInt8} {wr : World} {listed : Array Bool} {x y : World} (h : OneJ P wr listed x) (hun : listed.getD 1 false = false) (hsz : 1 < listed.size) (hb : Below x.heap.size x y) (hg : y.heap[x.heap.size]? = some (.cells (Lib.byteCells P).toArray 5 (0, 0))) : OneJ P wr (listed.setIfInBounds 1 true) y := by
  have e1 : (listed.setIfInBounds 1 true).getD 1 false = true := by simp [hsz]
  have hs := h.pre hun
  refine ⟨h.bel.trans (hb.mono h.bel.size), fun hl => ?_, fun _ => by rw [← hs]; exact hg, fun _ _ _ => e1⟩
  rw [e1] at hl; cases hl

theorem rep_getD (n j : Nat) : (Array.replicate n false).getD j false = false := by
  rw [Array.getD_eq_getD_getElem?, Array.getElem?_replicate]; split <;> rfl

theorem gv_ok {V : Nat → Value} (h8 : V 8 = .bool true := by rfl) (h17 : V 17 = .bool true := by rfl) : ∀ j v, (if j = 8 then some true else if j = 17 then some true else none) = some v → V j = .bool v := by
  intro j v h
  by_cases h1 : j = 8
  · subst h1; simp at h; subst h; exact h8
  · rw [if_neg h1] at h
    by_cases h2 : j = 17
    · subst h2; simp at h; subst h; exact h17
    · rw [if_neg h2] at h; cases h

theorem left_bb {rb g : Nat} {bs : List UInt8} {pl : Nat} {br : Value} {w : World} (h : RdAt rb g bs pl br w) :
    Calls Tryd.prog 28 #[.pointer (some ⟨rb, 0, none⟩)] w fun e w' => e = .returned (.int .i64 ((bs.length - pl : Nat) : Int)) ∧ Below w.heap.size w w' :=
  (left_any h).mono fun _ _ ⟨he, n, hw⟩ => ⟨he, hw ▸ below_drewN w n⟩

theorem sub_small {n pl : Nat} (h : pl ≤ n) (hn : n ≤ 4000) : IntKind.i64.wrap ((n : Int) - (pl : Int)) = ((n - pl : Nat) : Int) := by
  simp [IntKind.wrap, IntKind.bits, IntKind.signed]
  omega

/-- The first bytes of a slice as a text. -/
theorem conv_sl {w : World} {a : Option Addr} {c pl : Nat} {bs : List UInt8} (h : SlB w (.slice a bs.length c) bs) (hp : pl ≤ bs.length) : (convert 25 9 (.slice a pl c)).run Tryd.prog w = .ok (.string ⟨(bs.take pl).toArray⟩) w := by
  rcases h with ⟨rfl, _⟩ | ⟨g, o, c', he, hg, hc⟩
  · obtain rfl : pl = 0 := by simpa using hp
    rw [run_convert_bytes_string w 25 9 5 a 0 c Tryd.underlying25 Tryd.underlying5 Tryd.underlying9]
    cases a <;> rfl
  · simp only [Value.slice.injEq, true_and] at he
    obtain ⟨rfl, rfl⟩ := he
    have hl : (bs.take pl).length = pl := by simp; omega
    have := run_convert_bytes_back (P := Tryd.prog) w 25 9 5 ⟨g, o, none⟩ c (bs.take pl) Tryd.underlying25 Tryd.underlying5 Tryd.underlying9 (fun j hj => by
      rw [Addr.add_lit]
      refine hc j _ ?_
      rw [List.getElem_take]
      exact List.getElem?_eq_getElem _)
    rw [hl] at this
    exact this

set_option maxHeartbeats 4000000 in
theorem one_ok {ad : Nat → Addr} {w : World} (L : Lw ad w) (v0 v1 : Value) (bs0 : List UInt8) (cl : List Cl) (h0 : SlB w v0 bs0) (hc0 : ∀ a n c, v0 = .slice a n c → n ≤ c) (h1 : SlC w v1 cl) :
    Calls Tryd.prog 7 #[v0, v1] w fun e w' => e = .returned (.bool true) ∧ Below w.heap.size w w' := by
  have HL : Aside (Lw ad w ∧ SlB w v0 bs0 ∧ ∀ a n c, v0 = .slice a n c → n ≤ c) := ⟨L, h0, hc0⟩
  have HT : Aside ((bs0.take 4000).length ≤ 1000000) := by show _ ≤ _; simp; omega
  have hbs : (bs0.take 4000).length ≤ 4000 := by simp; omega
  clear L h0 hc0
  obtain ⟨a1, c1, rfl⟩ : ∃ a c, v1 = .slice a cl.length c := by
    rcases h1 with ⟨rfl, a, c, rfl⟩ | ⟨g, o, c, rfl, _⟩
    · exact ⟨a, c, rfl⟩
    · exact ⟨_, c, rfl⟩
  have HC : Aside (SlC w (.slice a1 cl.length c1) cl) := h1
  clear h1
  go_enter Tryd.func7, Tryd.ntmps7
  go_wp2_with (first | (go_at_call 22; refine (clip_cap HL.out.2.1 HL.out.2.2).mono ?_; rintro e w0 ⟨u, rfl, hu, hcap, h0⟩; obtain rfl := h0.symm) | (go_at_call 24; refine (newReader_any hu HT.out HL.out.1.size).mono ?_; rintro e w2 ⟨rb, rfl, hr2, hlt2, hb2⟩) | (go_at_call 9; refine (new_any _).mono ?_; rintro e w3 ⟨rfl, rfl⟩))
  have hI : OneInv ad rb w.heap.size w2.heap.size w2.heap.size (bs0.take 4000) w 0 .nilIface (w2.alloc (.cells #[.slice none 0 0] 27)) := ⟨hr2.kept (S := []) ((Kept.refl _ w2).alloc _) (by simp) (by simp), .inl rfl, ⟨_, by simpa using wr_new w2 w2.heap.size (Nat.le_refl _)⟩, (HL.out.1.kept (S := []) (.of hb2) (by simp)).kept (S := []) ((Kept.refl _ w2).alloc _) (by simp), hb2.alloc hb2.size _, by simp, ⟨by omega, lt_of_heap hr2.lies, lt_of_heap hr2.raw, hb2.size, by have := HL.out.1.size; have := hb2.size; omega⟩⟩
  obtain ⟨au, cu, rfl⟩ : ∃ a c, u = .slice a (bs0.take 4000).length c := by
    rcases hu with ⟨h0, a, c, rfl⟩ | ⟨g, o, c, rfl, _⟩
    · exact ⟨a, c, by rw [h0]; rfl⟩
    · exact ⟨_, c, rfl⟩
  have HU : Aside (SlB w (.slice au (bs0.take 4000).length cu) (bs0.take 4000)) := hu
  have HCu : Aside ((bs0.take 4000).length ≤ cu) := hcap _ _ _ rfl
  clear hcap
  generalize bs0.take 4000 = bs at *
  clear hu hr2 HT
  generalize w2.heap.size = b at *
  generalize w2.alloc (.cells #[.slice none 0 0] 27) = w3 at *
  clear hb2
  go_loopg [7] cl.length (fun k iv wr => ∃ (i pl : Nat) (br : Value), k = cl.length - i ∧ i ≤ cl.length ∧ iv = .int .i64 (i : Int) ∧ OneInv ad rb w.heap.size b b bs w pl br wr)
  case atStart => exact ⟨0, 0, .nilIface, by omega, by omega, rfl, hI⟩
  case round =>
    obtain ⟨i, pl, br, hgk, hi, rfl, hS⟩ := hrel
    clear hI
    by_cases hlt : i < cl.length
    · have hii : (i : Int) < (cl.length : Int) := by omega
      by_cases h200 : i < 200
      · have h200' : (i : Int) < 200 := by omega
        have hx : cl[i]? = some cl[i] := List.getElem?_eq_getElem hlt
        generalize cl[i] = x at hx
        obtain ⟨gc, oc, hga, hgl, hcc⟩ : ∃ gc oc, a1 = some ⟨gc, oc, none⟩ ∧ gc < w.heap.size ∧ ((-9223372036854775808 ≤ x.least ∧ x.least ≤ 9223372036854775807) ∧ w.cell? ⟨gc, oc + i * 3, none⟩ = some (.int .i64 x.kind) ∧ w.cell? ⟨gc, oc + i * 3 + 1, none⟩ = some (.int .i64 x.least) ∧ w.cell? ⟨gc, oc + i * 3 + 2, none⟩ = some (.int .i64 x.most)) := by
          rcases HC.out with ⟨h0, _⟩ | ⟨g, o, c, he, hg, hc⟩
          · rw [h0] at hlt; simp at hlt
          · simp only [Value.slice.injEq, true_and] at he
            exact ⟨g, o, he.1, hg, hc i x hx⟩
        subst hga
        obtain ⟨kind, least, most⟩ := x
        have HX : Aside (-9223372036854775808 ≤ least ∧ least ≤ 9223372036854775807) := hcc.1
        have d0 : wr.cell? ⟨gc, oc + i * 3, none⟩ = some (.int .i64 kind) := by rw [hS.bel.cell (p := ⟨gc, oc + i * 3, none⟩) hgl]; exact hcc.2.1
        have d1 : wr.cell? ⟨gc, oc + i * 3 + 1, none⟩ = some (.int .i64 least) := by rw [hS.bel.cell (p := ⟨gc, oc + i * 3 + 1, none⟩) hgl]; exact hcc.2.2.1
        have d2 : wr.cell? ⟨gc, oc + i * 3 + 2, none⟩ = some (.int .i64 most) := by rw [hS.bel.cell (p := ⟨gc, oc + i * 3 + 2, none⟩) hgl]; exact hcc.2.2.2
        have HB : Aside (Lw ad (wr.alloc (.cells #[.int .i64 kind, .int .i64 least, .int .i64 most] 59)) ∧ RdAt rb w.heap.size bs pl br (wr.alloc (.cells #[.int .i64 kind, .int .i64 least, .int .i64 most] 59))) := ⟨hS.lw.kept (S := []) ((Kept.refl _ wr).alloc _) (by simp), hS.rd.kept (S := []) ((Kept.refl _ wr).alloc _) (by simp) (by simp)⟩
        obtain ⟨vw, hvw⟩ := hS.wt
        have HW : Aside (∀ wx, Kept [rb] (wr.alloc (.cells #[.int .i64 kind, .int .i64 least, .int .i64 most] 59)) wx → WrAt b b (bs.take pl) vw wx ∧ b ≤ wx.heap.size ∧ (bs.take pl).length ≤ 4000) := fun wx hk => ⟨(hvw.keep (S := []) ((Kept.refl _ wr).alloc _) (by simp)).keep hk (by simpa using hS.lo.2.1), by have := hk.size; have := hS.sz; simp at *; omega, by simp; omega⟩
        have HI : Aside (OneInv ad rb w.heap.size b b bs w pl br wr) := hS
        have hbr := hS.br
        clear hS hcc hx HC HL hgl hvw
        have hkind : kind % 4 = 0 ∨ kind % 4 = 1 ∨ kind % 4 = 2 ∨ kind % 4 = 3 := by omega
        rcases hkind with hk | hk | hk | hk
        · rcases hbr with rfl | ⟨f, rfl⟩
          · cases hres : numR (bs.drop pl) most with
            | error c =>
              have HE : Aside (numR (bs.drop pl) most = .error c) := hres
              clear hres
              go_wp2_with (first | (go_at_call 10; refine (within4 _ _).mono ?_; rintro e w9 ⟨rfl, h9⟩; obtain rfl := h9.symm) | (go_at_call 30; refine (Number_any HB.out.1 HB.out.2 most).mono ?_; intro e w4 h4; obtain ⟨f, _, he4, hr4, hk4⟩ := rdOut_err (c := c) h4 (by rw [HE.out]; rfl); subst he4))
              go_roundg (cl.length - (i + 1))
              case measure => rw [hgk]; omega
              case rel => exact ⟨i + 1, pl, refv f, rfl, by omega, by go_num, HI.out.same _ hr4 hk4 (.inr ⟨f, rfl⟩)⟩
            | ok y =>
              obtain ⟨n, k⟩ := y
              have HN : Aside (n < 9223372036854775808 ∧ bs.take pl ++ formN n = bs.take (pl + k)) := ⟨(numR_ok hres).2.2.2.2.2, by rw [numR_form hres, List.take_add]⟩
              have HE : Aside (numR (bs.drop pl) most = .ok (n, k)) := hres
              clear hres
              go_wp2_with (first | (go_at_call 10; refine (within4 _ _).mono ?_; rintro e w9 ⟨rfl, h9⟩; obtain rfl := h9.symm) | (go_at_call 30; refine (Number_any HB.out.1 HB.out.2 most).mono ?_; intro e w4 h4; obtain ⟨he4, hr4, hk4⟩ := rdOut_ok (v := .int .i64 n) (k := k) h4 (by rw [HE.out]; rfl); subst he4) | (go_at_call 13; refine (wnumber_ok (HW.out _ hk4).1 n HN.out.1 (by have := (HW.out _ hk4).2.2; omega) (HW.out _ hk4).2.1).mono ?_; rintro e w5 ⟨rfl, ⟨v5, hW5⟩, hb5⟩))
              go_roundg (cl.length - (i + 1))
              case measure => rw [hgk]; omega
              case rel => exact ⟨i + 1, pl + k, .nilIface, rfl, by omega, by go_num, HI.out.more _ hr4 hk4 (by rw [← HN.out.2]; exact hW5) hb5⟩
          · go_wp2_with (first | (go_at_call 10; refine (within4 _ _).mono ?_; rintro e w9 ⟨rfl, h9⟩; obtain rfl := h9.symm) | (go_at_call 30; refine (Number_broken HB.out.2 most).mono ?_; rintro e w4 ⟨rfl, hb4⟩))
            go_roundg (cl.length - (i + 1))
            case measure => rw [hgk]; omega
            case rel => exact ⟨i + 1, pl, refv f, rfl, by omega, by go_num, HI.out.same _ (HB.out.2.kept (S := []) (.of hb4) (by simp) (by simp)) (.of hb4) (.inr ⟨f, rfl⟩)⟩
        · rcases hbr with rfl | ⟨f, rfl⟩
          · cases hres : txtR (bs.drop pl) most with
            | error c =>
              have HE : Aside (txtR (bs.drop pl) most = .error c) := hres
              clear hres
              go_wp2_with (first | (go_at_call 10; refine (within4 _ _).mono ?_; rintro e w9 ⟨rfl, h9⟩; obtain rfl := h9.symm) | (go_at_call 31; refine (Text_any HB.out.1 HB.out.2 most).mono ?_; intro e w4 h4; obtain ⟨f, _, he4, hr4, hk4⟩ := rdOut_err (c := c) h4 (by rw [HE.out]; rfl); subst he4))
              go_roundg (cl.length - (i + 1))
              case measure => rw [hgk]; omega
              case rel => exact ⟨i + 1, pl, refv f, rfl, by omega, by go_num, HI.out.same _ hr4 hk4 (.inr ⟨f, rfl⟩)⟩
            | ok y =>
              obtain ⟨n, k⟩ := y
              have HN : Aside (n.size ≤ 4000 ∧ bs.take pl ++ formN n.size ++ n.data.toList = bs.take (pl + k)) := txt_bytes hbs hres
              have HE : Aside (txtR (bs.drop pl) most = .ok (n, k)) := hres
              clear hres
              go_wp2_with (first | (go_at_call 10; refine (within4 _ _).mono ?_; rintro e w9 ⟨rfl, h9⟩; obtain rfl := h9.symm) | (go_at_call 31; refine (Text_any HB.out.1 HB.out.2 most).mono ?_; intro e w4 h4; obtain ⟨he4, hr4, hk4⟩ := rdOut_ok (v := .string n) (k := k) h4 (by rw [HE.out]; rfl); subst he4) | (go_at_call 15; refine (wtext_any (HW.out _ hk4).1 n (by have := (HW.out _ hk4).2.2; have := HN.out.1; omega) (HW.out _ hk4).2.1).mono ?_; rintro e w5 ⟨rfl, ⟨v5, hW5⟩, hb5⟩))
              go_roundg (cl.length - (i + 1))
              case measure => rw [hgk]; omega
              case rel => exact ⟨i + 1, pl + k, .nilIface, rfl, by omega, by go_num, HI.out.more _ hr4 hk4 (by rw [← HN.out.2]; exact hW5) hb5⟩
          · go_wp2_with (first | (go_at_call 10; refine (within4 _ _).mono ?_; rintro e w9 ⟨rfl, h9⟩; obtain rfl := h9.symm) | (go_at_call 31; refine (Text_broken HB.out.2 most).mono ?_; rintro e w4 ⟨rfl, hb4⟩))
            go_roundg (cl.length - (i + 1))
            case measure => rw [hgk]; omega
            case rel => exact ⟨i + 1, pl, refv f, rfl, by omega, by go_num, HI.out.same _ (HB.out.2.kept (S := []) (.of hb4) (by simp) (by simp)) (.of hb4) (.inr ⟨f, rfl⟩)⟩
        · rcases hbr with rfl | ⟨f, rfl⟩
          · cases hres : byteR (bs.drop pl) with
            | error c =>
              have HE : Aside (byteR (bs.drop pl) = .error c) := hres
              clear hres
              go_wp2_with (first | (go_at_call 10; refine (within4 _ _).mono ?_; rintro e w9 ⟨rfl, h9⟩; obtain rfl := h9.symm) | (go_at_call 32; refine (Byte_any HB.out.1 HB.out.2).mono ?_; intro e w4 h4; obtain ⟨f, _, he4, hr4, hk4⟩ := rdOut_err (c := c) h4 (by rw [HE.out]; rfl); subst he4))
              go_roundg (cl.length - (i + 1))
              case measure => rw [hgk]; omega
              case rel => exact ⟨i + 1, pl, refv f, rfl, by omega, by go_num, HI.out.same _ hr4 hk4 (.inr ⟨f, rfl⟩)⟩
            | ok y =>
              obtain ⟨n, k⟩ := y
              have HN : Aside (k = 1 ∧ ∃ c : UInt8, (n : Int) = (c.toNat : Int) ∧ bs.take pl ++ [c] = bs.take (pl + k)) := byte_bytes hres
              have HE : Aside (byteR (bs.drop pl) = .ok (n, k)) := hres
              clear hres
              go_wp2_with (first | (go_at_call 10; refine (within4 _ _).mono ?_; rintro e w9 ⟨rfl, h9⟩; obtain rfl := h9.symm) | (go_at_call 32; refine (Byte_any HB.out.1 HB.out.2).mono ?_; intro e w4 h4; obtain ⟨he4, hr4, hk4⟩ := rdOut_ok (v := .int .u8 n) (k := k) h4 (by rw [HE.out]; rfl); subst he4) | (go_at_call 16; refine (byte_int (HW.out _ hk4).1 _ HN.out.2.choose HN.out.2.choose_spec.1 (by have := (HW.out _ hk4).2.2; omega) (HW.out _ hk4).2.1).mono ?_; rintro e w5 ⟨rfl, ⟨v5, hW5⟩, hb5⟩))
              go_roundg (cl.length - (i + 1))
              case measure => rw [hgk]; omega
              case rel => exact ⟨i + 1, pl + k, .nilIface, rfl, by omega, by go_num, HI.out.more _ hr4 hk4 (by rw [← HN.out.2.choose_spec.2]; exact hW5) hb5⟩
          · go_wp2_with (first | (go_at_call 10; refine (within4 _ _).mono ?_; rintro e w9 ⟨rfl, h9⟩; obtain rfl := h9.symm) | (go_at_call 32; refine (Byte_broken HB.out.2).mono ?_; rintro e w4 ⟨rfl, hb4⟩))
            go_roundg (cl.length - (i + 1))
            case measure => rw [hgk]; omega
            case rel => exact ⟨i + 1, pl, refv f, rfl, by omega, by go_num, HI.out.same _ (HB.out.2.kept (S := []) (.of hb4) (by simp) (by simp)) (.of hb4) (.inr ⟨f, rfl⟩)⟩
        · rcases hbr with rfl | ⟨f, rfl⟩
          · cases hres : cntR (bs.drop pl) least most with
            | error c =>
              have HE : Aside (cntR (bs.drop pl) least most = .error c) := hres
              clear hres
              go_wp2_with (first | (go_at_call 10; refine (within4 _ _).mono ?_; rintro e w9 ⟨rfl, h9⟩; obtain rfl := h9.symm) | (go_at_call 33; refine (Count_any HB.out.1 HB.out.2 least most HX.out.1 HX.out.2).mono ?_; intro e w4 h4; obtain ⟨f, _, he4, hr4, hk4⟩ := rdOut_err (c := c) h4 (by rw [HE.out]; rfl); subst he4))
              go_roundg (cl.length - (i + 1))
              case measure => rw [hgk]; omega
              case rel => exact ⟨i + 1, pl, refv f, rfl, by omega, by go_num, HI.out.same _ hr4 hk4 (.inr ⟨f, rfl⟩)⟩
            | ok y =>
              obtain ⟨n, k⟩ := y
              have HN : Aside (n < 9223372036854775808 ∧ bs.take pl ++ formN n = bs.take (pl + k)) := ⟨(numR_ok (cntR_ok hres).1).2.2.2.2.2, by rw [numR_form (cntR_ok hres).1, List.take_add]⟩
              have HE : Aside (cntR (bs.drop pl) least most = .ok (n, k)) := hres
              clear hres
              go_wp2_with (first | (go_at_call 10; refine (within4 _ _).mono ?_; rintro e w9 ⟨rfl, h9⟩; obtain rfl := h9.symm) | (go_at_call 33; refine (Count_any HB.out.1 HB.out.2 least most HX.out.1 HX.out.2).mono ?_; intro e w4 h4; obtain ⟨he4, hr4, hk4⟩ := rdOut_ok (v := .int .i64 n) (k := k) h4 (by rw [HE.out]; rfl); subst he4) | (go_at_call 13; refine (wnumber_ok (HW.out _ hk4).1 n HN.out.1 (by have := (HW.out _ hk4).2.2; omega) (HW.out _ hk4).2.1).mono ?_; rintro e w5 ⟨rfl, ⟨v5, hW5⟩, hb5⟩))
              go_roundg (cl.length - (i + 1))
              case measure => rw [hgk]; omega
              case rel => exact ⟨i + 1, pl + k, .nilIface, rfl, by omega, by go_num, HI.out.more _ hr4 hk4 (by rw [← HN.out.2]; exact hW5) hb5⟩
          · go_wp2_with (first | (go_at_call 10; refine (within4 _ _).mono ?_; rintro e w9 ⟨rfl, h9⟩; obtain rfl := h9.symm) | (go_at_call 33; refine (Count_broken HB.out.2 least most).mono ?_; rintro e w4 ⟨rfl, hb4⟩))
            go_roundg (cl.length - (i + 1))
            case measure => rw [hgk]; omega
            case rel => exact ⟨i + 1, pl, refv f, rfl, by omega, by go_num, HI.out.same _ (HB.out.2.kept (S := []) (.of hb4) (by simp) (by simp)) (.of hb4) (.inr ⟨f, rfl⟩)⟩
      · have h200' : ¬ (i : Int) < 200 := by omega
        have HI : Aside (OneInv ad rb w.heap.size b b bs w pl br wr) := hS
        have hpl := hS.rd.le
        obtain ⟨vw, hvw⟩ := hS.wt
        have HWk : Aside (∀ x, Below wr.heap.size wr x → WrAt b b (bs.take pl) vw x) := fun x hx => hvw.keep (S := []) (.of hx) (by simp)
        have HRk : Aside (∀ x, Below wr.heap.size wr x → RdAt rb w.heap.size bs pl br x) := fun x hx => hS.rd.kept (S := []) (.of hx) (by simp) (by simp)
        have HLk : Aside (∀ x, Below wr.heap.size wr x → Lw ad x) := fun x hx => hS.lw.kept (S := []) (.of hx) (by simp)
        have HSl : Aside (∀ x, Below wr.heap.size wr x → (convert 25 9 (.slice au pl cu)).run Tryd.prog x = .ok (.string ⟨(bs.take pl).toArray⟩) x) := fun x hx => conv_sl (HU.out.grow (hS.bel.trans (hx.mono hS.bel.size))) hpl
        have HLn : Aside ((bs.take pl).length ≤ 140737488355328) := by show _ ≤ _; simp; omega
        have HLp : Aside ((bs.take pl).length = pl) := by show _ = _; simp; omega
        have hsl1 : (0 : Int) ≤ (pl : Int) ∧ (pl : Int) ≤ (cu : Int) := by have := HCu.out; omega
        have HSub : Aside (IntKind.i64.wrap ((bs.length : Int) - (pl : Int)) = ((bs.length - pl : Nat) : Int)) := sub_small hpl hbs
        have hbl := HI.out.bel
        clear hS hvw
        go_wp2_with (go_at_call 27; refine (at_any HI.out.rd).mono ?_; rintro e wA ⟨rfl, hA⟩; obtain rfl := hA.symm)
        refine wp_region_invg' (by kernel_rfl) (fun i => match i with
          | 0 => .pointer (some ⟨b, 0, none⟩)
          | 1 => .slice (some ⟨wr.heap.size, 0, none⟩) pl pl
          | 2 => .string ⟨(bs.take pl).toArray⟩
          | 3 => .slice au bs.length cu
          | 4 => .int .i64 pl
          | 5 => .slice au pl cu
          | 6 => .string ⟨(bs.take pl).toArray⟩
          | 7 => .bool true
          | 8 => .bool true
          | 9 => .pointer (some ⟨rb, 0, none⟩)
          | 10 => .int .i64 ((bs.length - pl : Nat) : Int)
          | 11 => .slice au bs.length cu
          | 12 => .int .i64 bs.length
          | 13 => .int .i64 pl
          | 14 => .int .i64 ((bs.length - pl : Nat) : Int)
          | 15 => .bool true
          | 16 => .bool true
          | 17 => .bool true
          | 18 => .bool true
          | 19 => .bool true
          | _ => .bool true) (fun j => if j = 8 then some true else if j = 17 then some true else none) (by kernel_rfl) gv_ok (OneJ (bs.take pl) wr) ⟨(Below.refl _ wr).drew, fun _ => rfl, fun h => absurd ((rep_getD _ _).symm.trans h) (by decide), fun j _ h => absurd ((rep_getD _ _).symm.trans h) (by decide)⟩ ?_ ?_
        · intro i o ho listed y x' hT hsz0 hun haft hdf hb hbo
          match i, ho with
          | 0, ho =>
            simp only [List.getElem?_toArray, List.getElem?_cons_zero, Option.some.injEq] at ho
            subst ho
            have t6 : y.tmps[6]? = some (.pointer (some ⟨b, 0, none⟩)) := by rw [hbo 6 (by kernel_rfl)]; rfl
            unfold Oper.wp
            simp [go_sem, t6]
            exact hT.step 0 (by decide) (fun h => by cases h)
          | 1, ho =>
            simp only [List.getElem?_toArray, List.getElem?_cons_succ, List.getElem?_cons_zero, Option.some.injEq] at ho
            subst ho
            have l0 : listed.getD 0 false = true := haft ⟨0, .data⟩ (by simp) rfl
            have t102 : y.tmps[102]? = some (.pointer (some ⟨b, 0, none⟩)) := hb 0 _ 102 rfl rfl l0
            have hun1 : listed.getD 1 false = false := getD_flip hun
            have hsz : x'.heap.size = wr.heap.size := hT.pre hun1
            unfold Oper.wp
            simp [go_sem, t102]
            have hB := bytes_any (HWk.out x' hT.bel) HLn.out
            rw [HLp.out] at hB
            refine hB.mono ?_
            rintro e w2 ⟨rfl, hg2, hb2⟩
            rw [hsz]
            exact ⟨rfl, hT.bytes hun1 (by have : listed.size = 21 := hsz0; omega) hb2 hg2⟩
          | 2, ho =>
            simp only [List.getElem?_toArray, List.getElem?_cons_succ, List.getElem?_cons_zero, Option.some.injEq] at ho
            subst ho
            have l1 : listed.getD 1 false = true := haft ⟨1, .data⟩ (by simp) rfl
            have t103 : y.tmps[103]? = some (.slice (some ⟨wr.heap.size, 0, none⟩) pl pl) := hb 1 _ 103 rfl rfl l1
            have hcv := conv_block (hT.post l1) pl
            rw [HLp.out] at hcv
            unfold Oper.wp
            simp [execOp, go_sem, t103, hcv]
            exact hT.step 2 (by decide) (fun _ => l1)
          | 3, ho =>
            simp only [List.getElem?_toArray, List.getElem?_cons_succ, List.getElem?_cons_zero, Option.some.injEq] at ho
            subst ho
            have t0 : y.tmps[0]? = some (.slice au bs.length cu) := by rw [hbo 0 (by kernel_rfl)]; rfl
            unfold Oper.wp
            simp [go_sem, t0]
            exact hT.step 3 (by decide) (fun h => by cases h)
          | 4, ho =>
            simp only [List.getElem?_toArray, List.getElem?_cons_succ, List.getElem?_cons_zero, Option.some.injEq] at ho
            subst ho
            have t17 : y.tmps[17]? = some (.int .i64 pl) := by rw [hbo 17 (by kernel_rfl)]; rfl
            unfold Oper.wp
            simp [go_sem, t17]
            exact hT.step 4 (by decide) (fun h => by cases h)
          | 5, ho =>
            simp only [List.getElem?_toArray, List.getElem?_cons_succ, List.getElem?_cons_zero, Option.some.injEq] at ho
            subst ho
            have l3 : listed.getD 3 false = true := haft ⟨3, .data⟩ (by simp) rfl
            have t105 : y.tmps[105]? = some (.slice au bs.length cu) := hb 3 _ 105 rfl rfl l3
            have l4 : listed.getD 4 false = true := haft ⟨4, .data⟩ (by simp) rfl
            have t106 : y.tmps[106]? = some (.int .i64 pl) := hb 4 _ 106 rfl rfl l4
            unfold Oper.wp
            simp [go_sem, t105, t106, hsl1]
            exact hT.step 5 (by decide) (fun h => by cases h)
          | 6, ho =>
            simp only [List.getElem?_toArray, List.getElem?_cons_succ, List.getElem?_cons_zero, Option.some.injEq] at ho
            subst ho
            have l5 : listed.getD 5 false = true := haft ⟨5, .data⟩ (by simp) rfl
            have t107 : y.tmps[107]? = some (.slice au pl cu) := hb 5 _ 107 rfl rfl l5
            have hcv := HSl.out x' hT.bel
            unfold Oper.wp
            simp [execOp, go_sem, t107, hcv]
            exact hT.step 6 (by decide) (fun h => by cases h)
          | 7, ho =>
            simp only [List.getElem?_toArray, List.getElem?_cons_succ, List.getElem?_cons_zero, Option.some.injEq] at ho
            subst ho
            have l2 : listed.getD 2 false = true := haft ⟨2, .data⟩ (by simp) rfl
            have t104 : y.tmps[104]? = some (.string ⟨(bs.take pl).toArray⟩) := hb 2 _ 104 rfl rfl l2
            have l6 : listed.getD 6 false = true := haft ⟨6, .data⟩ (by simp) rfl
            have t108 : y.tmps[108]? = some (.string ⟨(bs.take pl).toArray⟩) := hb 6 _ 108 rfl rfl l6
            unfold Oper.wp
            simp [go_sem, t104, t108]
            exact hT.step 7 (by decide) (fun _ => (hT.dep 2 rfl l2))
          | 8, ho =>
            simp only [List.getElem?_toArray, List.getElem?_cons_succ, List.getElem?_cons_zero, Option.some.injEq] at ho
            subst ho
            have l7 : listed.getD 7 false = true := haft ⟨7, .data⟩ (by simp) rfl
            have t109 : y.tmps[109]? = some (.bool true) := hb 7 _ 109 rfl rfl l7
            unfold Oper.wp
            simp [go_sem, t109]
            exact hT.step 8 (by decide) (fun _ => (hT.dep 7 rfl l7))
          | 9, ho =>
            simp only [List.getElem?_toArray, List.getElem?_cons_succ, List.getElem?_cons_zero, Option.some.injEq] at ho
            subst ho
            have t5 : y.tmps[5]? = some (.pointer (some ⟨rb, 0, none⟩)) := by rw [hbo 5 (by kernel_rfl)]; rfl
            unfold Oper.wp
            simp [go_sem, t5]
            exact hT.step 9 (by decide) (fun h => by cases h)
          | 10, ho =>
            simp only [List.getElem?_toArray, List.getElem?_cons_succ, List.getElem?_cons_zero, Option.some.injEq] at ho
            subst ho
            have l9 : listed.getD 9 false = true := haft ⟨9, .data⟩ (by simp) rfl
            have t111 : y.tmps[111]? = some (.pointer (some ⟨rb, 0, none⟩)) := hb 9 _ 111 rfl rfl l9
            have lg : listed.getD 8 false = true := haft ⟨8, .guard⟩ (by simp) rfl
            unfold Oper.wp
            simp [go_sem, t111]
            refine (left_bb (HRk.out x' hT.bel)).mono ?_
            rintro e w2 ⟨rfl, hb2⟩
            exact ⟨rfl, (hT.go hb2 (hT.dep 8 rfl lg)).step 10 (by decide) (fun h => by cases h)⟩
          | 11, ho =>
            simp only [List.getElem?_toArray, List.getElem?_cons_succ, List.getElem?_cons_zero, Option.some.injEq] at ho
            subst ho
            have t0 : y.tmps[0]? = some (.slice au bs.length cu) := by rw [hbo 0 (by kernel_rfl)]; rfl
            unfold Oper.wp
            simp [go_sem, t0]
            exact hT.step 11 (by decide) (fun h => by cases h)
          | 12, ho =>
            simp only [List.getElem?_toArray, List.getElem?_cons_succ, List.getElem?_cons_zero, Option.some.injEq] at ho
            subst ho
            have l11 : listed.getD 11 false = true := haft ⟨11, .data⟩ (by simp) rfl
            have t113 : y.tmps[113]? = some (.slice au bs.length cu) := hb 11 _ 113 rfl rfl l11
            unfold Oper.wp
            simp [go_sem, t113]
            exact hT.step 12 (by decide) (fun h => by cases h)
          | 13, ho =>
            simp only [List.getElem?_toArray, List.getElem?_cons_succ, List.getElem?_cons_zero, Option.some.injEq] at ho
            subst ho
            have t17 : y.tmps[17]? = some (.int .i64 pl) := by rw [hbo 17 (by kernel_rfl)]; rfl
            unfold Oper.wp
            simp [go_sem, t17]
            exact hT.step 13 (by decide) (fun h => by cases h)
          | 14, ho =>
            simp only [List.getElem?_toArray, List.getElem?_cons_succ, List.getElem?_cons_zero, Option.some.injEq] at ho
            subst ho
            have l12 : listed.getD 12 false = true := haft ⟨12, .data⟩ (by simp) rfl
            have t114 : y.tmps[114]? = some (.int .i64 bs.length) := hb 12 _ 114 rfl rfl l12
            have l13 : listed.getD 13 false = true := haft ⟨13, .data⟩ (by simp) rfl
            have t115 : y.tmps[115]? = some (.int .i64 pl) := hb 13 _ 115 rfl rfl l13
            unfold Oper.wp
            simp [go_sem, t114, t115]
            refine ⟨by rw [HSub.out], ?_⟩
            exact hT.step 14 (by decide) (fun h => by cases h)
          | 15, ho =>
            simp only [List.getElem?_toArray, List.getElem?_cons_succ, List.getElem?_cons_zero, Option.some.injEq] at ho
            subst ho
            have l10 : listed.getD 10 false = true := haft ⟨10, .data⟩ (by simp) rfl
            have t112 : y.tmps[112]? = some (.int .i64 ((bs.length - pl : Nat) : Int)) := hb 10 _ 112 rfl rfl l10
            have l14 : listed.getD 14 false = true := haft ⟨14, .data⟩ (by simp) rfl
            have t116 : y.tmps[116]? = some (.int .i64 ((bs.length - pl : Nat) : Int)) := hb 14 _ 116 rfl rfl l14
            unfold Oper.wp
            simp [go_sem, t112, t116]
            exact hT.step 15 (by decide) (fun h => by cases h)
          | 16, ho =>
            simp only [List.getElem?_toArray, List.getElem?_cons_succ, List.getElem?_cons_zero, Option.some.injEq] at ho
            subst ho
            have l8 : listed.getD 8 false = true := haft ⟨8, .data⟩ (by simp) rfl
            have t110 : y.tmps[110]? = some (.bool true) := hb 8 _ 110 rfl rfl l8
            have l15 : listed.getD 15 false = true := haft ⟨15, .data⟩ (by simp) rfl
            have t117 : y.tmps[117]? = some (.bool true) := hb 15 _ 117 rfl rfl l15
            unfold Oper.wp
            simp [go_sem, t110, t117]
            exact hT.step 16 (by decide) (fun _ => (hT.dep 8 rfl l8))
          | 17, ho =>
            simp only [List.getElem?_toArray, List.getElem?_cons_succ, List.getElem?_cons_zero, Option.some.injEq] at ho
            subst ho
            have l16 : listed.getD 16 false = true := haft ⟨16, .data⟩ (by simp) rfl
            have t118 : y.tmps[118]? = some (.bool true) := hb 16 _ 118 rfl rfl l16
            unfold Oper.wp
            simp [go_sem, t118]
            exact hT.step 17 (by decide) (fun _ => (hT.dep 16 rfl l16))
          | 18, ho =>
            simp only [List.getElem?_toArray, List.getElem?_cons_succ, List.getElem?_cons_zero, Option.some.injEq] at ho
            subst ho
            have lg : listed.getD 17 false = true := haft ⟨17, .guard⟩ (by simp) rfl
            unfold Oper.wp
            simp [go_sem]
            refine (wakes_ok (HLk.out x' hT.bel)).mono ?_
            rintro e w2 ⟨rfl, hb2⟩
            exact ⟨rfl, (hT.go hb2 (hT.dep 17 rfl lg)).step 18 (by decide) (fun h => by cases h)⟩
          | 19, ho =>
            simp only [List.getElem?_toArray, List.getElem?_cons_succ, List.getElem?_cons_zero, Option.some.injEq] at ho
            subst ho
            have l17 : listed.getD 17 false = true := haft ⟨17, .data⟩ (by simp) rfl
            have t119 : y.tmps[119]? = some (.bool true) := hb 17 _ 119 rfl rfl l17
            have l18 : listed.getD 18 false = true := haft ⟨18, .data⟩ (by simp) rfl
            have t120 : y.tmps[120]? = some (.bool true) := hb 18 _ 120 rfl rfl l18
            unfold Oper.wp
            simp [go_sem, t119, t120]
            exact hT.step 19 (by decide) (fun h => by cases h)
          | 20, ho =>
            simp only [List.getElem?_toArray, List.getElem?_cons_succ, List.getElem?_cons_zero, Option.some.injEq] at ho
            subst ho
            have l19 : listed.getD 19 false = true := haft ⟨19, .data⟩ (by simp) rfl
            have t121 : y.tmps[121]? = some (.bool true) := hb 19 _ 121 rfl rfl l19
            unfold Oper.wp
            simp [go_sem, t121]
            exact hT.step 20 (by decide) (fun h => by cases h)
          | i + 21, ho => simp at ho
        · intro listed y x' hall hT hsz0 hdf hb hbo
          have t4 : y.tmps[4]? = some (.bool true) := hb 20 _ 4 rfl rfl
          go_wp2
          refine bodyPost_ret (results_tmp rfl _ _ _) hdf ⟨?_, hbl.trans (hT.bel.mono hbl.size)⟩
          simp [t4]
    · have hii : ¬ (i : Int) < (cl.length : Int) := by omega
      have HI : Aside (OneInv ad rb w.heap.size b b bs w pl br wr) := hS
      have hpl := hS.rd.le
      obtain ⟨vw, hvw⟩ := hS.wt
      have HWk : Aside (∀ x, Below wr.heap.size wr x → WrAt b b (bs.take pl) vw x) := fun x hx => hvw.keep (S := []) (.of hx) (by simp)
      have HRk : Aside (∀ x, Below wr.heap.size wr x → RdAt rb w.heap.size bs pl br x) := fun x hx => hS.rd.kept (S := []) (.of hx) (by simp) (by simp)
      have HLk : Aside (∀ x, Below wr.heap.size wr x → Lw ad x) := fun x hx => hS.lw.kept (S := []) (.of hx) (by simp)
      have HSl : Aside (∀ x, Below wr.heap.size wr x → (convert 25 9 (.slice au pl cu)).run Tryd.prog x = .ok (.string ⟨(bs.take pl).toArray⟩) x) := fun x hx => conv_sl (HU.out.grow (hS.bel.trans (hx.mono hS.bel.size))) hpl
      have HLn : Aside ((bs.take pl).length ≤ 140737488355328) := by show _ ≤ _; simp; omega
      have HLp : Aside ((bs.take pl).length = pl) := by show _ = _; simp; omega
      have hsl1 : (0 : Int) ≤ (pl : Int) ∧ (pl : Int) ≤ (cu : Int) := by have := HCu.out; omega
      have HSub : Aside (IntKind.i64.wrap ((bs.length : Int) - (pl : Int)) = ((bs.length - pl : Nat) : Int)) := sub_small hpl hbs
      have hbl := HI.out.bel
      clear hS hvw
      go_wp2_with (go_at_call 27; refine (at_any HI.out.rd).mono ?_; rintro e wA ⟨rfl, hA⟩; obtain rfl := hA.symm)
      refine wp_region_invg' (by kernel_rfl) (fun i => match i with
        | 0 => .pointer (some ⟨b, 0, none⟩)
        | 1 => .slice (some ⟨wr.heap.size, 0, none⟩) pl pl
        | 2 => .string ⟨(bs.take pl).toArray⟩
        | 3 => .slice au bs.length cu
        | 4 => .int .i64 pl
        | 5 => .slice au pl cu
        | 6 => .string ⟨(bs.take pl).toArray⟩
        | 7 => .bool true
        | 8 => .bool true
        | 9 => .pointer (some ⟨rb, 0, none⟩)
        | 10 => .int .i64 ((bs.length - pl : Nat) : Int)
        | 11 => .slice au bs.length cu
        | 12 => .int .i64 bs.length
        | 13 => .int .i64 pl
        | 14 => .int .i64 ((bs.length - pl : Nat) : Int)
        | 15 => .bool true
        | 16 => .bool true
        | 17 => .bool true
        | 18 => .bool true
        | 19 => .bool true
        | _ => .bool true) (fun j => if j = 8 then some true else if j = 17 then some true else none) (by kernel_rfl) gv_ok (OneJ (bs.take pl) wr) ⟨(Below.refl _ wr).drew, fun _ => rfl, fun h => absurd ((rep_getD _ _).symm.trans h) (by decide), fun j _ h => absurd ((rep_getD _ _).symm.trans h) (by decide)⟩ ?_ ?_
      · intro i o ho listed y x' hT hsz0 hun haft hdf hb hbo
        match i, ho with
        | 0, ho =>
          simp only [List.getElem?_toArray, List.getElem?_cons_zero, Option.some.injEq] at ho
          subst ho
          have t6 : y.tmps[6]? = some (.pointer (some ⟨b, 0, none⟩)) := by rw [hbo 6 (by kernel_rfl)]; rfl
          unfold Oper.wp
          simp [go_sem, t6]
          exact hT.step 0 (by decide) (fun h => by cases h)
        | 1, ho =>
          simp only [List.getElem?_toArray, List.getElem?_cons_succ, List.getElem?_cons_zero, Option.some.injEq] at ho
          subst ho
          have l0 : listed.getD 0 false = true := haft ⟨0, .data⟩ (by simp) rfl
          have t102 : y.tmps[102]? = some (.pointer (some ⟨b, 0, none⟩)) := hb 0 _ 102 rfl rfl l0
          have hun1 : listed.getD 1 false = false := getD_flip hun
          have hsz : x'.heap.size = wr.heap.size := hT.pre hun1
          unfold Oper.wp
          simp [go_sem, t102]
          have hB := bytes_any (HWk.out x' hT.bel) HLn.out
          rw [HLp.out] at hB
          refine hB.mono ?_
          rintro e w2 ⟨rfl, hg2, hb2⟩
          rw [hsz]
          exact ⟨rfl, hT.bytes hun1 (by have : listed.size = 21 := hsz0; omega) hb2 hg2⟩
        | 2, ho =>
          simp only [List.getElem?_toArray, List.getElem?_cons_succ, List.getElem?_cons_zero, Option.some.injEq] at ho
          subst ho
          have l1 : listed.getD 1 false = true := haft ⟨1, .data⟩ (by simp) rfl
          have t103 : y.tmps[103]? = some (.slice (some ⟨wr.heap.size, 0, none⟩) pl pl) := hb 1 _ 103 rfl rfl l1
          have hcv := conv_block (hT.post l1) pl
          rw [HLp.out] at hcv
          unfold Oper.wp
          simp [execOp, go_sem, t103, hcv]
          exact hT.step 2 (by decide) (fun _ => l1)
        | 3, ho =>
          simp only [List.getElem?_toArray, List.getElem?_cons_succ, List.getElem?_cons_zero, Option.some.injEq] at ho
          subst ho
          have t0 : y.tmps[0]? = some (.slice au bs.length cu) := by rw [hbo 0 (by kernel_rfl)]; rfl
          unfold Oper.wp
          simp [go_sem, t0]
          exact hT.step 3 (by decide) (fun h => by cases h)
        | 4, ho =>
          simp only [List.getElem?_toArray, List.getElem?_cons_succ, List.getElem?_cons_zero, Option.some.injEq] at ho
          subst ho
          have t17 : y.tmps[17]? = some (.int .i64 pl) := by rw [hbo 17 (by kernel_rfl)]; rfl
          unfold Oper.wp
          simp [go_sem, t17]
          exact hT.step 4 (by decide) (fun h => by cases h)
        | 5, ho =>
          simp only [List.getElem?_toArray, List.getElem?_cons_succ, List.getElem?_cons_zero, Option.some.injEq] at ho
          subst ho
          have l3 : listed.getD 3 false = true := haft ⟨3, .data⟩ (by simp) rfl
          have t105 : y.tmps[105]? = some (.slice au bs.length cu) := hb 3 _ 105 rfl rfl l3
          have l4 : listed.getD 4 false = true := haft ⟨4, .data⟩ (by simp) rfl
          have t106 : y.tmps[106]? = some (.int .i64 pl) := hb 4 _ 106 rfl rfl l4
          unfold Oper.wp
          simp [go_sem, t105, t106, hsl1]
          exact hT.step 5 (by decide) (fun h => by cases h)
        | 6, ho =>
          simp only [List.getElem?_toArray, List.getElem?_cons_succ, List.getElem?_cons_zero, Option.some.injEq] at ho
          subst ho
          have l5 : listed.getD 5 false = true := haft ⟨5, .data⟩ (by simp) rfl
          have t107 : y.tmps[107]? = some (.slice au pl cu) := hb 5 _ 107 rfl rfl l5
          have hcv := HSl.out x' hT.bel
          unfold Oper.wp
          simp [execOp, go_sem, t107, hcv]
          exact hT.step 6 (by decide) (fun h => by cases h)
        | 7, ho =>
          simp only [List.getElem?_toArray, List.getElem?_cons_succ, List.getElem?_cons_zero, Option.some.injEq] at ho
          subst ho
          have l2 : listed.getD 2 false = true := haft ⟨2, .data⟩ (by simp) rfl
          have t104 : y.tmps[104]? = some (.string ⟨(bs.take pl).toArray⟩) := hb 2 _ 104 rfl rfl l2
          have l6 : listed.getD 6 false = true := haft ⟨6, .data⟩ (by simp) rfl
          have t108 : y.tmps[108]? = some (.string ⟨(bs.take pl).toArray⟩) := hb 6 _ 108 rfl rfl l6
          unfold Oper.wp
          simp [go_sem, t104, t108]
          exact hT.step 7 (by decide) (fun _ => (hT.dep 2 rfl l2))
        | 8, ho =>
          simp only [List.getElem?_toArray, List.getElem?_cons_succ, List.getElem?_cons_zero, Option.some.injEq] at ho
          subst ho
          have l7 : listed.getD 7 false = true := haft ⟨7, .data⟩ (by simp) rfl
          have t109 : y.tmps[109]? = some (.bool true) := hb 7 _ 109 rfl rfl l7
          unfold Oper.wp
          simp [go_sem, t109]
          exact hT.step 8 (by decide) (fun _ => (hT.dep 7 rfl l7))
        | 9, ho =>
          simp only [List.getElem?_toArray, List.getElem?_cons_succ, List.getElem?_cons_zero, Option.some.injEq] at ho
          subst ho
          have t5 : y.tmps[5]? = some (.pointer (some ⟨rb, 0, none⟩)) := by rw [hbo 5 (by kernel_rfl)]; rfl
          unfold Oper.wp
          simp [go_sem, t5]
          exact hT.step 9 (by decide) (fun h => by cases h)
        | 10, ho =>
          simp only [List.getElem?_toArray, List.getElem?_cons_succ, List.getElem?_cons_zero, Option.some.injEq] at ho
          subst ho
          have l9 : listed.getD 9 false = true := haft ⟨9, .data⟩ (by simp) rfl
          have t111 : y.tmps[111]? = some (.pointer (some ⟨rb, 0, none⟩)) := hb 9 _ 111 rfl rfl l9
          have lg : listed.getD 8 false = true := haft ⟨8, .guard⟩ (by simp) rfl
          unfold Oper.wp
          simp [go_sem, t111]
          refine (left_bb (HRk.out x' hT.bel)).mono ?_
          rintro e w2 ⟨rfl, hb2⟩
          exact ⟨rfl, (hT.go hb2 (hT.dep 8 rfl lg)).step 10 (by decide) (fun h => by cases h)⟩
        | 11, ho =>
          simp only [List.getElem?_toArray, List.getElem?_cons_succ, List.getElem?_cons_zero, Option.some.injEq] at ho
          subst ho
          have t0 : y.tmps[0]? = some (.slice au bs.length cu) := by rw [hbo 0 (by kernel_rfl)]; rfl
          unfold Oper.wp
          simp [go_sem, t0]
          exact hT.step 11 (by decide) (fun h => by cases h)
        | 12, ho =>
          simp only [List.getElem?_toArray, List.getElem?_cons_succ, List.getElem?_cons_zero, Option.some.injEq] at ho
          subst ho
          have l11 : listed.getD 11 false = true := haft ⟨11, .data⟩ (by simp) rfl
          have t113 : y.tmps[113]? = some (.slice au bs.length cu) := hb 11 _ 113 rfl rfl l11
          unfold Oper.wp
          simp [go_sem, t113]
          exact hT.step 12 (by decide) (fun h => by cases h)
        | 13, ho =>
          simp only [List.getElem?_toArray, List.getElem?_cons_succ, List.getElem?_cons_zero, Option.some.injEq] at ho
          subst ho
          have t17 : y.tmps[17]? = some (.int .i64 pl) := by rw [hbo 17 (by kernel_rfl)]; rfl
          unfold Oper.wp
          simp [go_sem, t17]
          exact hT.step 13 (by decide) (fun h => by cases h)
        | 14, ho =>
          simp only [List.getElem?_toArray, List.getElem?_cons_succ, List.getElem?_cons_zero, Option.some.injEq] at ho
          subst ho
          have l12 : listed.getD 12 false = true := haft ⟨12, .data⟩ (by simp) rfl
          have t114 : y.tmps[114]? = some (.int .i64 bs.length) := hb 12 _ 114 rfl rfl l12
          have l13 : listed.getD 13 false = true := haft ⟨13, .data⟩ (by simp) rfl
          have t115 : y.tmps[115]? = some (.int .i64 pl) := hb 13 _ 115 rfl rfl l13
          unfold Oper.wp
          simp [go_sem, t114, t115]
          refine ⟨by rw [HSub.out], ?_⟩
          exact hT.step 14 (by decide) (fun h => by cases h)
        | 15, ho =>
          simp only [List.getElem?_toArray, List.getElem?_cons_succ, List.getElem?_cons_zero, Option.some.injEq] at ho
          subst ho
          have l10 : listed.getD 10 false = true := haft ⟨10, .data⟩ (by simp) rfl
          have t112 : y.tmps[112]? = some (.int .i64 ((bs.length - pl : Nat) : Int)) := hb 10 _ 112 rfl rfl l10
          have l14 : listed.getD 14 false = true := haft ⟨14, .data⟩ (by simp) rfl
          have t116 : y.tmps[116]? = some (.int .i64 ((bs.length - pl : Nat) : Int)) := hb 14 _ 116 rfl rfl l14
          unfold Oper.wp
          simp [go_sem, t112, t116]
          exact hT.step 15 (by decide) (fun h => by cases h)
        | 16, ho =>
          simp only [List.getElem?_toArray, List.getElem?_cons_succ, List.getElem?_cons_zero, Option.some.injEq] at ho
          subst ho
          have l8 : listed.getD 8 false = true := haft ⟨8, .data⟩ (by simp) rfl
          have t110 : y.tmps[110]? = some (.bool true) := hb 8 _ 110 rfl rfl l8
          have l15 : listed.getD 15 false = true := haft ⟨15, .data⟩ (by simp) rfl
          have t117 : y.tmps[117]? = some (.bool true) := hb 15 _ 117 rfl rfl l15
          unfold Oper.wp
          simp [go_sem, t110, t117]
          exact hT.step 16 (by decide) (fun _ => (hT.dep 8 rfl l8))
        | 17, ho =>
          simp only [List.getElem?_toArray, List.getElem?_cons_succ, List.getElem?_cons_zero, Option.some.injEq] at ho
          subst ho
          have l16 : listed.getD 16 false = true := haft ⟨16, .data⟩ (by simp) rfl
          have t118 : y.tmps[118]? = some (.bool true) := hb 16 _ 118 rfl rfl l16
          unfold Oper.wp
          simp [go_sem, t118]
          exact hT.step 17 (by decide) (fun _ => (hT.dep 16 rfl l16))
        | 18, ho =>
          simp only [List.getElem?_toArray, List.getElem?_cons_succ, List.getElem?_cons_zero, Option.some.injEq] at ho
          subst ho
          have lg : listed.getD 17 false = true := haft ⟨17, .guard⟩ (by simp) rfl
          unfold Oper.wp
          simp [go_sem]
          refine (wakes_ok (HLk.out x' hT.bel)).mono ?_
          rintro e w2 ⟨rfl, hb2⟩
          exact ⟨rfl, (hT.go hb2 (hT.dep 17 rfl lg)).step 18 (by decide) (fun h => by cases h)⟩
        | 19, ho =>
          simp only [List.getElem?_toArray, List.getElem?_cons_succ, List.getElem?_cons_zero, Option.some.injEq] at ho
          subst ho
          have l17 : listed.getD 17 false = true := haft ⟨17, .data⟩ (by simp) rfl
          have t119 : y.tmps[119]? = some (.bool true) := hb 17 _ 119 rfl rfl l17
          have l18 : listed.getD 18 false = true := haft ⟨18, .data⟩ (by simp) rfl
          have t120 : y.tmps[120]? = some (.bool true) := hb 18 _ 120 rfl rfl l18
          unfold Oper.wp
          simp [go_sem, t119, t120]
          exact hT.step 19 (by decide) (fun h => by cases h)
        | 20, ho =>
          simp only [List.getElem?_toArray, List.getElem?_cons_succ, List.getElem?_cons_zero, Option.some.injEq] at ho
          subst ho
          have l19 : listed.getD 19 false = true := haft ⟨19, .data⟩ (by simp) rfl
          have t121 : y.tmps[121]? = some (.bool true) := hb 19 _ 121 rfl rfl l19
          unfold Oper.wp
          simp [go_sem, t121]
          exact hT.step 20 (by decide) (fun h => by cases h)
        | i + 21, ho => simp at ho
      · intro listed y x' hall hT hsz0 hdf hb hbo
        have t4 : y.tmps[4]? = some (.bool true) := hb 20 _ 4 rfl rfl
        go_wp2
        refine bodyPost_ret (results_tmp rfl _ _ _) hdf ⟨?_, hbl.trans (hT.bel.mono hbl.size)⟩
        simp [t4]
end Go.Proofs.YtacbgognnjcinaaDoor
