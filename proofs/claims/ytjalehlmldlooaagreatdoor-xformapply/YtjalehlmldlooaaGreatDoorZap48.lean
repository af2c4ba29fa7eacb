
/-
  An operation on a row and on a model, whatever it is: done, or refused.
-/
import Derived.Test.YtjalehlmldlooaaGreatDoorZap45
import Derived.Test.YtjalehlmldlooaaGreatDoorZap47
namespace Go.Proofs.YtjalehlmldlooaaGreatDoor
open Go.RowKit Go.Extern.Stop Go.Stop Go.Extern
set_option maxRecDepth 100000

/-- What becomes of an operation: not right, not valid, an ID that is there, done. -/
def vdO (l : List El) (op : Xo) (ix : Idn) : Nat := if rightO op = false then 0 else if validO op l.length = false then 1 else if op.k = 1 ∧ hasI l ix = true then 2 else 3
def nxtL (l : List El) (op : Xo) (ix : Idn) : List El := if vdO l op ix = 3 then stepL l op ix else l
/-- The document's answer. -/
def NoS (B n : Nat) (op : Xo) (v : Value) (w : World) : Prop := (n = 0 ∧ No1 B bXform bApply (place op.p) 1 v w) ∨ (n = 1 ∧ No1 B bXform bApply (place op.p) 2 v w) ∨ (n = 2 ∧ No2 B bXform bApply op.p bModel bInsert op.p ((8 : Nat) + 1 : Int) v w) ∨ (n = 3 ∧ v = .agg (nov 0 none 0 0 none 0 0))
/-- The program's answer. -/
def ErS (ad : Nat → Addr) (n : Nat) (op : Xo) (v : Value) (w : World) : Prop := (n = 0 ∧ ∃ b, v = .iface 97 (.pointer (some ⟨b, 0, none⟩)) ∧ FaultAt ad b bXform bApply (place op.p) 0 w) ∨ (n = 1 ∧ ∃ b, v = .iface 97 (.pointer (some ⟨b, 0, none⟩)) ∧ FaultAt ad b bXform bApply (place op.p) 1 w) ∨ (n = 2 ∧ ∃ b b2, v = .iface 97 (.pointer (some ⟨b, 0, none⟩)) ∧ Fault2 ad b b2 bXform bApply op.p bModel bInsert op.p 8 w) ∨ (n = 3 ∧ v = .nilIface)
theorem NoS.later {B n : Nat} {op : Xo} {v : Value} {w w' : World} (h : NoS B n op v w) (hb : Below w.heap.size w w') : NoS B n op v w' := by
  rcases h with ⟨h, q⟩ | ⟨h, q⟩ | ⟨h, q⟩ | h
  · exact .inl ⟨h, q.later hb⟩
  · exact .inr (.inl ⟨h, q.later hb⟩)
  · exact .inr (.inr (.inl ⟨h, q.later hb⟩))
  · exact .inr (.inr (.inr h))
theorem ErS.later {ad : Nat → Addr} {n : Nat} {op : Xo} {v : Value} {w w' : World} (h : ErS ad n op v w) (hb : Below w.heap.size w w') : ErS ad n op v w' := by
  rcases h with ⟨h, b, q, r⟩ | ⟨h, b, q, r⟩ | ⟨h, b, b2, q, r⟩ | h
  · exact .inl ⟨h, b, q, r.later hb⟩
  · exact .inr (.inl ⟨h, b, q, r.later hb⟩)
  · exact .inr (.inr (.inl ⟨h, b, b2, q, r.later hb⟩))
  · exact .inr (.inr (.inr h))
/-- Both answers are held against one another. -/
theorem refused_all {ad : Nat → Addr} {B n : Nat} {op : Xo} {ev nv : Value} {w : World} (L : Laid ad w) (h1 : ErS ad n op ev w) (h2 : NoS B n op nv w) :
    Calls Tryz.prog 8 #[ev, nv] w fun e w' => e = .returned (.bool true) ∧ Below w.heap.size w w' := by
  rcases h1 with ⟨e1, b, rfl, f⟩ | ⟨e1, b, rfl, f⟩ | ⟨e1, b, b2, rfl, f⟩ | ⟨e1, rfl⟩ <;> rcases h2 with ⟨e2, g, g', rfl, c1, c2, _⟩ | ⟨e2, g, g', rfl, c1, c2, _⟩ | ⟨e2, g, g', c', rfl, c1, c2, _⟩ | ⟨e2, rfl⟩
  all_goals try (exfalso; omega)
  · exact refused_some (k := 0) L f (by decide) c1 c2
  · exact refused_some (k := 1) L f (by decide) c1 c2
  · exact refused_two (k := 8) L f (by decide) c1 c2
  · exact refused_none none none 0 0 0 0 w
theorem vd_arg {l : List El} {op : Xo} {ix : Idn} (h : rightO op = false) : vdO l op ix = 0 := by unfold vdO; rw [if_pos h]
theorem vd_range {l : List El} {op : Xo} {ix : Idn} (h : rightO op = true) (hv : validO op l.length = false) : vdO l op ix = 1 := by unfold vdO; rw [if_neg (by rw [h]; decide), if_pos hv]
theorem vd_twice {l : List El} {op : Xo} {ix : Idn} (hv : validO op l.length = true) (k : op.k = 1) (hi : hasI l ix = true) : vdO l op ix = 2 := by unfold vdO; rw [if_neg (by rw [validO_right hv]; decide), if_neg (by rw [hv]; decide), if_pos ⟨k, hi⟩]
theorem vd_done {l : List El} {op : Xo} {ix : Idn} (hv : validO op l.length = true) (k : ¬ (op.k = 1 ∧ hasI l ix = true)) : vdO l op ix = 3 := by unfold vdO; rw [if_neg (by rw [validO_right hv]; decide), if_neg (by rw [hv]; decide), if_neg k]
theorem nxt_same {l : List El} {op : Xo} {ix : Idn} {n : Nat} (h : vdO l op ix = n) (hn : ¬ n = 3) : nxtL l op ix = l := by unfold nxtL; rw [h, if_neg hn]
theorem nxt_step {l : List El} {op : Xo} {ix : Idn} (h : vdO l op ix = 3) : nxtL l op ix = stepL l op ix := by unfold nxtL; rw [h, if_pos rfl]
theorem hasI_no {l : List El} {ix : Idn} (h : ¬ hasI l ix = true) : ∀ e ∈ l, e.id ≠ ix := fun e he q => h (by unfold hasI; rw [List.any_eq_true]; exact ⟨e, he, by simpa using q⟩)
theorem hasI_yes {l : List El} {ix : Idn} (h : hasI l ix = true) : ∃ e ∈ l, e.id = ix := by
  unfold hasI at h
  rw [List.any_eq_true] at h
  obtain ⟨e, he, q⟩ := h
  exact ⟨e, he, by simpa using q⟩
theorem fair_near {b h : Int} (hb : b ≤ 1000) (h1 : -b ≤ h) (h2 : h ≤ b) : fairH (h + 1) = true ∧ fairH (h + -1) = true := by
  unfold fairH
  simp
  omega
/-- What barrowref07.Apply gives. -/
def RfO (B : Nat) (u : Value) (l : List El) (op : Xo) (ix : Idn) (vr vn : Value) (w : World) : Prop := XsAt w vr (nxtL l op ix) ∧ (vr = u ∨ ∀ k, vr.ownBlock = some k → B ≤ k) ∧ NoS B (vdO l op ix) op vn w
theorem refApply_all {w : World} {u : Value} {l : List El} {b : Int} (hl : XsAt w u l) (hR : RowOk b l) (hb : b ≤ 1000) (op : Xo) (ix : Idn) (hn : l.length ≤ 1000000) :
    Calls Tryz.prog 6 #[u, .agg (ov op), .agg (idc ix.a ix.b ix.c)] w fun r w' => ∃ vr vn, r = .returned (.tuple #[vr, vn]) ∧ RfO w.heap.size u l op ix vr vn w' ∧ Below w.heap.size w w' := by
  cases r : rightO op with
  | false =>
    have hd := vd_arg (l := l) (ix := ix) r
    refine (refApply_arg hl.sl op ix r).mono ?_
    rintro e w' ⟨v9, rfl, h1, h2⟩
    exact ⟨u, v9, rfl, ⟨by rw [nxt_same hd (by decide)]; exact hl.later h2, .inl rfl, .inl ⟨hd, h1⟩⟩, h2⟩
  | true =>
    cases v : validO op l.length with
    | false =>
      have hd := vd_range (l := l) (ix := ix) r v
      refine (refApply_range hl.sl op ix r v).mono ?_
      rintro e w' ⟨v9, rfl, h1, h2⟩
      exact ⟨u, v9, rfl, ⟨by rw [nxt_same hd (by decide)]; exact hl.later h2, .inl rfl, .inr (.inl ⟨hd, h1⟩)⟩, h2⟩
    | true =>
      obtain ⟨k, p, c, r9⟩ := op
      obtain ⟨p0, p1⟩ := validO_place v
      have hk := rightO_kind r
      simp only at p0 p1 hk
      obtain ⟨ip, rfl⟩ : ∃ ip : Nat, p = (ip : Int) := ⟨p.toNat, by omega⟩
      by_cases k1 : k = 1
      · subst k1
        have hc : rightC c = true := by
          unfold rightO at r
          simp at r
          exact r.2
        by_cases hi : hasI l ix = true
        · have hd := vd_twice v rfl hi
          refine (refApply_twice hl ip c r9 ix v hn (by omega) ?_).mono ?_
          · unfold wrK flK
            rw [show El.id ⟨ix.a, ix.b, ix.c, c, 0⟩ = ix from rfl, hi, hc]
            rfl
          rintro e w' ⟨v9, rfl, h1, h2⟩
          exact ⟨u, v9, rfl, ⟨by rw [nxt_same hd (by decide)]; exact hl.later h2, .inl rfl, .inr (.inr (.inl ⟨hd, h1⟩))⟩, h2⟩
        · have hd := vd_done v (fun q => hi q.2)
          refine (refApply_ins hl ip c r9 ix v hn (by omega) ?_).mono ?_
          · unfold wrK flK
            rw [show El.id ⟨ix.a, ix.b, ix.c, c, 0⟩ = ix from rfl, hc, if_neg (by decide), if_neg (show ¬ fairH 0 = false by decide), if_neg hi]
          rintro e w' ⟨v9, rfl, h1, h3, h2⟩
          exact ⟨v9, _, rfl, ⟨by rw [nxt_step hd, stepL_ins _ _ rfl]; exact h1, .inr h3, .inr (.inr (.inr ⟨hd, rfl⟩))⟩, h2⟩
      · obtain ⟨e0, he⟩ : ∃ e, l[ip]? = some e := ⟨_, List.getElem?_eq_getElem (by omega)⟩
        have hg := hR.good e0 (List.mem_of_getElem? he)
        have hf := fair_near hb hg.2.2.1 hg.2.2.2
        have hd := vd_done (ix := ix) v (fun q => k1 q.1)
        by_cases k3 : k = 3
        · subst k3
          refine (refApply_down hl ip c r9 ix v hn e0 he (by omega) (by omega) hf.2).mono ?_
          rintro e w' ⟨v9, rfl, h1, h3, h2⟩
          exact ⟨v9, _, rfl, ⟨by rw [nxt_step hd, stepL_add _ _ (show ¬ (3 : Int) = 1 by decide)]; exact h1, .inr h3, .inr (.inr (.inr ⟨hd, rfl⟩))⟩, h2⟩
        · have k2 : k = 2 := by omega
          subst k2
          refine (refApply_up hl ip c r9 ix v hn e0 he (by omega) (by omega) hf.1).mono ?_
          rintro e w' ⟨v9, rfl, h1, h3, h2⟩
          exact ⟨v9, _, rfl, ⟨by rw [nxt_step hd, stepL_add _ _ (show ¬ (2 : Int) = 1 by decide)]; exact h1, .inr h3, .inr (.inr (.inr ⟨hd, rfl⟩))⟩, h2⟩
theorem Mo.wide {mb tb kb N N' : Nat} {R : Rows} {l : List El} {w : World} (h : Mo mb tb kb N R l w) (hn : N ≤ N') : Mo mb tb kb N' R l w := by
  obtain ⟨n, f, h1, h2⟩ := h
  exact ⟨n, f, by omega, h2⟩
theorem apply_all {ad : Nat → Addr} {mb tb kb N : Nat} {R : Rows} {l : List El} {w : World} {b : Int} (L : Laid ad w) (h : Mo mb tb kb N R l w) (hN : N + l.length ≤ 1000000000000) (hR : RowOk b l) (hb : b ≤ 1000) (op : Xo) (ix : Idn) (hi : ix.In) (hn : l.length + 1 ≤ 1073741824) :
    Calls Tryz.prog 7 #[pv mb, .agg (ov op), .agg (idc ix.a ix.b ix.c)] w fun r w' => ∃ ve, r = .returned ve ∧ ErS ad (vdO l op ix) op ve w' ∧ Mo mb tb kb (N + l.length + 1) R (nxtL l op ix) w' ∧ K2 tb kb w w' := by
  cases r : rightO op with
  | false =>
    have hd := vd_arg (l := l) (ix := ix) r
    refine (apply_arg L op ix r).mono ?_
    rintro e w' ⟨b9, rfl, h1, h2⟩
    exact ⟨_, rfl, .inl ⟨hd, b9, rfl, h1⟩, by rw [nxt_same hd (by decide)]; exact (h.later h2).wide (by omega), K2.of h2⟩
  | true =>
    cases v : validO op l.length with
    | false =>
      have hd := vd_range (l := l) (ix := ix) r v
      have h0 := h
      obtain ⟨n, f, _, hM, _⟩ := h
      refine (apply_range L hM op ix r v).mono ?_
      rintro e w' ⟨b9, rfl, h1, h2⟩
      exact ⟨_, rfl, .inr (.inl ⟨hd, b9, rfl, h1⟩), by rw [nxt_same hd (by decide)]; exact (h0.later h2).wide (by omega), K2.of h2⟩
    | true =>
      by_cases q : op.k = 1 ∧ hasI l ix = true
      · have hd := vd_twice v q.1 q.2
        have h0 := h
        obtain ⟨n, f, _, hM, hK⟩ := h
        refine (apply_twice L hM op ix q.1 v hi ((hK ix).2 (hasI_yes q.2))).mono ?_
        rintro e w' ⟨b9, b2, rfl, h1, h2⟩
        exact ⟨_, rfl, .inr (.inr (.inl ⟨hd, b9, b2, rfl, h1⟩)), by rw [nxt_same hd (by decide)]; exact (h0.later h2).wide (by omega), K2.of h2⟩
      · have hd := vd_done v q
        refine (apply_mo h hN hR (by omega) op ix v hi (fun k => hasI_no (fun z => q ⟨k, z⟩)) hn).mono ?_
        rintro e w' ⟨rfl, h1, h2⟩
        exact ⟨_, rfl, .inr (.inr (.inr ⟨hd, rfl⟩)), by rw [nxt_step hd]; exact h1, h2⟩
theorem nxt_ok {l : List El} {b : Int} {op : Xo} {ix : Idn} (hR : RowOk b l) (hb : 0 ≤ b) (hi : ix.In) : RowOk (b + 1) (nxtL l op ix) ∧ (nxtL l op ix).length ≤ l.length + 1 := by
  by_cases hd : vdO l op ix = 3
  · rw [nxt_step hd]
    have hr : ¬ rightO op = false := fun q => by rw [vd_arg q] at hd; cases hd
    have hv : validO op l.length = true := by
      cases v : validO op l.length with
      | true => rfl
      | false => rw [vd_range (by simpa using hr) v] at hd; cases hd
    have hq : ¬ (op.k = 1 ∧ hasI l ix = true) := fun q => by rw [vd_twice hv q.1 q.2] at hd; cases hd
    refine ⟨hR.step hb hv hi (fun k => hasI_no (fun z => hq ⟨k, z⟩)), ?_⟩
    have := (runs_len [(op, ix)] l ⟨hv, trivial⟩).1
    simpa [runs] using this
  · rw [nxt_same rfl hd]
    exact ⟨⟨hR.apart, fun e he => by have := hR.good e he; exact ⟨this.1, this.2.1, by omega, by omega⟩⟩, by omega⟩
end Go.Proofs.YtjalehlmldlooaaGreatDoor
