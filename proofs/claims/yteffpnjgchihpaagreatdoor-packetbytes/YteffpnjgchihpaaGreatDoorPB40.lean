
/-
  The reading of a message is tried: what is caught; Read.
-/
import Derived.Test.YteffpnjgchihpaaGreatDoorPB39
namespace Go.Proofs.YteffpnjgchihpaaGreatDoor
open Go.RowKit
set_option maxRecDepth 100000

theorem noStopP (w : World) : (Instr.typeAssert .nilIface 20 132 true).run Tryz.prog w = .ok (.tuple #[.agg #[.nilIface], .bool false]) w := by kernel_rfl
theorem isStopP (v : Value) (w : World) : (Instr.typeAssert (.iface 132 v) 20 132 true).run Tryz.prog w = .ok (.tuple #[v, .bool true]) w := by kernel_rfl
theorem rep10 : Array.replicate 10 undef = #[undef, undef, undef, undef, undef, undef, undef, undef, undef, undef] := rfl

theorem catchP_idle (ep : Addr) (w : World) :
    CallsD Tryz.prog 69 #[.pointer (some ep)] .returning w fun e u' w' => e = .returned (.tuple #[]) ∧ u' = .returning ∧ w' = w.alloc (.cells #[.nilIface] 132) := by
  have hn := noStopP
  refine callsD_of_wpS Tryz.func69 rfl fun c₀ cs hu => ?_
  apply wpS_seq
  apply wpS_region
  simp [wpOpsS, go_sem, recoverD, hu, Tryz.ntmps69, Exit.thenS, hn]
  apply wpS_seq
  apply wpS_region
  simp [wpOpsS, go_sem, Exit.thenS]
  refine wpS_cond (t := false) (by simp [Act.eval]) ?_
  simp only [Bool.false_eq_true, if_false]
  refine wpS_of_wp (wp_skip ?_)
  cases c₀
  simp_all [bodyPostS, results, Tryz.results69]

set_option maxHeartbeats 1000000 in
theorem catchP_up (ev : Nat) (t : TypeId) (v x : Value) (w : World) (hev : w.heap[ev]? = some (.cells #[x] 42 (0, 0))) :
    CallsD Tryz.prog 69 #[.pointer (some ⟨ev, 0, none⟩)] (.panicking [{ v := .iface 132 (.agg #[.iface t v]), recovered := false }]) w fun e u' w' => e = .returned (.tuple #[]) ∧ u' = .panicking [{ v := .iface 132 (.agg #[.iface t v]), recovered := true }] ∧ w' = (w.alloc (.cells #[.iface t v] 132)).setCell ⟨ev, 0, none⟩ (.iface t v) := by
  have hn := isStopP
  refine callsD_of_wpS Tryz.func69 rfl fun c₀ cs hu => ?_
  apply wpS_seq
  apply wpS_region
  simp [wpOpsS, go_sem, recoverD, hu, Tryz.ntmps69, Exit.thenS, hn, rep10]
  apply wpS_seq
  apply wpS_region
  simp [wpOpsS, go_sem, Exit.thenS]
  refine wpS_cond (t := true) (by simp [Act.eval]) ?_
  simp only [if_true]
  refine wpS_of_wp (wp_mono (Q := fun e a' w' => e = .normal ∧ a'.defers = [] ∧ w' = (w.alloc (.cells #[.iface t v] 132)).setCell ⟨ev, 0, none⟩ (.iface t v)) ?_ ?_)
  · clear hu hn
    have kw : Kept [] w (w.alloc (.cells #[.iface t v] 132)) := (Kept.refl _ _).alloc _
    have h1 := kw.heap hev (by simp)
    have c1 : (w.alloc (.cells #[.iface t v] 132)).cell? ⟨ev, 0, none⟩ = some x := by rw [cellW_of h1]; rfl
    have f1 := frozenW_of h1 0
    have c2 : (w.alloc (.cells #[.iface t v] 132)).cell? ⟨w.heap.size, 0, none⟩ = some (.iface t v) := by rw [cellW_of (heap_alloc_last _ _ _)]; rfl
    clear kw h1 hev
    generalize w.alloc (.cells #[.iface t v] 132) = w1 at *
    generalize w.heap.size = sp at *
    go_wp2
  · rintro e a' w' ⟨rfl, hd, rfl⟩
    cases c₀
    simp_all [bodyPostS, results, Tryz.results69]

abbrev zMs : Array Value := mv (0, 0, 0, zero8, [], zeroRs) (.slice none 0 0)
theorem load_err {eb : Nat} {ev : Value} {w : World} (hev : w.cell? ⟨eb, 0, none⟩ = some ev) : (loadVar 42 ⟨eb, 0, none⟩).run Tryz.prog w = .ok ev w := by simp [go_sem, hev]
theorem results_all {fn : Func} {p u : Tmp} {tmps : Array Value} {w : World} {b eb : Nat} {m : Pms} {s ev : Value} (h : fn.results = #[.cell p 31, .cell u 42]) (hp : tmps.getD p undef = .pointer (some ⟨b, 0, none⟩)) (he : tmps.getD u undef = .pointer (some ⟨eb, 0, none⟩)) (hb : RowAt b (mv m s) 31 w) (hs : shM m) (hev : w.cell? ⟨eb, 0, none⟩ = some ev) :
    (results fn tmps).run Tryz.prog w = .ok (.tuple #[.agg (mv m s), ev]) w := by
  have hp' : tmps[p]?.getD undef = .pointer (some ⟨b, 0, none⟩) := by simpa using hp
  have he' : tmps[u]?.getD undef = .pointer (some ⟨eb, 0, none⟩) := by simpa using he
  simp [results, h, hp', he', asAddr, run_loadVar_row w b _ _ _ _ _ hb Tryz.underlying31 rfl (mv_size hs), load_err hev]

/-- What All answers. -/
def AllQ (ad : Nat → Addr) (bs : List UInt8) (w : World) (e : Ending) (w' : World) : Prop := Below w.heap.size w w' ∧ match pMsgE bs 0 with
  | .ok (m, _) => ∃ s, e = .returned (.tuple #[.agg (mv m s), .nilIface]) ∧ OwnA w.heap.size s m.2.2.2.2.1 w' ∧ shM m
  | .error x => ∃ f, w.heap.size ≤ f ∧ e = .returned (.tuple #[.agg zMs, refv f]) ∧ PeAt ad x f w'
theorem AllQ.mkErr {ad : Nat → Addr} {bs : List UInt8} {w : World} {w' : World} {x : Pe} {f : Nat} (hp : pMsgE bs 0 = .error x) (hb : Below w.heap.size w w') (hf : w.heap.size ≤ f) (hx : PeAt ad x f w') : AllQ ad bs w (.returned (.tuple #[.agg zMs, refv f])) w' := by unfold AllQ; rw [hp]; exact ⟨hb, f, hf, rfl, hx⟩
theorem AllQ.mkOk {ad : Nat → Addr} {bs : List UInt8} {w : World} {w' : World} {m : Pms} {q : Nat} {s : Value} (hp : pMsgE bs 0 = .ok (m, q)) (hb : Below w.heap.size w w') (ho : OwnA w.heap.size s m.2.2.2.2.1 w') (hs : shM m) : AllQ ad bs w (.returned (.tuple #[.agg (mv m s), .nilIface])) w' := by unfold AllQ; rw [hp]; exact ⟨hb, s, rfl, ho, hs⟩

theorem AllQ.ok {ad : Nat → Addr} {bs : List UInt8} {w : World} {e : Ending} {w' : World} {m : Pms} {q : Nat} (h : AllQ ad bs w e w') (hp : pMsgE bs 0 = .ok (m, q)) : Below w.heap.size w w' ∧ ∃ s, e = .returned (.tuple #[.agg (mv m s), .nilIface]) ∧ OwnA w.heap.size s m.2.2.2.2.1 w' ∧ shM m := by unfold AllQ at h; rw [hp] at h; exact h
theorem AllQ.err {ad : Nat → Addr} {bs : List UInt8} {w : World} {e : Ending} {w' : World} {x : Pe} (h : AllQ ad bs w e w') (hp : pMsgE bs 0 = .error x) : Below w.heap.size w w' ∧ ∃ f, w.heap.size ≤ f ∧ e = .returned (.tuple #[.agg zMs, refv f]) ∧ PeAt ad x f w' := by unfold AllQ at h; rw [hp] at h; exact h

set_option maxHeartbeats 2000000 in
theorem all_any {ad : Nat → Addr} {w : World} {v : Value} {bs : List UInt8} (L : Lw ad w) (hv : SlB w v bs) (hlen : bs.length ≤ 1000000) :
    Calls Tryz.prog 57 #[.string nmPacket, .string nmRead, v, .func (.func 58) #[] #[]] w (AllQ ad bs w) := by
  have hz : (Tryz.prog.info? 31).bind (·.zero) = some (.agg zMs) := zero_ms'
  have hmf : ∀ (fn : Fn) (first cap : Array Value) (w : World), (Instr.makeFunc fn first cap).run Tryz.prog w = .ok (.func fn first cap) w := fun _ _ _ _ => rfl
  have hcf : ∀ caps w, (callFunc 58 caps).run Tryz.prog w = .ok (.enter 58 caps) w := fun caps w => by simp [go_sem]
  obtain ⟨r0, e0, hB⟩ := two_boxes w zMs #[.nilIface] 31 42
  have HN := hid_of' (newReader_any (hv.grow hB) hlen (by have := L.size; simp; omega))
  have L1 := L.kept (S := []) (.of hB) (by simp)
  have hsm : shM (0, 0, 0, zero8, [], zeroRs) := shM0 0 0 0
  clear L hv hlen
  go_enter_defers Tryz.func57, Tryz.ntmps57
  go_upto_region 3 with (first | (refine wpL_alloc rfl _ rfl hz ?_; go_simp) | (go_at_call 68; refine HN.out.mono ?_; rintro e w1 ⟨rb, rfl, hrd, hlo, hb1⟩))
  have hsz2 : ((w.alloc (.cells zMs 31)).alloc (.cells #[.nilIface] 42)).heap.size = w.heap.size + 2 := by simp
  rw [hsz2] at hlo
  have ka : Kept [] w1 (w1.alloc (.cells #[.string nmPacket, .string nmRead, .pointer (some ⟨rb, 0, none⟩)] 130)) := (Kept.refl _ _).alloc _
  have hs4 : SdAt w1.heap.size rb (w1.alloc (.cells #[.string nmPacket, .string nmRead, .pointer (some ⟨rb, 0, none⟩)] 130)) := RowAt.new w1 _ _
  have h4 := hrd.kept ka (by simp) (by simp)
  have L4 := (L1.kept (S := []) (.of hb1) (by simp)).kept ka (by simp)
  have q0 : RowAt w.heap.size zMs 31 (w1.alloc (.cells #[.string nmPacket, .string nmRead, .pointer (some ⟨rb, 0, none⟩)] 130)) := (r0.later hb1).kept ka (by simp)
  have q1 : RowAt (w.heap.size + 1) #[.nilIface] 42 (w1.alloc (.cells #[.string nmPacket, .string nmRead, .pointer (some ⟨rb, 0, none⟩)] 130)) := (e0.later hb1).kept ka (by simp)
  have hB4 := bgo (bgo hB hb1) (below_one w1 (.cells #[.string nmPacket, .string nmRead, .pointer (some ⟨rb, 0, none⟩)] 130))
  have hrl := lt_of_heap hrd.lies
  have hs1 : w1.heap.size < (w1.alloc (.cells #[.string nmPacket, .string nmRead, .pointer (some ⟨rb, 0, none⟩)] 130)).heap.size := by simp
  clear hz r0 e0 hB HN L1 hrd hb1 ka hsz2
  generalize hw4 : (w1.alloc (.cells #[.string nmPacket, .string nmRead, .pointer (some ⟨rb, 0, none⟩)] 130)) = w4 at *
  clear hw4
  generalize hsb : w1.heap.size = sb at *
  clear hsb
  have HM := hid_of' (message_rd L4 h4 hs4)
  have H4 := hid_of' (And.intro h4 (And.intro hs4 (And.intro L4 hB4)))
  have Q := hid_of' (And.intro q0 q1)
  clear h4 hs4 L4 q0 q1 hB4
  cases hp : pMsg bs 0 with
  | error x =>
    have HP := hid_of' (And.intro hp (msgE_err hp))
    clear hp
    go_wp2_with (first | (go_at_call 58; refine HM.out.mono ?_; intro e w5 h5; obtain ⟨hk5, f, hf, rfl, hpe⟩ := h5.err HP.out.1; clear h5))
    have e5 := Q.out.2.kept hk5 (by simp; omega)
    have z5 := Q.out.1.kept hk5 (by simp; omega)
    have hB5 := H4.out.2.2.2.trans (hk5.below (B := w.heap.size) (by simp; omega) H4.out.2.2.2.size)
    have hwf : w.heap.size ≤ f := Nat.le_trans H4.out.2.2.2.size hf
    refine leaves_cons (f := 69) (args := #[.pointer (some ⟨w.heap.size + 1, 0, none⟩)]) (by simp) (by simp [go_sem]) ?_
    refine (catchP_up (w.heap.size + 1) 85 (.pointer (some ⟨f, 0, none⟩)) .nilIface w5 e5).mono ?_
    rintro e u' w6 ⟨rfl, rfl, rfl⟩
    have k0 : Kept [] w5 (w5.alloc (.cells #[refv f] 132)) := (Kept.refl _ w5).alloc _
    have he3 := k0.heap e5 (by simp)
    have ks : Kept [w.heap.size + 1] (w5.alloc (.cells #[refv f] 132)) ((w5.alloc (.cells #[refv f] 132)).setCell ⟨w.heap.size + 1, 0, none⟩ (refv f)) := (Kept.refl _ _).set (p := ⟨w.heap.size + 1, 0, none⟩) (.inl (by simp)) _
    have e6 : ((w5.alloc (.cells #[refv f] 132)).setCell ⟨w.heap.size + 1, 0, none⟩ (refv f)).cell? ⟨w.heap.size + 1, 0, none⟩ = some (refv f) := by rw [cellW_of (heap_setCell_at he3 0 _)]; rfl
    have z6 : RowAt w.heap.size zMs 31 ((w5.alloc (.cells #[refv f] 132)).setCell ⟨w.heap.size + 1, 0, none⟩ (refv f)) := (z5.kept k0 (by simp)).kept ks (by simp)
    have hB6 : Below w.heap.size w ((w5.alloc (.cells #[refv f] 132)).setCell ⟨w.heap.size + 1, 0, none⟩ (refv f)) := (hB5.trans (k0.below (B := w.heap.size) (by simp) hB5.size)).trans (ks.below (B := w.heap.size) (by simp) (by simp; have := hB5.size; omega))
    have hx6 := (hpe.kept k0 (by simp)).kept ks (by simp only [List.mem_singleton]; rintro s rfl; exact ⟨_, _, he3, by decide⟩)
    generalize ((w5.alloc (.cells #[refv f] 132)).setCell ⟨w.heap.size + 1, 0, none⟩ (refv f)) = w6 at *
    simp only [Leaves, settle, List.dropWhile]
    exact ⟨_, results_all (p := 8) (u := 9) rfl rfl rfl z6 hsm e6, AllQ.mkErr HP.out.2 hB6 hwf hx6⟩
  | ok y =>
    obtain ⟨m, q⟩ := y
    have hz : (Tryz.prog.info? 31).bind (·.zero) = some (.agg zMs) := zero_ms'
    cases pe : endR (bs.drop q) with
    | error c9 =>
      have HP := hid_of' (And.intro hp (msgE_end hp pe))
      have HE := hid_of' (show (endR (bs.drop q)).map (fun x => (Value.nilIface, x.2)) = .error c9 by rw [pe]; rfl)
      clear hp pe
      go_upto_region 4 with (first | (go_at_call 58; refine HM.out.mono ?_; intro e w5 h5; obtain ⟨hk5, s, rfl, hr5, ho5, hs5⟩ := h5.ok HP.out.1; obtain ⟨sa, sc, rfl⟩ := ho5.form; clear h5) | (refine wpL_alloc rfl _ rfl hz ?_; go_simp) | (refine wpL_stNew rfl _ _ _ rfl rfl rfl rfl (mv_size hs5) (by rw [mv_sz hs5, mv_sz hsm]) (mv_one _ rfl) ?_))
      have kb : Kept [] w5 (w5.alloc (.cells (mv m (.slice sa m.2.2.2.2.1.length sc)) 31)) := (Kept.refl _ _).alloc _
      have hne : sb ≠ rb := by omega
      have r6 := RowAt.new w5 (mv m (.slice sa m.2.2.2.2.1.length sc)) 31
      have hk6 := hk5.go kb (by simp)
      have hr6 := hr5.kept kb (by simp) (by simp)
      have hs6 := (H4.out.2.1.rd hk5 hne).kept kb (by simp)
      have L6 := (H4.out.2.2.1.rd hk5 H4.out.1).kept kb (by simp)
      have ho6 := ho5.kept kb (by simp)
      have h45 := hk5.size
      simp only [Act.put]
      clear hk5 hr5 ho5 kb
      generalize hfb : w5.heap.size = fb at *
      generalize (w5.alloc (.cells (mv m (.slice sa m.2.2.2.2.1.length sc)) 31)) = w6 at *
      have c2 := hs6.c2
      have HD := hid_of' (End_any L6 hr6)
      clear L6 hr6
      go_wp2_with (first | (go_at_call 71; refine HD.out.mono ?_; intro e w7 h7; obtain ⟨f2, hf2, rfl, hr7, hl7, hk7⟩ := rdOut_err h7 HE.out; clear h7) | (go_at_call 70; refine (checkP_err hr7 (hs6.rd hk7 hne) f2 _ c9 hl7).mono ?_; rintro e w8 ⟨f, hf, rfl, hpe, hk8⟩))
      have hk9 := (hk6.trans hk7).go hk8 (by simp)
      replace hf := Nat.le_trans (hk6.trans hk7).size hf
      clear hk6 hk7 hk8 r6 hs6 c2 HD
      have e5 := Q.out.2.kept hk9 (by simp; omega)
      have z5 := Q.out.1.kept hk9 (by simp; omega)
      have hB5 := H4.out.2.2.2.trans (hk9.below (B := w.heap.size) (by simp; omega) H4.out.2.2.2.size)
      have hwf : w.heap.size ≤ f := Nat.le_trans H4.out.2.2.2.size hf
      refine leaves_cons (f := 69) (args := #[.pointer (some ⟨w.heap.size + 1, 0, none⟩)]) (by simp) (by simp [go_sem]) ?_
      refine (catchP_up (w.heap.size + 1) 85 (.pointer (some ⟨f, 0, none⟩)) .nilIface w8 e5).mono ?_
      rintro e u' w6 ⟨rfl, rfl, rfl⟩
      have k0 : Kept [] w8 (w8.alloc (.cells #[refv f] 132)) := (Kept.refl _ w8).alloc _
      have he3 := k0.heap e5 (by simp)
      have ks : Kept [w.heap.size + 1] (w8.alloc (.cells #[refv f] 132)) ((w8.alloc (.cells #[refv f] 132)).setCell ⟨w.heap.size + 1, 0, none⟩ (refv f)) := (Kept.refl _ _).set (p := ⟨w.heap.size + 1, 0, none⟩) (.inl (by simp)) _
      have e6 : ((w8.alloc (.cells #[refv f] 132)).setCell ⟨w.heap.size + 1, 0, none⟩ (refv f)).cell? ⟨w.heap.size + 1, 0, none⟩ = some (refv f) := by rw [cellW_of (heap_setCell_at he3 0 _)]; rfl
      have z6 : RowAt w.heap.size zMs 31 ((w8.alloc (.cells #[refv f] 132)).setCell ⟨w.heap.size + 1, 0, none⟩ (refv f)) := (z5.kept k0 (by simp)).kept ks (by simp)
      have hB6 : Below w.heap.size w ((w8.alloc (.cells #[refv f] 132)).setCell ⟨w.heap.size + 1, 0, none⟩ (refv f)) := (hB5.trans (k0.below (B := w.heap.size) (by simp) hB5.size)).trans (ks.below (B := w.heap.size) (by simp) (by simp; have := hB5.size; omega))
      have hx6 := (hpe.kept k0 (by simp)).kept ks (by simp only [List.mem_singleton]; rintro s rfl; exact ⟨_, _, he3, by decide⟩)
      generalize ((w8.alloc (.cells #[refv f] 132)).setCell ⟨w.heap.size + 1, 0, none⟩ (refv f)) = w6 at *
      simp only [Leaves, settle, List.dropWhile]
      exact ⟨_, results_all (p := 8) (u := 9) rfl rfl rfl z6 hsm e6, AllQ.mkErr HP.out.2 hB6 hwf hx6⟩
    | ok u9 =>
      have hu9 : u9.2 = 0 := by
        cases hd : bs.drop q with
        | nil => rw [hd] at pe; simp [endR] at pe; rw [← pe]
        | cons b r => rw [hd] at pe; simp [endR] at pe
      have HP := hid_of' (And.intro hp (msgE_ok hp pe))
      have HE := hid_of' (show (endR (bs.drop q)).map (fun x => (Value.nilIface, x.2)) = .ok (.nilIface, 0) by rw [pe, ← hu9]; rfl)
      clear hp pe hu9
      go_upto_region 4 with (first | (go_at_call 58; refine HM.out.mono ?_; intro e w5 h5; obtain ⟨hk5, s, rfl, hr5, ho5, hs5⟩ := h5.ok HP.out.1; obtain ⟨sa, sc, rfl⟩ := ho5.form; clear h5) | (refine wpL_alloc rfl _ rfl hz ?_; go_simp) | (refine wpL_stNew rfl _ _ _ rfl rfl rfl rfl (mv_size hs5) (by rw [mv_sz hs5, mv_sz hsm]) (mv_one _ rfl) ?_))
      have kb : Kept [] w5 (w5.alloc (.cells (mv m (.slice sa m.2.2.2.2.1.length sc)) 31)) := (Kept.refl _ _).alloc _
      have hne : sb ≠ rb := by omega
      have r6 := RowAt.new w5 (mv m (.slice sa m.2.2.2.2.1.length sc)) 31
      have hk6 := hk5.go kb (by simp)
      have hr6 := hr5.kept kb (by simp) (by simp)
      have hs6 := (H4.out.2.1.rd hk5 hne).kept kb (by simp)
      have L6 := (H4.out.2.2.1.rd hk5 H4.out.1).kept kb (by simp)
      have ho6 := ho5.kept kb (by simp)
      have h45 := hk5.size
      simp only [Act.put]
      clear hk5 hr5 ho5 kb
      generalize hfb : w5.heap.size = fb at *
      generalize (w5.alloc (.cells (mv m (.slice sa m.2.2.2.2.1.length sc)) 31)) = w6 at *
      have c2 := hs6.c2
      have HD := hid_of' (End_any L6 hr6)
      clear L6 hr6
      go_upto_region 5 with (first | (go_at_call 71; refine HD.out.mono ?_; intro e w7 h7; obtain ⟨rfl, hr7, hk7⟩ := rdOut_ok h7 HE.out; clear h7) | (go_at_call 70; refine (checkP_nil _).mono ?_; rintro e w8 ⟨rfl, h0⟩; obtain rfl := h0.symm))
      have r7 := r6.kept hk7 (by simp; omega)
      have hk7' := hk6.trans hk7
      have z7 := Q.out.1.kept hk7' (by simp; omega)
      have e7 := Q.out.2.kept hk7' (by simp; omega)
      have ho7 := ho6.kept hk7 (by simp; omega)
      clear r6 hk6 hs6 c2 HD ho6 hr7 hk7
      have r7i := r7.in
      have k8 : Kept [w.heap.size] w7 (w7.setRow w.heap.size (mv m (.slice sa m.2.2.2.2.1.length sc))) := kept_setRow _ _ _
      have e8 := e7.kept k8 (by simp)
      have z8 : RowAt w.heap.size (mv m (.slice sa m.2.2.2.2.1.length sc)) 31 (w7.setRow w.heap.size (mv m (.slice sa m.2.2.2.2.1.length sc))) := setRow_heap _ _ _ _ _ _ z7
      have d8 : (w7.setRow w.heap.size (mv m (.slice sa m.2.2.2.2.1.length sc))).cell? ⟨w.heap.size + 1, 0, none⟩ = some .nilIface := by rw [cellW_of e8]; rfl
      have f8 := frozenW_of e8 0
      go_wp2_with (first | (refine ld_ms hs5 rfl _ rfl rfl r7i ?_) | (refine wpList_store_row rfl _ _ _ rfl _ _ rfl rfl _ _ z7 (mv_size hs5) (by rw [mv_sz hs5]; rfl) (mv_one _ rfl) ?_))
      have k9 : Kept [w.heap.size + 1] (w7.setRow w.heap.size (mv m (.slice sa m.2.2.2.2.1.length sc))) ((w7.setRow w.heap.size (mv m (.slice sa m.2.2.2.2.1.length sc))).setCell ⟨w.heap.size + 1, 0, none⟩ .nilIface) := (Kept.refl _ _).set (p := ⟨w.heap.size + 1, 0, none⟩) (.inl (by simp)) _
      have e9 := heap_setCell_at e8 0 .nilIface
      have z9 := z8.kept k9 (by simp)
      have ho9 := (ho7.kept k8 (by have := H4.out.2.2.2.size; simp; omega)).kept k9 (by simp; omega)
      have hB7 := H4.out.2.2.2.trans (hk7'.below (B := w.heap.size) (by simp; omega) H4.out.2.2.2.size)
      have hB8 := hB7.trans (k8.below (B := w.heap.size) (by simp) hB7.size)
      have hB9 := hB8.trans (k9.below (B := w.heap.size) (by simp) hB8.size)
      generalize (w7.setRow w.heap.size (mv m (.slice sa m.2.2.2.2.1.length sc))).setCell ⟨w.heap.size + 1, 0, none⟩ .nilIface = w9 at *
      refine leaves_cons (f := 69) (args := #[.pointer (some ⟨w.heap.size + 1, 0, none⟩)]) (by simp) (by simp [go_sem]) ?_
      refine (catchP_idle _ _).mono ?_
      rintro e u' w10 ⟨rfl, rfl, rfl⟩
      have k10 : Kept [] w9 (w9.alloc (.cells #[.nilIface] 132)) := (Kept.refl _ w9).alloc _
      have z10 := z9.kept k10 (by simp)
      have e10 : (w9.alloc (.cells #[.nilIface] 132)).cell? ⟨w.heap.size + 1, 0, none⟩ = some .nilIface := by rw [cellW_of (k10.heap e9 (by simp))]; rfl
      have ho10 := (ho9.kept k10 (by simp)).mono (B' := w.heap.size) H4.out.2.2.2.size
      have hB10 := hB9.trans (k10.below (B := w.heap.size) (by simp) hB9.size)
      generalize w9.alloc (.cells #[.nilIface] 132) = w11 at *
      simp only [Leaves, settle]
      exact ⟨_, results_all (p := 8) (u := 9) rfl rfl rfl z10 hs5 e10, AllQ.mkOk HP.out.2 hB10 ho10 hs5⟩
/-- What Read answers. -/
def ReadQ (ad : Nat → Addr) (bs : List UInt8) (w : World) (e : Ending) (w' : World) : Prop := Below w.heap.size w w' ∧ match readM bs with
  | .ok m => ∃ s, e = .returned (.tuple #[.agg (mv m s), .nilIface]) ∧ OwnA w.heap.size s m.2.2.2.2.1 w' ∧ shM m
  | .error x => ∃ f, w.heap.size ≤ f ∧ e = .returned (.tuple #[.agg (mv (0, 0, 0, zero8, [], zeroRs) (.slice none 0 0)), refv f]) ∧ PeAt ad x f w'
theorem readM_E (bs : List UInt8) : readM bs = (match pMsgE bs 0 with | .error e => .error e | .ok (m, _) => .ok m) := by
  unfold readM pMsgE
  cases pMsg bs 0 with
  | error e => rfl
  | ok y =>
    obtain ⟨m, q⟩ := y
    simp only
    cases endR (bs.drop q) <;> rfl
theorem ReadQ.ok {ad : Nat → Addr} {bs : List UInt8} {w : World} {e : Ending} {w' : World} {m : Pms} (h : ReadQ ad bs w e w') (hp : readM bs = .ok m) : Below w.heap.size w w' ∧ ∃ s, e = .returned (.tuple #[.agg (mv m s), .nilIface]) ∧ OwnA w.heap.size s m.2.2.2.2.1 w' ∧ shM m := by unfold ReadQ at h; rw [hp] at h; exact h
theorem ReadQ.err {ad : Nat → Addr} {bs : List UInt8} {w : World} {e : Ending} {w' : World} {x : Pe} (h : ReadQ ad bs w e w') (hp : readM bs = .error x) : Below w.heap.size w w' ∧ ∃ f, w.heap.size ≤ f ∧ e = .returned (.tuple #[.agg (mv (0, 0, 0, zero8, [], zeroRs) (.slice none 0 0)), refv f]) ∧ PeAt ad x f w' := by unfold ReadQ at h; rw [hp] at h; exact h
theorem results_ms {fn : Func} {p u : Tmp} {tmps : Array Value} {w : World} {g : Nat} {m : Pms} {s : Value} (h : fn.results = #[.cell p 31, .tmp u]) (hp : tmps.getD p undef = .pointer (some ⟨g, 0, none⟩)) (hg : RowAt g (mv m s) 31 w) (hs : shM m) :
    (results fn tmps).run Tryz.prog w = .ok (.tuple #[.agg (mv m s), tmps.getD u undef]) w := by
  have hp' : tmps[p]?.getD undef = .pointer (some ⟨g, 0, none⟩) := by simpa using hp
  simp [results, h, hp', asAddr, run_loadVar_row w g _ _ _ _ _ hg Tryz.underlying31 rfl (mv_size hs)]

set_option maxHeartbeats 2000000 in
theorem read_any {ad : Nat → Addr} {w : World} {v : Value} {bs : List UInt8} (L : Lw ad w) (hv : SlB w v bs) (hlen : bs.length ≤ 1000000) :
    Calls Tryz.prog 41 #[v] w (ReadQ ad bs w) := by
  have hz : (Tryz.prog.info? 31).bind (·.zero) = some (.agg zMs) := zero_ms'
  have hsm : shM (0, 0, 0, zero8, [], zeroRs) := shM0 0 0 0
  have r0 := RowAt.new w zMs 31
  have hB := below_one w (.cells zMs 31)
  have HN := hid_of' (all_any (L.kept (S := []) (.of hB) (by simp)) (hv.grow hB) hlen)
  have hR := readM_E bs
  clear L hv hlen
  cases hp : pMsgE bs 0 with
  | error x =>
    have hR' : readM bs = .error x := by rw [hR, hp]
    have HP := hid_of' (And.intro hp hR')
    clear hp hR hR'
    go_enter Tryz.func41, Tryz.ntmps41
    go_upto_region 1 with (refine wpL_alloc rfl _ rfl hz ?_; go_simp)
    go_wp2_with (first | (go_at_call 57; refine HN.out.mono ?_; intro e w1 h1; obtain ⟨hb1, f, hf, rfl, hx⟩ := AllQ.err h1 HP.out.1; have r1 := r0.later hb1) | (refine wpList_store_row rfl _ _ _ rfl _ _ rfl rfl _ _ r1 (mv_size hsm) rfl (mv_one _ rfl) ?_))
    have ks := kept_setRow w.heap.size zMs w1
    refine bodyPost_ret (results_ms (fn := Tryz.f41) (p := 2) (u := 3) rfl rfl (setRow_heap _ _ _ _ _ _ r1) hsm) rfl ?_
    unfold ReadQ
    rw [HP.out.2]
    have hB2 := bgo hB hb1
    exact ⟨below_setRow hB2 (Nat.le_refl _) _, f, by simp at hf; omega, rfl, hx.kept ks (by simp only [List.mem_singleton]; rintro s rfl; exact ⟨_, _, r1, by decide⟩)⟩
  | ok y =>
    obtain ⟨m, q⟩ := y
    have hR' : readM bs = .ok m := by rw [hR, hp]
    have HP := hid_of' (And.intro hp hR')
    clear hp hR hR'
    go_enter Tryz.func41, Tryz.ntmps41
    go_upto_region 1 with (refine wpL_alloc rfl _ rfl hz ?_; go_simp)
    go_wp2_with (first | (go_at_call 57; refine HN.out.mono ?_; intro e w1 h1; obtain ⟨hb1, s, rfl, ho, hs⟩ := AllQ.ok h1 HP.out.1; obtain ⟨sa, sc, rfl⟩ := ho.form; have r1 := r0.later hb1) | (refine wpList_store_row rfl _ _ _ rfl _ _ rfl rfl _ _ r1 (mv_size hs) (by rw [mv_sz hs]; rfl) (mv_one _ rfl) ?_))
    have ks := kept_setRow w.heap.size (mv m (.slice sa m.2.2.2.2.1.length sc)) w1
    refine bodyPost_ret (results_ms (fn := Tryz.f41) (p := 2) (u := 3) rfl rfl (setRow_heap _ _ _ _ _ _ r1) hs) rfl ?_
    unfold ReadQ
    rw [HP.out.2]
    have hB2 := bgo hB hb1
    have ho2 := (ho.mono (B' := w.heap.size + 1) (by simp)).kept ks (by simp)
    exact ⟨below_setRow hB2 (Nat.le_refl _) _, _, rfl, ho2.mono (Nat.le_succ _), hs⟩
end Go.Proofs.YteffpnjgchihpaaGreatDoor
