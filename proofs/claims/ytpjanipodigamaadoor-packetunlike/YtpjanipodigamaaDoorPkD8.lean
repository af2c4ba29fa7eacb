
/-
  The reading of a message is tried: what is caught; Read.
-/
import Derived.Test.YtpjanipodigamaaDoorPkD7
namespace Go.Proofs.YtpjanipodigamaaDoor
open Go.RowKit
set_option maxRecDepth 100000

theorem noStopP (w : World) : (Instr.typeAssert .nilIface 20 85 true).run Tryd.prog w = .ok (.tuple #[.agg #[.nilIface], .bool false]) w := by kernel_rfl
theorem isStopP (v : Value) (w : World) : (Instr.typeAssert (.iface 85 v) 20 85 true).run Tryd.prog w = .ok (.tuple #[v, .bool true]) w := by kernel_rfl
theorem rep10 : Array.replicate 10 undef = #[undef, undef, undef, undef, undef, undef, undef, undef, undef, undef] := rfl

theorem catchP_idle (ep : Addr) (w : World) :
    CallsD Tryd.prog 44 #[.pointer (some ep)] .returning w fun e u' w' => e = .returned (.tuple #[]) ∧ u' = .returning ∧ w' = w.alloc (.cells #[.nilIface] 85) := by
  have hn := noStopP
  refine callsD_of_wpS Tryd.func44 rfl fun c₀ cs hu => ?_
  apply wpS_seq
  apply wpS_region
  simp [wpOpsS, go_sem, recoverD, hu, Tryd.ntmps44, Exit.thenS, hn]
  apply wpS_seq
  apply wpS_region
  simp [wpOpsS, go_sem, Exit.thenS]
  refine wpS_cond (t := false) (by simp [Act.eval]) ?_
  simp only [Bool.false_eq_true, if_false]
  refine wpS_of_wp (wp_skip ?_)
  cases c₀
  simp_all [bodyPostS, results, Tryd.results44]

set_option maxHeartbeats 1000000 in
theorem catchP_up (ev : Nat) (t : TypeId) (v x : Value) (w : World) (hev : w.heap[ev]? = some (.cells #[x] 34 (0, 0))) :
    CallsD Tryd.prog 44 #[.pointer (some ⟨ev, 0, none⟩)] (.panicking [{ v := .iface 85 (.agg #[.iface t v]), recovered := false }]) w fun e u' w' => e = .returned (.tuple #[]) ∧ u' = .panicking [{ v := .iface 85 (.agg #[.iface t v]), recovered := true }] ∧ w' = (w.alloc (.cells #[.iface t v] 85)).setCell ⟨ev, 0, none⟩ (.iface t v) := by
  have hn := isStopP
  refine callsD_of_wpS Tryd.func44 rfl fun c₀ cs hu => ?_
  apply wpS_seq
  apply wpS_region
  simp [wpOpsS, go_sem, recoverD, hu, Tryd.ntmps44, Exit.thenS, hn, rep10]
  apply wpS_seq
  apply wpS_region
  simp [wpOpsS, go_sem, Exit.thenS]
  refine wpS_cond (t := true) (by simp [Act.eval]) ?_
  simp only [if_true]
  refine wpS_of_wp (wp_mono (Q := fun e a' w' => e = .normal ∧ a'.defers = [] ∧ w' = (w.alloc (.cells #[.iface t v] 85)).setCell ⟨ev, 0, none⟩ (.iface t v)) ?_ ?_)
  · clear hu hn
    have kw : Kept [] w (w.alloc (.cells #[.iface t v] 85)) := (Kept.refl _ _).alloc _
    have h1 := kw.heap hev (by simp)
    have c1 : (w.alloc (.cells #[.iface t v] 85)).cell? ⟨ev, 0, none⟩ = some x := by rw [cellW_of h1]; rfl
    have f1 := frozenW_of h1 0
    have c2 : (w.alloc (.cells #[.iface t v] 85)).cell? ⟨w.heap.size, 0, none⟩ = some (.iface t v) := by rw [cellW_of (heap_alloc_last _ _ _)]; rfl
    clear kw h1 hev
    generalize w.alloc (.cells #[.iface t v] 85) = w1 at *
    generalize w.heap.size = sp at *
    go_wp2
  · rintro e a' w' ⟨rfl, hd, rfl⟩
    cases c₀
    simp_all [bodyPostS, results, Tryd.results44]

/-- The closure of Read. -/
theorem closure_ok {ad : Nat → Addr} {rb g : Nat} {bs : List UInt8} {w : World} (L : Lw ad w) (h : RdAt rb g bs 0 .nilIface w) (rv m0 : Nat) (hrv : RowAt rv #[.pointer (some ⟨rb, 0, none⟩)] 59 w) (hm0 : RowAt m0 (mv (0, 0, 0, zero8, [], zeroRs) (.slice none 0 0)) 30 w) (hne : m0 ≠ rb) {m : Pms} {q : Nat} (hp : pMsgE bs 0 = .ok (m, q)) :
    Calls Tryd.prog 28 #[.pointer (some ⟨rv, 0, none⟩), .pointer (some ⟨m0, 0, none⟩)] w fun e w' => e = .returned (.tuple #[]) ∧ Kept [rb, m0] w w' ∧ ∃ s, RowAt m0 (mv m s) 30 w' ∧ OwnA w.heap.size s m.2.2.2.2.1 w' ∧ shM m := by
  have HM := hid_of' (message_rd L h)
  have HP := hid_of' hp
  have hlt := hm0.lt
  clear L h hp
  go_enter Tryd.func28, Tryd.ntmps28
  go_wp2_with (first | (refine ld_rg rfl _ rfl rfl hrv ?_) | (go_at_call 29; refine HM.out.mono ?_; intro e w1 h1; obtain ⟨hk1, s, rfl, ho, hs⟩ := h1.ok HP.out; have r1 := hm0.rd hk1 hne; obtain ⟨sa, sc, rfl⟩ := ho.form) | (refine wpList_store_row rfl _ _ _ rfl _ _ rfl rfl _ _ r1 (mv_size hs) (by rw [mv_sz hs]; rfl) (mv_one _ rfl) ?_))
  go_end0
  have ks := kept_setRow m0 (mv m (.slice sa m.2.2.2.2.1.length sc)) w1
  refine ⟨rfl, (hk1.mono (by simp)).go ks (by simp), _, setRow_heap _ _ _ _ _ _ r1, ?_⟩
  have hx := ho.kept ks (by simp; omega)
  first
  | exact ⟨hx, hs⟩
  | exact hx
theorem closure_err {ad : Nat → Addr} {rb g : Nat} {bs : List UInt8} {w : World} (L : Lw ad w) (h : RdAt rb g bs 0 .nilIface w) (rv m0 : Nat) (hrv : RowAt rv #[.pointer (some ⟨rb, 0, none⟩)] 59 w) {x : Pe} (hp : pMsgE bs 0 = .error x) :
    Calls Tryd.prog 28 #[.pointer (some ⟨rv, 0, none⟩), .pointer (some ⟨m0, 0, none⟩)] w fun e w' => ∃ f, w.heap.size ≤ f ∧ e = gaveP f ∧ PeAt ad x f w' ∧ Kept [rb] w w' := by
  have HM := hid_of' (message_rd L h)
  have HP := hid_of' hp
  clear L h hp
  go_enter Tryd.func28, Tryd.ntmps28
  go_wp2_with (first | (refine ld_rg rfl _ rfl rfl hrv ?_) | (go_at_call 29; refine HM.out.mono ?_; intro e w1 h1; obtain ⟨hk1, f, hf, rfl, hp⟩ := h1.err HP.out))
  exact ⟨rfl, f, hf, rfl, hp, hk1⟩

set_option maxHeartbeats 1000000 in
theorem attemptP_ok {ad : Nat → Addr} {rb g : Nat} {bs : List UInt8} {w : World} (L : Lw ad w) (h : RdAt rb g bs 0 .nilIface w) (rv m0 : Nat) (hrv : RowAt rv #[.pointer (some ⟨rb, 0, none⟩)] 59 w) (hm0 : RowAt m0 (mv (0, 0, 0, zero8, [], zeroRs) (.slice none 0 0)) 30 w) (hne : m0 ≠ rb) {m : Pms} {q : Nat} (hp : pMsgE bs 0 = .ok (m, q)) :
    Calls Tryd.prog 27 #[.func (.func 28) #[] #[.pointer (some ⟨rv, 0, none⟩), .pointer (some ⟨m0, 0, none⟩)]] w fun e w' => e = .returned .nilIface ∧ Kept [rb, m0] w w' ∧ ∃ s, RowAt m0 (mv m s) 30 w' ∧ OwnA w.heap.size s m.2.2.2.2.1 w' ∧ shM m := by
  have hmf : ∀ (fn : Fn) (first cap : Array Value) (w : World), (Instr.makeFunc fn first cap).run Tryd.prog w = .ok (.func fn first cap) w := fun _ _ _ _ => rfl
  have hcf : ∀ caps w, (callFunc 28 caps).run Tryd.prog w = .ok (.enter 28 caps) w := fun caps w => by simp [go_sem]
  have ka : Kept [] w (w.alloc (.cells #[.nilIface] 34)) := (Kept.refl _ w).alloc _
  have HC := hid_of' (closure_ok (L.kept ka (by simp)) (h.kept ka (by simp) (by simp)) rv m0 (hrv.kept ka (by simp)) (hm0.kept ka (by simp)) hne hp)
  have HE := hid_of' (And.intro (heap_alloc_last w #[.nilIface] 34) ka)
  have l1 := lt_of_heap h.lies
  have l2 := hm0.lt
  clear L h hrv hm0 hp ka
  go_enter_defers Tryd.func27, Tryd.ntmps27
  go_wp2_with fail
  refine HC.out.mono ?_
  rintro e w2 ⟨rfl, hk2, s, hm2, ho2, hs2⟩
  have he2 := hk2.heap HE.out.1 (by simp; omega)
  have hk := (HE.out.2.mono (S' := [rb, m0]) (by simp)).trans hk2
  have HQ := hid_of' (And.intro hk (And.intro hm2 (And.intro (ho2.mono (B' := w.heap.size + 1) (by simp)) (And.intro hs2 he2))))
  have e1 : w2.cell? ⟨w.heap.size, 0, none⟩ = some .nilIface := by rw [cellW_of he2]; rfl
  have e2 := frozenW_of he2 0
  clear HC HE hk2 hm2 ho2 hs2 he2 hk
  generalize hb0 : w.heap.size = b at *
  go_wp2
  refine leaves_cons (f := 44) (args := #[.pointer (some ⟨b, 0, none⟩)]) (by simp) (by simp [go_sem]) ?_
  refine (catchP_idle _ _).mono ?_
  rintro e u' w3 ⟨rfl, rfl, rfl⟩
  have hk3 : Kept [b] w2 ((w2.setCell ⟨b, 0, none⟩ .nilIface).alloc (.cells #[.nilIface] 85)) := ((Kept.refl _ w2).set (p := ⟨b, 0, none⟩) (.inl (by simp)) _).alloc _
  have e3 : ((w2.setCell ⟨b, 0, none⟩ .nilIface).alloc (.cells #[.nilIface] 85)).cell? ⟨b, 0, none⟩ = some .nilIface := by
    have hx := lt_of_heap HQ.out.2.2.2.2
    rw [World.cell?_of_block (w := w2.setCell ⟨b, 0, none⟩ .nilIface) (Below.heap_alloc _ _ _ (by simpa [World.setCell] using hx)), cellW_of (heap_setCell_at HQ.out.2.2.2.2 0 _)]; rfl
  generalize (w2.setCell ⟨b, 0, none⟩ .nilIface).alloc (.cells #[.nilIface] 85) = w3 at *
  have A1 := HQ.out.1.go hk3 (by simp; omega)
  have A2 := HQ.out.2.1.kept hk3 (by simp; omega)
  have A3 := (HQ.out.2.2.1.kept hk3 (by simp)).mono (B' := b) (Nat.le_succ _)
  have A4 := HQ.out.2.2.2.1
  have A5 : ∃ s, RowAt m0 (mv m s) 30 w3 ∧ OwnA b s m.2.2.2.2.1 w3 ∧ shM m := ⟨s, A2, A3, A4⟩
  subst hb0
  simp [Leaves, settle, results, Tryd.results27, go_sem, e3, A1, A5]

set_option maxHeartbeats 1000000 in
theorem attemptP_err {ad : Nat → Addr} {rb g : Nat} {bs : List UInt8} {w : World} (L : Lw ad w) (h : RdAt rb g bs 0 .nilIface w) (rv m0 : Nat) (hrv : RowAt rv #[.pointer (some ⟨rb, 0, none⟩)] 59 w) {x : Pe} (hp : pMsgE bs 0 = .error x) :
    Calls Tryd.prog 27 #[.func (.func 28) #[] #[.pointer (some ⟨rv, 0, none⟩), .pointer (some ⟨m0, 0, none⟩)]] w fun e w' => ∃ f, w.heap.size ≤ f ∧ e = .returned (refv f) ∧ PeAt ad x f w' ∧ Kept [rb] w w' := by
  have hmf : ∀ (fn : Fn) (first cap : Array Value) (w : World), (Instr.makeFunc fn first cap).run Tryd.prog w = .ok (.func fn first cap) w := fun _ _ _ _ => rfl
  have hcf : ∀ caps w, (callFunc 28 caps).run Tryd.prog w = .ok (.enter 28 caps) w := fun caps w => by simp [go_sem]
  have ka : Kept [] w (w.alloc (.cells #[.nilIface] 34)) := (Kept.refl _ w).alloc _
  have HC := hid_of' (closure_err (L.kept ka (by simp)) (h.kept ka (by simp) (by simp)) rv m0 (hrv.kept ka (by simp)) hp)
  have HE := hid_of' (And.intro (heap_alloc_last w #[.nilIface] 34) ka)
  have l1 := lt_of_heap h.lies
  clear L h hrv hp ka
  go_enter_defers Tryd.func27, Tryd.ntmps27
  go_wp2_with fail
  refine HC.out.mono ?_
  rintro e w2 ⟨f, hf, rfl, hpe, hk2⟩
  have he2 := hk2.heap HE.out.1 (by simp; omega)
  have hk := (HE.out.2.mono (S' := [rb]) (by simp)).trans hk2
  have hf' : w.heap.size ≤ f := by simp at hf; omega
  have HQ := hid_of' (And.intro hk (And.intro hpe (And.intro he2 hf')))
  clear HC HE hk2 hpe he2 hk hf hf'
  generalize hb0 : w.heap.size = b at *
  go_wp2
  refine leaves_cons (f := 44) (args := #[.pointer (some ⟨b, 0, none⟩)]) (by simp) (by simp [go_sem]) ?_
  refine (catchP_up b 70 (.pointer (some ⟨f, 0, none⟩)) .nilIface w2 HQ.out.2.2.1).mono ?_
  rintro e u' w3 ⟨rfl, rfl, rfl⟩
  have k0 : Kept [] w2 (w2.alloc (.cells #[refv f] 85)) := (Kept.refl _ w2).alloc _
  have he3 := k0.heap HQ.out.2.2.1 (by simp)
  have ks : Kept [b] (w2.alloc (.cells #[refv f] 85)) ((w2.alloc (.cells #[refv f] 85)).setCell ⟨b, 0, none⟩ (refv f)) := (Kept.refl _ _).set (p := ⟨b, 0, none⟩) (.inl (by simp)) _
  have e3 : ((w2.alloc (.cells #[refv f] 85)).setCell ⟨b, 0, none⟩ (refv f)).cell? ⟨b, 0, none⟩ = some (refv f) := by rw [cellW_of (heap_setCell_at he3 0 _)]; rfl
  have A1 := (HQ.out.1.go k0 (by simp)).go ks (by simp; omega)
  have A2 := (HQ.out.2.1.kept k0 (by simp)).kept ks (by simp only [List.mem_singleton]; rintro s rfl; exact ⟨_, _, he3, by decide⟩)
  have A3 := HQ.out.2.2.2
  generalize (w2.alloc (.cells #[refv f] 85)).setCell ⟨b, 0, none⟩ (refv f) = w3 at *
  subst hb0
  simp only [Leaves, settle, List.dropWhile]
  exact ⟨refv f, by simp [results, Tryd.results27, go_sem, e3], f, A3, rfl, A2, A1⟩

/-- What Read answers. -/
def ReadQ (ad : Nat → Addr) (bs : List UInt8) (w : World) (e : Ending) (w' : World) : Prop := Below w.heap.size w w' ∧ match readM bs with
  | .ok m => ∃ s, e = .returned (.tuple #[.agg (mv m s), .nilIface]) ∧ OwnA w.heap.size s m.2.2.2.2.1 w' ∧ shM m
  | .error x => ∃ f, w.heap.size ≤ f ∧ e = .returned (.tuple #[.agg (mv (0, 0, 0, zero8, [], zeroRs) (.slice none 0 0)), refv f]) ∧ PeAt ad x f w'
theorem readM_E (bs : List UInt8) : readM bs = (match pMsgE bs 0 with | .error e => .error e | .ok (m, _) => .ok m) := by
  unfold readM pMsgE
  cases pMsg bs 0 with
  | error e => rfl
  | ok y =>
    obtain ⟨m, q⟩ := y
    simp only
    cases endR (bs.drop q) <;> rfl
theorem ReadQ.ok {ad : Nat → Addr} {bs : List UInt8} {w : World} {e : Ending} {w' : World} {m : Pms} (h : ReadQ ad bs w e w') (hp : readM bs = .ok m) : Below w.heap.size w w' ∧ ∃ s, e = .returned (.tuple #[.agg (mv m s), .nilIface]) ∧ OwnA w.heap.size s m.2.2.2.2.1 w' ∧ shM m := by unfold ReadQ at h; rw [hp] at h; exact h
theorem ReadQ.err {ad : Nat → Addr} {bs : List UInt8} {w : World} {e : Ending} {w' : World} {x : Pe} (h : ReadQ ad bs w e w') (hp : readM bs = .error x) : Below w.heap.size w w' ∧ ∃ f, w.heap.size ≤ f ∧ e = .returned (.tuple #[.agg (mv (0, 0, 0, zero8, [], zeroRs) (.slice none 0 0)), refv f]) ∧ PeAt ad x f w' := by unfold ReadQ at h; rw [hp] at h; exact h
theorem results_ms {fn : Func} {p u : Tmp} {tmps : Array Value} {w : World} {g : Nat} {m : Pms} {s : Value} (h : fn.results = #[.cell p 30, .tmp u]) (hp : tmps.getD p undef = .pointer (some ⟨g, 0, none⟩)) (hg : RowAt g (mv m s) 30 w) (hs : shM m) :
    (results fn tmps).run Tryd.prog w = .ok (.tuple #[.agg (mv m s), tmps.getD u undef]) w := by
  have hp' : tmps[p]?.getD undef = .pointer (some ⟨g, 0, none⟩) := by simpa using hp
  simp [results, h, hp', asAddr, run_loadVar_row w g _ _ _ _ _ hg Tryd.underlying30 rfl (mv_size hs)]

set_option maxHeartbeats 2000000 in
theorem read_any {ad : Nat → Addr} {w : World} {v : Value} {bs : List UInt8} (L : Lw ad w) (hv : SlB w v bs) (hlen : bs.length ≤ 1000000) :
    Calls Tryd.prog 11 #[v] w (ReadQ ad bs w) := by
  have hz : (Tryd.prog.info? 30).bind (·.zero) = some (.agg (mv (0, 0, 0, zero8, [], zeroRs) (.slice none 0 0))) := zero_ms'
  have hmf : ∀ (fn : Fn) (first cap : Array Value) (w : World), (Instr.makeFunc fn first cap).run Tryd.prog w = .ok (.func fn first cap) w := fun _ _ _ _ => rfl
  have r0 := RowAt.new w (mv (0, 0, 0, zero8, [], zeroRs) (.slice none 0 0)) 30
  have hB := below_one w (.cells (mv (0, 0, 0, zero8, [], zeroRs) (.slice none 0 0)) 30)
  have HN := hid_of' (newReader_any (hv.grow hB) hlen (by have := L.size; simp; omega))
  have L1 := L.kept (S := []) (.of hB) (by simp)
  have hrl := r0.lt
  clear L hv hlen
  have hsm : shM (0, 0, 0, zero8, [], zeroRs) := shM0 0 0 0
  cases hp : pMsgE bs 0 with
  | error x =>
    have hR : readM bs = .error x := by rw [readM_E, hp]
    have HP := hid_of' (And.intro hp hR)
    clear hp hR
    go_enter Tryd.func11, Tryd.ntmps11
    go_upto_region 2 with (first | (refine wpL_alloc rfl _ rfl hz ?_; go_simp) | (go_at_call 26; refine HN.out.mono ?_; rintro e w1 ⟨rb, rfl, hrd, hlo, hb1⟩))
    have r1 := RowAt.new w1 #[.pointer (some ⟨rb, 0, none⟩)] 59
    have ka : Kept [] w1 (w1.alloc (.cells #[.pointer (some ⟨rb, 0, none⟩)] 59)) := (Kept.refl _ _).alloc _
    have HA := hid_of' (attemptP_err ((L1.kept (S := []) (.of hb1) (by simp)).kept ka (by simp)) (hrd.kept ka (by simp) (by simp)) w1.heap.size w.heap.size r1 HP.out.1)
    have r2 := (r0.later hb1).kept ka (by simp)
    have hne : w.heap.size ≠ rb := by simp at hlo; omega
    have hB2 := bgo (bgo hB hb1) (below_one w1 (.cells #[.pointer (some ⟨rb, 0, none⟩)] 59))
    have hlo' : w.heap.size ≤ rb := by simp at hlo; omega
    clear hz r0 hB HN L1 hrd hb1 r1 ka hlo
    go_upto_region 3 with (go_at_call 27; refine HA.out.mono ?_; rintro e w3 ⟨f, hf, rfl, hpe, hk3⟩)
    replace r2 := r2.kept hk3 (by simpa using hne)
    have r2i := r2.in
    have hB3 := hB2.trans (hk3.below (by simpa using hlo') hB2.size)
    have hf2 : w.heap.size ≤ f := Nat.le_trans hB2.size hf
    clear HA hk3
    go_wp2_with (first | (refine ld_ms hsm rfl _ rfl rfl r2i ?_) | (refine wpList_store_row rfl _ _ _ rfl _ _ rfl rfl _ _ r2 (mv_size hsm) rfl (mv_one _ rfl) ?_))
    refine bodyPost_ret (results_ms (fn := Tryd.f11) (p := 2) (u := 3) rfl rfl (setRow_heap _ _ _ _ _ _ r2) hsm) rfl ?_
    unfold ReadQ
    rw [HP.out.2]
    exact ⟨below_setRow hB3 (Nat.le_refl _) _, f, hf2, rfl, hpe.kept (kept_setRow w.heap.size _ w3) (by simp only [List.mem_singleton]; rintro s rfl; exact ⟨_, _, r2, by decide⟩)⟩
  | ok y =>
    obtain ⟨m, q⟩ := y
    have hR : readM bs = .ok m := by rw [readM_E, hp]
    have HP := hid_of' (And.intro hp hR)
    clear hp hR
    go_enter Tryd.func11, Tryd.ntmps11
    go_upto_region 2 with (first | (refine wpL_alloc rfl _ rfl hz ?_; go_simp) | (go_at_call 26; refine HN.out.mono ?_; rintro e w1 ⟨rb, rfl, hrd, hlo, hb1⟩))
    have r1 := RowAt.new w1 #[.pointer (some ⟨rb, 0, none⟩)] 59
    have ka : Kept [] w1 (w1.alloc (.cells #[.pointer (some ⟨rb, 0, none⟩)] 59)) := (Kept.refl _ _).alloc _
    have r2 := (r0.later hb1).kept ka (by simp)
    have hne : w.heap.size ≠ rb := by simp at hlo; omega
    have HA := hid_of' (attemptP_ok ((L1.kept (S := []) (.of hb1) (by simp)).kept ka (by simp)) (hrd.kept ka (by simp) (by simp)) w1.heap.size w.heap.size r1 r2 hne HP.out.1)
    have hB2 := bgo (bgo hB hb1) (below_one w1 (.cells #[.pointer (some ⟨rb, 0, none⟩)] 59))
    have hlo' : w.heap.size ≤ rb := by simp at hlo; omega
    have hsz : w.heap.size + 1 ≤ (w1.alloc (.cells #[.pointer (some ⟨rb, 0, none⟩)] 59)).heap.size := r2.lt
    clear hz r0 hB HN L1 hrd hb1 r1 ka hlo
    go_upto_region 3 with (go_at_call 27; refine HA.out.mono ?_; rintro e w3 ⟨rfl, hk3, s, hm3, ho3, hs3⟩; obtain ⟨sa, sc, rfl⟩ := ho3.form)
    have r2i := hm3.in
    have hB3 := hB2.trans (hk3.below (by simp; omega) hB2.size)
    clear HA hk3
    go_wp2_with (first | (refine ld_ms hs3 rfl _ rfl rfl r2i ?_) | (refine wpList_store_row rfl _ _ _ rfl _ _ rfl rfl _ _ hm3 (mv_size hs3) rfl (mv_one _ rfl) ?_))
    refine bodyPost_ret (results_ms (fn := Tryd.f11) (p := 2) (u := 3) rfl rfl (setRow_heap _ _ _ _ _ _ hm3) hs3) rfl ?_
    unfold ReadQ
    rw [HP.out.2]
    have ho4 := (ho3.mono (B' := w.heap.size + 1) hsz).kept (kept_setRow w.heap.size (mv m (.slice sa m.2.2.2.2.1.length sc)) w3) (by simp)
    exact ⟨below_setRow hB3 (Nat.le_refl _) _, _, rfl, ho4.mono (Nat.le_succ _), hs3⟩
end Go.Proofs.YtpjanipodigamaaDoor
