
/-
  A Stack in memory; undo.New, Depth, Clear, Peek.
-/
import Derived.Test.YtgkbgojgpomcdaaDoorUn7
namespace Go.Proofs.YtgkbgojgpomcdaaDoor
open Go.RowKit Go.Extern.Stop Go.Stop Go.Extern
set_option maxRecDepth 100000

theorem newF {ad : Nat → Addr} (la ca : ByteArray) (at_ : Int) (k : Nat) (w : World) :
    Calls Tryd.prog 38 #[.string la, .string ca, .int .i64 at_, .iface 156 (.pointer (some (ad k)))] w fun e w' => e = .returned (.iface 90 (.pointer (some ⟨w.heap.size, 0, none⟩))) ∧ FaultAt ad w.heap.size la ca (place at_) k w' ∧ Below w.heap.size w w' := by
  have key : ∀ p, max at_ (-1) = p → place at_ = p := by
    intro p hp
    unfold place
    split <;> omega
  by_cases h : -1 ≤ at_
  · have hm : max at_ (-1) = at_ := by omega
    rw [key at_ hm]
    go_enter Tryd.func38, Tryd.ntmps38
    go_wp2
    go_ret
    exact ⟨rfl, heap_alloc_last w _, below_one _ _⟩
  · have hm : max at_ (-1) = -1 := by omega
    rw [key (-1) hm]
    have h2 : at_ ≤ -1 := by omega
    go_enter Tryd.func38, Tryd.ntmps38
    go_wp2
    go_ret
    exact ⟨rfl, heap_alloc_last w _, below_one _ _⟩
/-- The reason of an empty Stack. -/
def Ln (ad : Nat → Addr) (w : World) : Prop := w.cell? ⟨2, 0, none⟩ = some (.iface 156 (.pointer (some (ad 11))))
theorem Laid.ln {ad : Nat → Addr} {w : World} (L : Laid ad w) : Ln ad w := L.var 11 (by omega)
theorem Ln.below {ad : Nat → Addr} {w w' : World} (L : Ln ad w) (hb : Below w.heap.size w w') : Ln ad w' := by
  have h : w.cell? ⟨2, 0, none⟩ = some (.iface 156 (.pointer (some (ad 11)))) := L
  unfold Ln
  rw [hb.cell (World.block_lt_of_cell? _ _ h)]
  exact h
/-- What is refused: the call, the place, the reason. -/
abbrev Rf := Option (ByteArray × Int × Nat)
def bU : ByteArray := ⟨#[117, 110, 100, 111]⟩
def bUndo : ByteArray := ⟨#[85, 110, 100, 111]⟩
def bRedo : ByteArray := ⟨#[82, 101, 100, 111]⟩
/-- The error that says so; its block is new. -/
def ErrR (ad : Nat → Addr) (M : Nat) (o : Rf) (v : Value) (w : World) : Prop := match o with
  | none => v = .nilIface
  | some (c, a, k) => ∃ b, v = .iface 90 (.pointer (some ⟨b, 0, none⟩)) ∧ M ≤ b ∧ k < 13 ∧ FaultAt ad b bU c (place a) k w
/-- The document's refusal. -/
def NoR (M : Nat) (o : Rf) (v : Value) (w : World) : Prop := match o with
  | none => v = .agg (nov 0 none 0 0 none 0 0)
  | some (c, a, k) => ∃ g g', v = .agg (nov ((k : Int) + 1) (some ⟨g', 0, none⟩) 1 1 (some ⟨g, 0, none⟩) 1 1) ∧ M ≤ g ∧ M ≤ g' ∧ CsIn g' 0 #[.string bU, .string c, .int .i64 (place a)] w ∧ CsIn g 0 #[.int .i64 ((k : Int) + 1)] w
theorem ErrR.ch {ad : Nat → Addr} {M : Nat} {o : Rf} {v : Value} {S : Nat → Prop} {w w' : World} (h : ErrR ad M o v w) (c : Ch S w w') (hS : ∀ s, M ≤ s → ¬ S s) : ErrR ad M o v w' := by
  match o, h with
  | none, h => exact h
  | some (_, _, _), ⟨b, h1, h2, h3, h4⟩ => exact ⟨b, h1, h2, h3, RowAt.ch h4 c (hS b h2)⟩
theorem NoR.ch {M : Nat} {o : Rf} {v : Value} {S : Nat → Prop} {w w' : World} (h : NoR M o v w) (c : Ch S w w') (hS : ∀ s, M ≤ s → ¬ S s) : NoR M o v w' := by
  match o, h with
  | none, h => exact h
  | some (_, _, _), ⟨g, g', h1, h2, h3, h4, h5⟩ => exact ⟨g, g', h1, h2, h3, h4.ch c (hS g' h3), h5.ch c (hS g h2)⟩
theorem ErrR.later {ad : Nat → Addr} {M : Nat} {o : Rf} {v : Value} {w w' : World} (h : ErrR ad M o v w) (hb : Below w.heap.size w w') : ErrR ad M o v w' := h.ch (S := fun _ => False) (Ch.of hb) (fun _ _ q => q)
theorem NoR.later {M : Nat} {o : Rf} {v : Value} {w w' : World} (h : NoR M o v w) (hb : Below w.heap.size w w') : NoR M o v w' := h.ch (S := fun _ => False) (Ch.of hb) (fun _ _ q => q)
/-- An error held against the document's refusal of the same. -/
theorem refused_is {ad : Nat → Addr} {M M' : Nat} {o : Rf} {v u : Value} {w : World} (L : Laid ad w) (h : ErrR ad M o v w) (h' : NoR M' o u w) :
    Calls Tryd.prog 16 #[v, u] w fun e w' => e = .returned (.bool true) ∧ Below w.heap.size w w' := by
  match o, h, h' with
  | none, h, h' => rw [h, h']; exact refused_none _ _ _ _ _ _ _
  | some (c, a, k), ⟨b, h1, _, h3, h4⟩, ⟨g, g', e1, _, _, e4, e5⟩ => rw [h1, e1]; exact refused_some L h4 h3 e4 e5

/-- A Stack in memory; all its blocks are in F. -/
structure SkAt (t : TypeId) (B : Nat) (vd vu : Value) (F : Nat → Prop) (d u : List (List Xg)) (w : World) : Prop where
  lies : RowAt B #[vd, vu] t w
  rd : ERow F vd d w
  ru : ERow F vu u w
  apart : ∀ k, vd.ownBlock = some k → ¬ vu.ownBlock = some k
  ld : d.length ≤ 64
  lu : u.length ≤ 64
  fB : F B
  fd : ∀ k, vd.ownBlock = some k → F k
  fu : ∀ k, vu.ownBlock = some k → F k
  lt : ∀ k, F k → k < w.heap.size
theorem SkAt.ch {t : TypeId} {B : Nat} {vd vu : Value} {F S : Nat → Prop} {d u : List (List Xg)} {w w' : World} (h : SkAt t B vd vu F d u w) (c : Ch S w w') (hn : ∀ k, F k → ¬ S k) : SkAt t B vd vu F d u w' :=
  ⟨h.lies.ch c (hn B h.fB), h.rd.ch c (fun k hk => hn k (h.fd k hk)) hn, h.ru.ch c (fun k hk => hn k (h.fu k hk)) hn, h.apart, h.ld, h.lu, h.fB, h.fd, h.fu, fun k hk => Nat.lt_of_lt_of_le (h.lt k hk) c.size⟩
theorem SkAt.later {t : TypeId} {B : Nat} {vd vu : Value} {F : Nat → Prop} {d u : List (List Xg)} {w w' : World} (h : SkAt t B vd vu F d u w) (hb : Below w.heap.size w w') : SkAt t B vd vu F d u w' := h.ch (S := fun _ => False) (Ch.of hb) (fun _ _ q => q)
theorem typ_ne {w : World} {B k : Nat} {cs cur : Array Value} {t e : TypeId} (h : RowAt B cs t w) (hk : w.heap[k]? = some (.cells cur e (0, 0))) (hne : t ≠ e) : ¬ k = B := fun q => by
  subst q
  unfold RowAt at h
  rw [hk] at h
  simp only [Option.some.injEq, Obj.cells.injEq] at h
  exact hne h.2.1.symm
theorem SkAt.dne {t : TypeId} {B : Nat} {vd vu : Value} {F : Nat → Prop} {d u : List (List Xg)} {w : World} (h : SkAt t B vd vu F d u w) (ht : t ≠ 33) : ∀ k, vd.ownBlock = some k → ¬ k = B := fun k hk => by
  obtain ⟨us, h1, _⟩ := h.rd.ex
  obtain ⟨cur, hc⟩ := h1.typ k hk
  exact typ_ne h.lies hc ht
theorem SkAt.une {t : TypeId} {B : Nat} {vd vu : Value} {F : Nat → Prop} {d u : List (List Xg)} {w : World} (h : SkAt t B vd vu F d u w) (ht : t ≠ 33) : ∀ k, vu.ownBlock = some k → ¬ k = B := fun k hk => by
  obtain ⟨us, h1, _⟩ := h.ru.ex
  obtain ⟨cur, hc⟩ := h1.typ k hk
  exact typ_ne h.lies hc ht
/-- New. -/
theorem new_ok (w : World) : Calls Tryd.prog 9 #[] w fun e w' => e = .returned (.pointer (some ⟨w.heap.size, 0, none⟩)) ∧ SkAt 68 w.heap.size (.slice none 0 0) (.slice none 0 0) (fun k => k = w.heap.size) [] [] w' ∧ Below w.heap.size w w' := by
  go_enter Tryd.func9, Tryd.ntmps9
  go_wp2
  go_ret
  exact ⟨rfl, ⟨row_new _ _ _, ERow.nil _ _, ERow.nil _ _, fun k hk => (by cases hk), by simp, by simp, rfl, fun k hk => (by cases hk), fun k hk => (by cases hk), fun k hk => by subst hk; simp⟩, below_one _ _⟩
set_option maxHeartbeats 1000000 in
theorem depth_is {B : Nat} {vd vu : Value} {F : Nat → Prop} {d u : List (List Xg)} {w : World} (h : SkAt 68 B vd vu F d u w) :
    Calls Tryd.prog 11 #[.pointer (some ⟨B, 0, none⟩)] w fun e w' => e = .returned (.tuple #[.int .i64 (d.length : Int), .int .i64 (u.length : Int)]) ∧ Below w.heap.size w w' := by
  obtain ⟨a, c, rfl, _⟩ := h.rd.form
  obtain ⟨a', c', rfl, _⟩ := h.ru.form
  have c0 := h.lies.cls 0 _ rfl
  have c1 := h.lies.cls 1 _ rfl
  have hB := Below.refl w.heap.size w
  clear h
  go_enter Tryd.func11, Tryd.ntmps11
  go_upto_region 1 with fail
  refine wp_region_cls (by kernel_rfl) (by kernel_rfl) ?_
  repeat (first | go_big_quiet_skip | (go_big_quiet_want; first | (go_big_quiet_op; first | go_big_quiet_on | go_big_quiet_call ((fail)))))
  refine wpQuiet_nil ?_
  rintro w1 ⟨s1, e1⟩
  have hb1 := wOf_below s1
  rw [← e1] at hb1
  clear e1 s1
  replace hB := bgo hB hb1
  clear hb1
  go_wp2
  go_ret2
  exact ⟨rfl, hB⟩
theorem clear_is {B : Nat} {vd vu : Value} {F : Nat → Prop} {d u : List (List Xg)} {w : World} (h : SkAt 68 B vd vu F d u w) :
    Calls Tryd.prog 37 #[.pointer (some ⟨B, 0, none⟩)] w fun e w' => (∃ z, e = .returned z) ∧ SkAt 68 B (.slice none 0 0) (.slice none 0 0) F [] [] w' ∧ Ch F w w' := by
  have k0 := h.lies.cellIs 0 rfl
  have f0 := h.lies.froz 0
  have r1 := h.lies.setc 0 (.slice none 0 0)
  have k1 := r1.cellIs 1 rfl
  have f1 := r1.froz 1
  have r2 := r1.setc 1 (.slice none 0 0)
  have H := hid_of' (And.intro h r2)
  clear h r1 r2
  go_enter Tryd.func37, Tryd.ntmps37
  go_wp2
  go_end0
  obtain ⟨h, r2⟩ := H.out
  have c2 : Ch F w ((w.setCell ⟨B, 0, none⟩ (.slice none 0 0)).setCell ⟨B, 1, none⟩ (.slice none 0 0)) := ((Ch.refl F w).set (p := ⟨B, 0, none⟩) (.inl h.fB) _).set (p := ⟨B, 1, none⟩) (.inl h.fB) _
  exact ⟨⟨_, rfl⟩, ⟨r2, ERow.nil _ _, ERow.nil _ _, fun k hk => (by cases hk), by simp, by simp, h.fB, fun k hk => (by cases hk), fun k hk => (by cases hk), fun k hk => Nat.lt_of_lt_of_le (h.lt k hk) c2.size⟩, c2⟩
set_option maxHeartbeats 2000000 in
theorem peekUndo_no {ad : Nat → Addr} {B : Nat} {vd vu : Value} {F : Nat → Prop} {d u : List (List Xg)} {w : World} (L : Ln ad w) (h : SkAt 68 B vd vu F d u w) (h0 : d = []) :
    Calls Tryd.prog 35 #[.pointer (some ⟨B, 0, none⟩), .bool false] w fun e w' => ∃ v, e = .returned (.tuple #[.slice none 0 0, v]) ∧ ErrR ad w.heap.size (some (bUndo, -1, 11)) v w' ∧ Below w.heap.size w w' := by
  subst h0
  obtain ⟨a, c, hv, _⟩ := h.rd.form
  obtain ⟨a', c', hv', _⟩ := h.ru.form
  subst hv hv'
  have c0 := h.lies.cls 0 _ rfl
  have c1 := h.lies.cls 1 _ rfl
  have hB := Below.refl w.heap.size w
  have HL := hid_of' L
  have HF := hid_of' (fun x => newF (ad := ad) bU bUndo (-1) 11 x)
  have HK := hid_of' h
  clear h L
  go_enter Tryd.func35, Tryd.ntmps35
  go_upto_region 1 with fail
  refine wp_region_cls (by kernel_rfl) (by kernel_rfl) ?_
  repeat (first | go_big_quiet_skip | (go_big_quiet_want; first | (go_big_quiet_op; first | go_big_quiet_on | go_big_quiet_call ((fail)))))
  refine wpQuiet_nil ?_
  rintro w1 ⟨s1, e1⟩
  have hb1 := wOf_below s1
  rw [← e1] at hb1
  clear e1 s1
  replace hB := bgo hB hb1
  clear hb1
  have LV : w1.cell? ⟨2, 0, none⟩ = some (.iface 156 (.pointer (some (ad 11)))) := HL.out.below hB
  go_wp2_with (go_at_call 38; refine (HF.out _).mono ?_; rintro r w2 ⟨rfl, hf, hb1⟩)
  go_ret2
  exact ⟨_, rfl, ⟨_, rfl, hB.size, by decide, hf⟩, bgo hB hb1⟩
set_option maxHeartbeats 2000000 in
theorem peekUndo_yes {B n : Nat} {vd vu : Value} {F : Nat → Prop} {d u : List (List Xg)} {l : List Xg} {w : World} (h : SkAt 68 B vd vu F d u w) (hn : d.length = n + 1) (hl : d[n]? = some l) :
    Calls Tryd.prog 35 #[.pointer (some ⟨B, 0, none⟩), .bool false] w fun e w' => ∃ v, e = .returned (.tuple #[v, .nilIface]) ∧ NwX w.heap.size v (bkL l) w' ∧ Below w.heap.size w w' := by
  obtain ⟨g, cg, ul, hvv, _, _, hcu, _, hul⟩ := h.rd.at hl
  obtain ⟨au, cu, hu9, _⟩ := Rw.form hul.row
  obtain ⟨a, c, hv, _⟩ := h.rd.form
  obtain ⟨a', c', hv', _⟩ := h.ru.form
  subst hv hv'
  rw [hn] at hvv
  simp only [Value.slice.injEq, true_and] at hvv
  obtain ⟨rfl, rfl⟩ := hvv
  generalize List.length l = nl at hu9
  subst hu9
  have c0 := h.lies.cls 0 _ rfl
  have c1 := h.lies.cls 1 _ rfl
  rw [hn] at c0
  have hB := Below.refl w.heap.size w
  have HU := hid_of' (And.intro hul (And.intro h hcu))
  have e1 : wrap64 ((n : Int) + 1 - 1) = (n : Int) := by rw [show (n : Int) + 1 - 1 = (n : Int) by omega]; exact wrapIs (by have := h.ld; have := h.lu; omega) (by have := h.ld; have := h.lu; omega)
  have e3 : wrap64 (n : Int) = (n : Int) := wrapIs (by have := h.ld; have := h.lu; omega) (by have := h.ld; have := h.lu; omega)
  have kn : (n : Int) < (n : Int) + 1 := by omega
  have hn0 : ¬ (n : Int) + 1 = 0 := by omega
  have HN := hid_of' hn
  clear hl hul h hn hcu
  go_enter Tryd.func35, Tryd.ntmps35
  go_upto_region 1 with fail
  refine wp_region_cls (by kernel_rfl) (by kernel_rfl) ?_
  repeat (first | go_big_quiet_skip | (go_big_quiet_want; first | (go_big_quiet_op; first | go_big_quiet_on | go_big_quiet_call ((fail)))))
  refine wpQuiet_nil ?_
  rintro w1 ⟨s1, e1⟩
  have hb1 := wOf_below s1
  rw [← e1] at hb1
  clear e1 s1
  replace hB := bgo hB hb1
  clear hb1
  have hcu : w1.cell? ⟨g, n, none⟩ = some (.slice au nl cu) := by rw [hB.cell (World.block_lt_of_cell? _ _ HU.out.2.2)]; exact HU.out.2.2
  have HA := hid_of' (back_ok (HU.out.1.row.sl.later hB) HU.out.1.le)
  go_wp2_with (go_at_call 18; (with_reducible refine HA.out.mono ?_); rintro r w2 ⟨v2, rfl, hv2, hb2⟩)
  go_ret2
  exact ⟨_, rfl, ⟨hv2.1, fun k hk => by have := hv2.2 k hk; have := hB.size; omega⟩, bgo hB hb2⟩
set_option maxHeartbeats 2000000 in
theorem peekRedo_no {ad : Nat → Addr} {B : Nat} {vd vu : Value} {F : Nat → Prop} {d u : List (List Xg)} {w : World} (L : Ln ad w) (h : SkAt 68 B vd vu F d u w) (h0 : u = []) :
    Calls Tryd.prog 35 #[.pointer (some ⟨B, 0, none⟩), .bool true] w fun e w' => ∃ v, e = .returned (.tuple #[.slice none 0 0, v]) ∧ ErrR ad w.heap.size (some (bRedo, -1, 11)) v w' ∧ Below w.heap.size w w' := by
  subst h0
  obtain ⟨a, c, hv, _⟩ := h.rd.form
  obtain ⟨a', c', hv', _⟩ := h.ru.form
  subst hv hv'
  have c0 := h.lies.cls 0 _ rfl
  have c1 := h.lies.cls 1 _ rfl
  have hB := Below.refl w.heap.size w
  have HL := hid_of' L
  have HF := hid_of' (fun x => newF (ad := ad) bU bRedo (-1) 11 x)
  have HK := hid_of' h
  clear h L
  go_enter Tryd.func35, Tryd.ntmps35
  go_upto_region 1 with fail
  refine wp_region_cls (by kernel_rfl) (by kernel_rfl) ?_
  repeat (first | go_big_quiet_skip | (go_big_quiet_want; first | (go_big_quiet_op; first | go_big_quiet_on | go_big_quiet_call ((fail)))))
  refine wpQuiet_nil ?_
  rintro w1 ⟨s1, e1⟩
  have hb1 := wOf_below s1
  rw [← e1] at hb1
  clear e1 s1
  replace hB := bgo hB hb1
  clear hb1
  go_upto_region 3 with fail
  replace c0 := (HK.out.later hB).lies.cls 0 _ rfl
  replace c1 := (HK.out.later hB).lies.cls 1 _ rfl
  go_upto_region 3 with fail
  refine wp_region_cls (by kernel_rfl) (by kernel_rfl) ?_
  repeat (first | go_big_quiet_skip | (go_big_quiet_want; first | (go_big_quiet_op; first | go_big_quiet_on | go_big_quiet_call ((fail)))))
  refine wpQuiet_nil ?_
  rintro w1 ⟨s1, e1⟩
  have hb1 := wOf_below s1
  rw [← e1] at hb1
  clear e1 s1
  replace hB := bgo hB hb1
  clear hb1
  have LV : w1.cell? ⟨2, 0, none⟩ = some (.iface 156 (.pointer (some (ad 11)))) := HL.out.below hB
  go_wp2_with (go_at_call 38; refine (HF.out _).mono ?_; rintro r w2 ⟨rfl, hf, hb1⟩)
  go_ret2
  exact ⟨_, rfl, ⟨_, rfl, hB.size, by decide, hf⟩, bgo hB hb1⟩
set_option maxHeartbeats 2000000 in
theorem peekRedo_yes {B n : Nat} {vd vu : Value} {F : Nat → Prop} {d u : List (List Xg)} {l : List Xg} {w : World} (h : SkAt 68 B vd vu F d u w) (hn : u.length = n + 1) (hl : u[n]? = some l) :
    Calls Tryd.prog 35 #[.pointer (some ⟨B, 0, none⟩), .bool true] w fun e w' => ∃ v, e = .returned (.tuple #[v, .nilIface]) ∧ NwX w.heap.size v (agL l) w' ∧ Below w.heap.size w w' := by
  obtain ⟨g, cg, ul, hvv, _, _, hcu, _, hul⟩ := h.ru.at hl
  obtain ⟨au, cu, hu9, _⟩ := Rw.form hul.row
  obtain ⟨a, c, hv, _⟩ := h.rd.form
  obtain ⟨a', c', hv', _⟩ := h.ru.form
  subst hv hv'
  rw [hn] at hvv
  simp only [Value.slice.injEq, true_and] at hvv
  obtain ⟨rfl, rfl⟩ := hvv
  generalize List.length l = nl at hu9
  subst hu9
  have c0 := h.lies.cls 0 _ rfl
  have c1 := h.lies.cls 1 _ rfl
  rw [hn] at c1
  have hB := Below.refl w.heap.size w
  have HU := hid_of' (And.intro hul (And.intro h hcu))
  have e1 : wrap64 ((n : Int) + 1 - 1) = (n : Int) := by rw [show (n : Int) + 1 - 1 = (n : Int) by omega]; exact wrapIs (by have := h.ld; have := h.lu; omega) (by have := h.ld; have := h.lu; omega)
  have e3 : wrap64 (n : Int) = (n : Int) := wrapIs (by have := h.ld; have := h.lu; omega) (by have := h.ld; have := h.lu; omega)
  have kn : (n : Int) < (n : Int) + 1 := by omega
  have hn0 : ¬ (n : Int) + 1 = 0 := by omega
  have HN := hid_of' hn
  clear hl hul h hn hcu
  go_enter Tryd.func35, Tryd.ntmps35
  go_upto_region 1 with fail
  refine wp_region_cls (by kernel_rfl) (by kernel_rfl) ?_
  repeat (first | go_big_quiet_skip | (go_big_quiet_want; first | (go_big_quiet_op; first | go_big_quiet_on | go_big_quiet_call ((fail)))))
  refine wpQuiet_nil ?_
  rintro w1 ⟨s1, e1⟩
  have hb1 := wOf_below s1
  rw [← e1] at hb1
  clear e1 s1
  replace hB := bgo hB hb1
  clear hb1
  go_upto_region 3 with fail
  replace c0 := (HU.out.2.1.later hB).lies.cls 0 _ rfl
  replace c1 := (HU.out.2.1.later hB).lies.cls 1 _ rfl
  rw [HN.out] at c1
  go_upto_region 3 with fail
  refine wp_region_cls (by kernel_rfl) (by kernel_rfl) ?_
  repeat (first | go_big_quiet_skip | (go_big_quiet_want; first | (go_big_quiet_op; first | go_big_quiet_on | go_big_quiet_call ((fail)))))
  refine wpQuiet_nil ?_
  rintro w1 ⟨s1, e1⟩
  have hb1 := wOf_below s1
  rw [← e1] at hb1
  clear e1 s1
  replace hB := bgo hB hb1
  clear hb1
  have hcu : w1.cell? ⟨g, n, none⟩ = some (.slice au nl cu) := by rw [hB.cell (World.block_lt_of_cell? _ _ HU.out.2.2)]; exact HU.out.2.2
  have HA := hid_of' (again_ok (HU.out.1.row.sl.later hB) HU.out.1.le)
  go_wp2_with (go_at_call 19; (with_reducible refine HA.out.mono ?_); rintro r w2 ⟨v2, rfl, hv2, hb2⟩)
  go_ret2
  exact ⟨_, rfl, ⟨hv2.1, fun k hk => by have := hv2.2 k hk; have := hB.size; omega⟩, bgo hB hb2⟩
end Go.Proofs.YtgkbgojgpomcdaaDoor
