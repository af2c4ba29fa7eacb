
/-
  (*tree.Tree).All's closure as an iterator. The loop's law of Iter, where the assignment lays the loop's variable in a block of its own. (*model.Model).All's closure as an iterator. (*model.Model).Elements.
-/
import Derived.Test.YtjalehlmldlooaaGreatDoorZap24
import Derived.Test.YtjalehlmldlooaaGreatDoorZap23
import Derived.Test.YtjalehlmldlooaaGreatDoorZap26
import Derived.OwnWalkIn
namespace Go.Proofs.YtjalehlmldlooaaGreatDoor
open Go.RowKit Go.Shelf
set_option maxRecDepth 100000
attribute [local go_sem] Oper.semAt_some

/-- Elements with their numbers. -/
def enumF : Nat → List El → List (Nat × El)
  | _, [] => []
  | k, e :: r => (k, e) :: enumF (k + 1) r
theorem enumF_app : ∀ (k : Nat) (a b : List El), enumF k (a ++ b) = enumF k a ++ enumF (k + a.length) b
  | _, [], _ => by simp [enumF]
  | k, e :: a, b => by simp only [List.cons_append, enumF, enumF_app (k + 1) a b, List.length_cons]; rw [show k + 1 + a.length = k + (a.length + 1) by omega]
theorem enumF_len : ∀ (k : Nat) (a : List El), (enumF k a).length = a.length
  | _, [] => rfl
  | k, _ :: a => by simp [enumF, enumF_len (k + 1) a]
def encE (p : Nat × El) : Array Value := #[.int .i64 (p.1 : Int), .agg (ev p.2)]
def elsO : Option Nd → List El
  | none => []
  | some t => t.els
def flatL (xs : List Lf) : List El := (xs.map Lf.l).flatten
theorem flatL_all (t : Option Nd) : flatL (lfsO t) = elsO t := by
  cases t with
  | none => rfl
  | some t => show ((t.lfs).map Lf.l).flatten = t.els; rw [t.lfs_l, Nd.els_flat]
theorem lfs_at {R : Rows} {w : World} : ∀ {t : Nd}, t.At R w → ∀ x ∈ t.lfs, ElsAt x.g x.o x.l w ∧ x.l.length ≤ x.c
  | .leaf b g o_ c l, h, x, hx => by
    simp only [Nd.lfs, List.mem_singleton] at hx
    subst hx
    exact ⟨h.2.1, h.2.2.1⟩
  | .inner b y z, h, x, hx => by
    simp only [Nd.lfs, List.mem_append] at hx
    exact hx.elim (lfs_at h.2.1 x) (lfs_at h.2.2 x)
theorem grown_alloc_row {w : World} {o : Obj} {cs : Array Value} : w.grownBy ((w.alloc o).setRow w.heap.size cs) none := by
  have h1 := World.grownBy_alloc w o none
  refine ⟨h1.os, h1.tape, h1.output, by simp, fun k hk hne => ?_⟩
  rw [setRow_other _ _ _ _ (by omega)]
  exact h1.block k hk hne

theorem RoundIn.inRound {F : Fence} {m : Nat} {P : Program} {l : Nat} {f : FuncId} {tmps : Array Value} {assign body : Code} {W : World} {Q : Ending → World → Prop} (l' : Nat) (h : RoundIn F m P l f tmps assign body W Q) : RoundIn (F.inRound l') m P l f tmps assign body W Q := h
/-- What stands between two rounds of the loop over leaves. -/
structure AllI (S : Nat → Prop) (w : World) (J : List (Nat × El) → (Nat → Prop) → World → Prop) (l b0 : Nat) (es : List El) (Oin : Nat → Prop) (A : World) : Prop where
  own : ∃ O : Nat → Prop, (∀ r, Oin r → O r) ∧ O b0 ∧ O (b0 + 1) ∧ J (enumF 0 es) O A
  yl : Boxed A b0 142 (.func (.yield l) #[] #[])
  ix : Boxed A (b0 + 1) 3 (.int .i64 (es.length : Int))
  kc : KC S w A
theorem prefix_flat {pre xs : List Lf} {x : Lf} (h : (pre ++ [x]) <+: xs) : (flatL pre ++ x.l) <+: flatL xs := by
  obtain ⟨r, rfl⟩ := h
  exact ⟨flatL r, by simp [flatL]⟩
theorem prefix_enum {a b : List El} (h : a <+: b) : enumF 0 a <+: enumF 0 b := by
  obtain ⟨r, rfl⟩ := h
  exact ⟨enumF (0 + a.length) r, (enumF_app 0 a r).symm⟩
theorem enum_next (es : List El) (e : El) : enumF 0 (es ++ [e]) = enumF 0 es ++ [(es.length, e)] := by
  rw [enumF_app]
  simp [enumF]
theorem row_set (W : World) (g : Nat) (c : Array Value) (k : Nat) (h : k ≠ g) : (W.setRow g c).heap[k]? = W.heap[k]? := setRow_other W g k c (by omega)

set_option maxHeartbeats 8000000 in
theorem all_it {F : Fence} (hF : F = Fence.wide) (n : Nat) (hn : 1 ≤ n) (Bt tb : Nat) {R : Rows} {S : Nat → Prop} (t : Option Nd) (w0 w : World) (hb00 : Below w0.heap.size w0 w) (hBt : Bt < w.heap.size) (htb : tb < w.heap.size)
    (hc : w.cell? ⟨Bt, 0, none⟩ = some (.pointer (some ⟨tb, 0, none⟩))) (hr : w.cell? ⟨tb, 1, none⟩ = some (pvO t)) (hA : ∀ t', t = some t' → t'.At R w0) (hS : Sok S R w0) (hlen : (elsO t).length ≤ 1048576) :
    SeqIt F n Tryz.prog 77 #[.pointer (some ⟨Bt, 0, none⟩)] encE (enumF 0 (elsO t)) (fun A A' => KC S w0 A → KC S w0 A') w := by
  intro l J Jx W hW hJ hJx hY h0
  obtain ⟨va, hva⟩ : ∃ va, pvO t = .pointer va := by cases t <;> exact ⟨_, rfl⟩
  have hdd : ∀ k : Nat, (F.depth.isSome = true → 1 ≤ k) := fun k h => by rw [depth_wide hF] at h; cases h
  have k1 : F.fn 77 := fn_wide hF _
  have k2 : F.fn 78 := fn_wide hF _
  have k3 : F.fn 92 := fn_wide hF _
  have hro := round_wide hF
  -- the world when the loop over leaves begins
  obtain ⟨X, hX⟩ : ∃ X, (((W.alloc (.cells #[.func (.yield l) #[] #[]] 142)).alloc (.cells #[.int .i64 0] 3)).alloc (.cells #[.pointer va] 86)) = X := ⟨_, rfl⟩
  have x0 := Boxed.new W 142 (.func (.yield l) #[] #[])
  have x1 := Boxed.new (W.alloc (.cells #[.func (.yield l) #[] #[]] 142)) 3 (.int .i64 0)
  have x2 := Boxed.new ((W.alloc (.cells #[.func (.yield l) #[] #[]] 142)).alloc (.cells #[.int .i64 0] 3)) 86 (.pointer va)
  rw [World.size_alloc] at x1
  have hsz : X.heap.size = W.heap.size + 3 := by rw [← hX]; simp
  have y0 : Boxed X W.heap.size 142 (.func (.yield l) #[] #[]) := by rw [← hX]; exact (x0.alloc _).alloc _
  have y1 : Boxed X (W.heap.size + 1) 3 (.int .i64 0) := by
    rw [← hX]
    exact x1.alloc _
  have y2 : X.cell? ⟨W.heap.size + 2, 0, none⟩ = some (.pointer va) := by
    have := x2.cell
    rw [hX] at this
    simpa using this
  have hBX : Below W.heap.size W X := by
    rw [← hX]
    exact (((Below.refl _ W).alloc (Nat.le_refl _) _).alloc (by simp) _).alloc (by simp; omega) _
  have hgX : W.grownBy X none := ⟨hBX.os, hBX.tape, hBX.output, hBX.size, fun k hk _ => hBX.block k hk⟩
  have hWX' : Below w.heap.size w X := hW.trans (hBX.mono hW.size)
  have hWX : Below w0.heap.size w0 X := hb00.trans (hWX'.mono hb00.size)
  have hw00 := hb00.size
  clear hWX'
  have hwW := hW.size
  have HS := hid_of' (leaves_it hF (n - 1) (W.heap.size + 2) (fun A => KC S w0 A) (fun A A' => KC S w0 A → KC S w0 A') (fun _ _ g k => k g) t X (by omega) (by rw [hva]; exact y2) (fun t' e A g => (hA t' e).kc hS g) (fun A h => KC.of_below (hWX.trans (h.mono hWX.size))))
  have HL := hid_of' (fun w' => leaves_in hF (n := n - 1) va w')
  have HF := hid_of' hF
  have d0 : ∀ o, (W.alloc o).cell? ⟨Bt, 0, none⟩ = some (.pointer (some ⟨tb, 0, none⟩)) := fun o => (((Below.refl _ W).alloc (Nat.le_refl _) o).cell (p := ⟨Bt, 0, none⟩) (by show Bt < W.heap.size; omega)).trans ((hW.cell (p := ⟨Bt, 0, none⟩) hBt).trans hc)
  have e0 : ((W.alloc (.cells #[.func (.yield l) #[] #[]] 142)).alloc (.cells #[.int .i64 0] 3)).cell? ⟨Bt, 0, none⟩ = some (.pointer (some ⟨tb, 0, none⟩)) := by
    have h2 : Below W.heap.size W ((W.alloc (.cells #[.func (.yield l) #[] #[]] 142)).alloc (.cells #[.int .i64 0] 3)) := ((Below.refl _ W).alloc (Nat.le_refl _) _).alloc (by simp) _
    exact (h2.cell (p := ⟨Bt, 0, none⟩) (by show Bt < W.heap.size; omega)).trans ((hW.cell (p := ⟨Bt, 0, none⟩) hBt).trans hc)
  have e1 : ((W.alloc (.cells #[.func (.yield l) #[] #[]] 142)).alloc (.cells #[.int .i64 0] 3)).cell? ⟨tb, 1, none⟩ = some (.pointer va) := by
    have h2 : Below W.heap.size W ((W.alloc (.cells #[.func (.yield l) #[] #[]] 142)).alloc (.cells #[.int .i64 0] 3)) := ((Below.refl _ W).alloc (Nat.le_refl _) _).alloc (by simp) _
    rw [← hva]
    exact (h2.cell (p := ⟨tb, 1, none⟩) (by show tb < W.heap.size; omega)).trans ((hW.cell (p := ⟨tb, 1, none⟩) htb).trans hr)
  clear hF d0
  refine callsIn_of_wp_marks Tryz.func77 rfl k1 ?_ hro
  simp only [Tryz.ntmps77, List.size_toArray, List.length_cons, List.length_nil, Nat.reduceAdd, Nat.reduceSub, Array.replicate_succ, Array.replicate_zero, List.push_toArray, List.append_toArray, List.nil_append, List.cons_append]
  gi_wp2_with ((try refine ⟨hdd _, ?_⟩); gi_at_call 78; refine (HL.out _).mono ?_; clear HL; rintro e w' ⟨rfl, rfl⟩)
  have kcX : KC S w0 X := KC.of_below hWX
  refine wpIn_rangeFunc_it hro hn (gf := 92) (lb := #[.pointer (some ⟨W.heap.size + 2, 0, none⟩)]) rfl k3 (enters_of Tryz.func92 (by kernel_rfl) rfl)
    HS.out (fun h k g => k (h g)) (fun A l' o o' _ hl hcc g => g.grown (grownBy_putObj' A l' o') (fun r e => by cases e; exact .inr (.inr ⟨o, hl, hcc⟩))) (Below.refl _ _) (fun _ => rfl)
    (fun pre Oin A => AllI S w0 J l W.heap.size (flatL pre) Oin A) (fun c _ A => c = .ret ∧ ∃ q, q <+: enumF 0 (elsO t) ∧ Jx q A) ?bears ?hIx ?h0
    (fun x => { tmps := #[.func (.yield l) #[] #[], .pointer (some ⟨Bt, 0, none⟩), .pointer (some ⟨W.heap.size, 0, none⟩), .pointer (some ⟨W.heap.size + 1, 0, none⟩), x.v, undef, undef, .pointer (some ⟨tb, 0, none⟩), .pointer (some ⟨tb, 0, none⟩), .pointer (some ⟨tb, 1, none⟩), .pointer va, .func (.func 92) #[] #[.pointer (some ⟨W.heap.size + 1 + 1, 0, none⟩)], x.v, undef, undef, undef, undef, undef, undef, undef, undef, undef, undef, undef, undef, undef, undef], defers := [] }) ?assign ?body ?done ?stop
  case bears =>
    rintro pre O O' A A' row ⟨⟨Oj, h1, h2, h3, h4⟩, yl, ix, kc⟩ hg hr hO
    rw [hsz] at hr
    refine ⟨⟨fun r => Oj r ∨ (A.heap.size ≤ r ∧ r < A'.heap.size), fun r hr' => (hO r hr').elim (fun h => .inl (h1 r h)) .inr, .inl h2, .inl h3, ?_⟩, yl.kept hg (fun e => ?_), ix.kept hg (fun e => ?_), kc.grown hg (fun r e => ?_)⟩
    · refine hJ _ Oj _ A A' row h4 hg (fun r e => ⟨?_, (hr r e).2.elim (fun h => .inl (h1 r h)) .inr⟩) (fun r h => h)
      have := (hr r e).1
      omega
    · have := (hr W.heap.size e.symm).1
      omega
    · have := (hr (W.heap.size + 1) e.symm).1
      omega
    · have := (hr r e).1
      exact .inl (by omega)
  case hIx =>
    rintro c pre A A' row ⟨h1, q, hq, hj⟩ hg hr
    rw [hsz] at hr
    exact ⟨h1, q, hq, hJx q A A' row hj hg (fun r e => ⟨by have := (hr r e).1; omega, (hr r e).2⟩)⟩
  case h0 =>
    refine ⟨⟨fun r => r = W.heap.size ∨ r = W.heap.size + 1, fun _ h => h.elim, .inl rfl, .inr rfl, ?_⟩, y0, y1, kcX⟩
    exact hJ [] (fun _ => False) _ W X none h0 hgX (fun _ e => by cases e) (fun r hr => .inr (by rcases hr with rfl | rfl <;> omega))
  case assign =>
    intro l' x W' K hK
    gi_wp2
    exact hK
  case body =>
    rintro l' pre x Oin A hI0 hpre hOin
    have hmem : x ∈ lfsO t := hpre.subset (by simp)
    have hEx : ∀ A', KC S w0 A' → ElsAt x.g x.o x.l A' ∧ x.l.length ≤ x.c := by
      cases t with
      | none => simp [lfsO] at hmem
      | some t' => exact fun A' g => lfs_at ((hA t' rfl).kc hS g) x hmem
    have hpf := prefix_flat hpre
    rw [flatL_all] at hpf
    have hlx : (flatL pre).length + x.l.length ≤ 1048576 := by
      have := hpf.length_le
      rw [List.length_append] at this
      omega
    have hxc := (hEx A hI0.kc).2
    unfold Lf.v
    gi_wp2
    gi_loopw [15] (fun kv wr => ∃ k : Nat, kv = .int .i64 (k : Int) ∧ k ≤ x.l.length ∧ AllI S w0 J l W.heap.size (flatL pre ++ x.l.take k) Oin wr ∧ KeepsFrom X.heap.size A wr ∧ KeepsSet Oin A wr) (fun kv _ => x.l.length - (intOf kv).toNat)
    case atStart => exact ⟨0, rfl, by omega, by simpa using hI0, KeepsFrom.refl _ _, fun _ _ => rfl⟩
    case round =>
      obtain ⟨k, rfl, hk, hI, hkf, hks⟩ := hrel
      by_cases hlt : k < x.l.length
      · obtain ⟨⟨O, o1, o2, o3, o4⟩, yl, ix, kc⟩ := hI
        obtain ⟨e, he⟩ : ∃ e, x.l[k]? = some e := ⟨_, List.getElem?_eq_getElem hlt⟩
        have hki : (k : Int) < (x.l.length : Int) := by omega
        have hce : CsIn x.g (x.o + k * 5) (ev e) wr := (hEx wr kc).1 k e he
        have hel : (flatL pre ++ x.l.take k).length ≤ 1048576 := by rw [List.length_append, List.length_take]; omega
        have htk : flatL pre ++ x.l.take (k + 1) = (flatL pre ++ x.l.take k) ++ [e] := by rw [List.take_add_one, he]; simp
        have hp1 : (flatL pre ++ x.l.take (k + 1)) <+: elsO t := (show flatL pre ++ x.l.take (k + 1) <+: flatL pre ++ x.l from ⟨x.l.drop (k + 1), by rw [List.append_assoc, List.take_append_drop]⟩).trans hpf
        obtain ⟨es, hes⟩ : ∃ es, flatL pre ++ x.l.take k = es := ⟨_, rfl⟩
        rw [hes] at htk o4 ix hel
        rw [htk] at hp1
        have hp2 : (enumF 0 es ++ [(es.length, e)]) <+: enumF 0 (elsO t) := by rw [← enum_next]; exact prefix_enum hp1
        have HP := hid_of' hp2
        have hgE : wr.grownBy ((wr.alloc (.cells #[.int .i64 0, .int .i64 0, .int .i64 0, .int .i32 0, .int .i64 0] 49)).setRow wr.heap.size (ev e)) none := grown_alloc_row
        have jE := hJ _ O O wr ((wr.alloc (.cells #[.int .i64 0, .int .i64 0, .int .i64 0, .int .i32 0, .int .i64 0] 49)).setRow wr.heap.size (ev e)) none o4 hgE (fun _ h => by cases h) (fun r h => .inl h)
        have rE : RowAt wr.heap.size (ev e) 49 ((wr.alloc (.cells #[.int .i64 0, .int .i64 0, .int .i64 0, .int .i32 0, .int .i64 0] 49)).setRow wr.heap.size (ev e)) := (row_new wr #[.int .i64 0, .int .i64 0, .int .i64 0, .int .i32 0, .int .i64 0] 49).put (ev e)
        have yl1 : Boxed ((wr.alloc (.cells #[.int .i64 0, .int .i64 0, .int .i64 0, .int .i32 0, .int .i64 0] 49)).setRow wr.heap.size (ev e)) W.heap.size 142 (.func (.yield l) #[] #[]) := yl.kept hgE (fun h => by cases h)
        have ix1 : Boxed ((wr.alloc (.cells #[.int .i64 0, .int .i64 0, .int .i64 0, .int .i32 0, .int .i64 0] 49)).setRow wr.heap.size (ev e)) (W.heap.size + 1) 3 (.int .i64 (es.length : Int)) := ix.kept hgE (fun h => by cases h)
        have kcE : KC S w0 ((wr.alloc (.cells #[.int .i64 0, .int .i64 0, .int .i64 0, .int .i32 0, .int .i64 0] 49)).setRow wr.heap.size (ev e)) := kc.grown hgE (fun _ h => by cases h)
        obtain ⟨fn, tmps, assign, body, hy, hR⟩ := yield_any HF.out (n - 1 - 1 - 1) (hY (enumF 0 es) (es.length, e) O ((wr.alloc (.cells #[.int .i64 0, .int .i64 0, .int .i64 0, .int .i32 0, .int .i64 0] 49)).setRow wr.heap.size (ev e)) jE hp2)
        have HR := hid_of' (RoundIn.inRound l' (hR.mono (R' := fun e2 W2 => (e2 = .returned (.bool true) ∧ W2.cell? ⟨W.heap.size + 1, 0, none⟩ = some (.int .i64 (es.length : Int)) ∧ W2.frozen? ⟨W.heap.size + 1, 0, none⟩ = false ∧ J (enumF 0 (es ++ [e])) O W2 ∧ KC S w0 W2 ∧ KeepsSet O ((wr.alloc (.cells #[.int .i64 0, .int .i64 0, .int .i64 0, .int .i32 0, .int .i64 0] 49)).setRow wr.heap.size (ev e)) W2 ∧ KeepsFrom W.heap.size ((wr.alloc (.cells #[.int .i64 0, .int .i64 0, .int .i64 0, .int .i32 0, .int .i64 0] 49)).setRow wr.heap.size (ev e)) W2) ∨
            (e2 = .returned (.bool false) ∧ Jx (enumF 0 (es ++ [e])) W2 ∧ KeepsFrom W.heap.size ((wr.alloc (.cells #[.int .i64 0, .int .i64 0, .int .i64 0, .int .i32 0, .int .i64 0] 49)).setRow wr.heap.size (ev e)) W2)) (fun e2 W2 ⟨g1, g2⟩ => g2.elim
          (fun ⟨a1, a2, a3, a4⟩ => .inl ⟨a1, Boxed.cell (show Boxed W2 (W.heap.size + 1) 3 _ from (a4 _ o3).trans ix1), Boxed.frozen (show Boxed W2 (W.heap.size + 1) 3 _ from (a4 _ o3).trans ix1), by rw [enum_next]; exact a2, a3 kcE, a4, g1⟩) (fun ⟨a1, a2⟩ => .inr ⟨a1, by rw [enum_next]; exact a2, g1⟩))))
        have c0 := yl1.cell
        have c1 := ix1.cell
        simp only [encE] at hy
        clear hR hp1 hp2 jE kcE yl ix hY HS hX x0 x1 x2 hI0
        gi_wp2_with (first | (refine wpLIn_loadE rfl _ rfl rfl hce ?_) | (refine wpLIn_storeE rfl _ _ rfl rfl rfl (row_new wr _ _) ?_) | (refine wpLIn_loadE rfl _ rfl rfl rE.in ?_) | ((try refine ⟨hdd _, ?_⟩); refine HR.out.mono ?_; clear HR; rintro e2 W2 (⟨rfl, c2, f2, hj2, kc2, hks2, hkf2⟩ | ⟨rfl, hx2, hkf2⟩)))
        · have hkA : KeepsFrom X.heap.size A W2 := (hkf.trans (KeepsFrom.of_grownBy hgE (fun _ h => by cases h))).trans ⟨hkf2.size, fun q o hq => hkf2.same q o (by omega)⟩
          have hb2 : Boxed W2 (W.heap.size + 1) 3 (.int .i64 (es.length : Int)) := (hks2 _ o3).trans ix1
          have yl2 : Boxed W2 W.heap.size 142 (.func (.yield l) #[] #[]) := (hks2 _ o2).trans yl1
          refine ⟨⟨k + 1, by go_num, by omega, ?_, hkA.trans ((KeepsOthers.setCell _ _ _).from _), ?_⟩, by simp [intOf]; omega⟩
          · rw [htk]
            refine ⟨⟨O, o1, o2, o3, hJ _ O O W2 _ (some (W.heap.size + 1)) hj2 (grownBy_setCell' W2 _ _) (fun r e => by cases e; exact ⟨by omega, .inl o3⟩) (fun _ h => .inl h)⟩, yl2.other (by omega) _, ?_, kc2.grown (grownBy_setCell' W2 _ _) (fun r e => by cases e; exact .inl (by omega))⟩
            have e3 : ((es ++ [e]).length : Int) = (es.length : Int) + 1 := by simp
            rw [e3]
            exact heap_setCell_at hb2 0 _
          · intro r hr
            have hrl := hOin r hr
            have hr1 : r < wr.heap.size := Nat.lt_of_lt_of_le hrl.2 hkf.size
            rw [Below.heap_setCell _ _ _ _ (by show r ≠ W.heap.size + 1; omega), hks2 r (o1 r hr), hgE.block r hr1 (fun h => by cases h)]
            exact hks r hr
        · have hkA : KeepsFrom X.heap.size A W2 := (hkf.trans (KeepsFrom.of_grownBy hgE (fun _ h => by cases h))).trans ⟨hkf2.size, fun q o hq => hkf2.same q o (by omega)⟩
          exact ⟨hkA, rfl, _, by rw [enum_next]; exact HP.out, hx2⟩
      · have hkl : k = x.l.length := by omega
        have hki : ¬ (k : Int) < (x.l.length : Int) := by omega
        gi_wp2
        refine ⟨hsz ▸ hkf, hks, fun _ => hI.kc, ?_⟩
        rw [hkl, List.take_length] at hI
        have e3 : flatL (pre ++ [x]) = flatL pre ++ x.l := by simp [flatL]
        rw [e3]
        exact hI
  case done =>
    rintro D O W2 hD ⟨⟨Oj, _, _, _, h4⟩, _, _, _⟩ hK
    rw [hsz] at hD
    rw [flatL_all] at h4
    gi_wp2
    refine ⟨by simp, .inl ⟨_, _, rfl, run_takeDeferred hK, ?_⟩⟩
    exact ⟨_, results_none rfl _ _ _, ⟨_, rfl⟩, .inl ⟨Oj, hJ.put _ h4 (by omega) hK rfl⟩⟩
  case stop =>
    rintro D c pre W2 hD hpre ⟨rfl, q, hq, hj⟩ hK
    rw [hsz] at hD
    gi_wp2
    refine ⟨by simp, .inl ⟨_, _, rfl, run_takeDeferred hK, ?_⟩⟩
    exact ⟨_, results_none rfl _ _ _, ⟨_, rfl⟩, .inr ⟨q, hq, hJx.putObj _ hj (by omega) hK rfl⟩⟩
end Go.Proofs.YtjalehlmldlooaaGreatDoor
namespace Go.Proofs.YtjalehlmldlooaaGreatDoor
open Go.RowKit
section
variable {F : Fence} {n : Nat} {P : Program}

theorem wpIn_rangeFunc_itA {α : Type} {g : Operand} {ps : Array Tmp} {assign body : Code} {Q : Exit → Act → World → Prop} {a : Act} {w : World}
    (hro : F.round = none) (h1 : 1 ≤ n) {gf : Nat} {lb : Array Value} (hg : a.eval g = .func (.func gf) #[] lb) (hFg : F.fn gf) (eg : ∀ args w, (callFunc gf args).run P w = .ok (.enter gf args) w)
    {encs : α → Array Value} {xs : List α} {Kp : World → World → Prop} {w0 : World} (hseq : SeqIt F (n - 1) P gf lb encs xs Kp w0)
    (hKt : ∀ {A B C : World}, Kp A B → Kp B C → Kp A C) (hKn : ∀ (W W' : World), W.grownBy W' none → Kp W W') (hKb : ∀ (W : World) (l : Nat) (o o' : Obj), w.heap.size ≤ l → W.heap[l]? = some o → o.isCells = false → Kp W (W.putObj l o')) (hb0 : Below w0.heap.size w0 w) (hps : ∀ x, (encs x).size = ps.size)
    (I : List α → (Nat → Prop) → World → Prop) (Ix : Code → List α → World → Prop) (hI : Bears w.heap.size I) (hIx : ∀ c, OwnFrom w.heap.size (Ix c)) (h0 : I [] (fun _ => False) w) (a₁ : α → Nat → Act) (ob : α → Obj) (Ax : α → World → World) (hAx : ∀ x W, W.grownBy (Ax x W) none ∧ (Ax x W).heap.size = W.heap.size + 1 ∧ (Ax x W).heap[W.heap.size]? = some (ob x))
    (hassign : ∀ (l : Nat) (x : α) (W : World) (K : Act → World → Prop), K (a₁ x W.heap.size) (Ax x W) →
      assign.wpIn (F.inRound l) (n - 1 - 1) P (Exit.then K (fun _ _ _ => False)) { tmps := (ps.zip (encs x)).foldl (fun t (p, v) => t.setIfInBounds p v) a.tmps, defers := [] } W)
    (hbody : ∀ (l : Nat) (pre : List α) (x : α) (O : Nat → Prop) (W : World) (b : Nat), I pre O W → (pre ++ [x]) <+: xs → (∀ r, O r → w.heap.size + 2 ≤ r ∧ r < b) → w.heap.size + 2 ≤ b → b + 1 = W.heap.size → W.heap[b]? = some (ob x) → body.wpIn (F.inRound l) (n - 1 - 1) P (itPost w.heap.size Kp O I Ix (pre ++ [x]) W) (a₁ x b) W)
    (hdone : ∀ (D : Nat) (O : Nat → Prop) (W : World), w.heap.size ≤ D → I xs O W → W.heap[D]? = some (.deferred (some [])) → Q .normal { a with defers := { target := .collected D, args := #[] } :: a.defers } W)
    (hstop : ∀ (D : Nat) (c : Code) (pre : List α) (W : World), w.heap.size ≤ D → pre <+: xs → Ix c pre W → W.heap[D]? = some (.deferred (some [])) → c.wpIn F n P Q { a with defers := { target := .collected D, args := #[] } :: a.defers } W) :
    (Code.rangeFunc g ps assign body).wpIn F n P Q a w := by
  refine wpIn_rangeFunc fun fn hfn => ?_
  rw [hro]
  obtain ⟨B, hB⟩ : ∃ B, w.heap.size = B := ⟨_, rfl⟩
  obtain ⟨rc, hrc⟩ : ∃ rc : LoopState → Option Code → Loop, rc = fun st pe => { state := st, pending := pe, fn, tmps := a.tmps, params := ps, assign, body, defers := B } := ⟨_, rfl⟩
  obtain ⟨W1, hW1⟩ : ∃ W1, (w.alloc (.deferred (some []))).alloc (.loop (rc .ready none)) = W1 := ⟨_, rfl⟩
  have hs1 : W1.heap.size = B + 2 := by rw [← hW1, World.size_alloc, World.size_alloc, hB]
  have hL1 : W1.heap[B + 1]? = some (.loop (rc .ready none)) := by
    have := World.alloc_heap_new (w.alloc (.deferred (some []))) (.loop (rc .ready none))
    rw [World.size_alloc, hB, hW1] at this
    exact this
  have hD1 : W1.heap[B]? = some (.deferred (some [])) := by
    have h2 := Below.heap_alloc (w.alloc (.deferred (some []))) (.loop (rc .ready none)) B (by rw [World.size_alloc]; omega)
    have h3 := World.alloc_heap_new w (.deferred (some []))
    rw [hB] at h3
    rw [← hW1]
    exact h2.trans h3
  have hI1 : I [] (fun _ => False) W1 := by
    rw [← hW1]
    have h2 : I [] (fun _ => False) (w.alloc (.deferred (some []))) := hI.new (O := fun _ => False) _ h0 (fun _ h => .inl h)
    exact hI.new (O := fun _ => False) _ h2 (fun _ h => .inl h)
  have hb1 : Below w0.heap.size w0 W1 := by
    rw [← hW1]
    exact hb0.trans ((((Below.refl _ w).alloc (Nat.le_refl _) _).alloc (by simp) _).mono hb0.size)
  refine ⟨B + 1, [{ target := .collected B, args := #[] }], W1, { target := .fn (.func gf) lb, args := #[.func (.yield (B + 1)) #[] #[]] }, W1, gf, #[.func (.yield (B + 1)) #[] #[]] ++ lb, W1, ?_, ?_, ?_, ?_, fun _ => h1, ?_⟩
  · rw [← hW1, hrc, ← hB]; exact run_enterLoop_outer _ _ _ _ _
  · simp only [resolve, hg]
    simp [go_sem]
  · intro f' hf'
    simp [Target.leads] at hf'
    subst hf'
    exact hFg
  · simp [invoke, go_sem, eg]
  rw [hB] at hI hIx hKb hbody hdone hstop
  -- the record and the block for deferred calls, beside the loop's own invariant
  have other : ∀ {A A' : World} {row : Option Nat}, A.grownBy A' row → (∀ r, row = some r → B + 2 ≤ r) → ∀ k, k < B + 2 → k < A.heap.size → A'.heap[k]? = A.heap[k]? := fun hgr hr k hk hk2 => hgr.block k hk2 (fun e => by have := hr k e.symm; omega)
  refine (hseq (B + 1) (fun pre O A => I pre O A ∧ A.heap[B + 1]? = some (.loop (rc .ready none)) ∧ A.heap[B]? = some (.deferred (some [])) ∧ ∀ r, O r → B + 2 ≤ r ∧ r < A.heap.size)
    (fun pre A => ∃ c, Ix c pre A ∧ A.heap[B + 1]? = some (.loop (rc .done (some c))) ∧ A.heap[B]? = some (.deferred (some []))) W1 hb1 ?_ ?_ ?_ ⟨hI1, hL1, hD1, fun _ h => h.elim⟩).mono ?_
  · rintro pre O O' A A' row ⟨hi, hl, hd, ho⟩ hgr hr hO
    rw [hs1] at hr
    have hsz : B + 1 < A.heap.size := (Array.getElem?_eq_some_iff.1 hl).1
    have hrr : ∀ r, row = some r → B + 2 ≤ r := fun r e => (hr r e).1
    refine ⟨hI pre O O' A A' row hi hgr (fun r e => ⟨by have := hrr r e; omega, (hr r e).2⟩) hO, (other hgr hrr _ (by omega) hsz).trans hl, (other hgr hrr _ (by omega) (by omega)).trans hd, fun r h => ?_⟩
    have hgs := hgr.size
    rcases hO r h with h2 | h2
    · have := ho r h2
      omega
    · omega
  · rintro pre A A' row ⟨c, hi, hl, hd⟩ hgr hr
    rw [hs1] at hr
    have hsz : B + 1 < A.heap.size := (Array.getElem?_eq_some_iff.1 hl).1
    have hrr : ∀ r, row = some r → B + 2 ≤ r := fun r e => (hr r e).1
    exact ⟨c, hIx c pre A A' row hi hgr (fun r e => ⟨by have := hrr r e; omega, (hr r e).2⟩), (other hgr hrr _ (by omega) hsz).trans hl, (other hgr hrr _ (by omega) (by omega)).trans hd⟩
  · rintro pre x O A ⟨hi, hl, hd, ho⟩ hpre
    have hsz : B + 1 < A.heap.size := (Array.getElem?_eq_some_iff.1 hl).1
    have hy := run_yield (P := P) (args := encs x) hl (by rw [hrc]; exact hps x)
    rw [hrc] at hy
    obtain ⟨hgA, hs11, hn1⟩ := hAx x A
    obtain ⟨A1, hA1⟩ : ∃ A1, Ax x A = A1 := ⟨_, rfl⟩
    rw [hA1] at hgA hs11 hn1
    have hold : ∀ k, k < A.heap.size → A1.heap[k]? = A.heap[k]? := fun k hk => hgA.block k hk (fun e => by cases e)
    have hl1 : A1.heap[B + 1]? = some (.loop (rc .ready none)) := (hold _ hsz).trans hl
    have hd1 : A1.heap[B]? = some (.deferred (some [])) := (hold _ (by omega)).trans hd
    have hi1 : I pre O A1 := hI pre O O A A1 none hi hgA (fun _ e => by cases e) (fun _ h => .inl h)
    have hk1 : Kp A A1 := hKn A A1 hgA
    refine ⟨fn, _, assign, body, hy, roundIn_of_wpIn hfn (hassign _ x A _ ?_)⟩
    rw [hA1]
    refine ⟨_, run_beginRound hl1 (by rw [hrc]), ?_⟩
    clear hy
    obtain ⟨A2, hA2⟩ : ∃ A2, A1.putObj (B + 1) (.loop { rc .ready none with state := .busy }) = A2 := ⟨_, rfl⟩
    have hl2 : A2.heap[B + 1]? = some (.loop { rc .ready none with state := .busy }) := by rw [← hA2]; exact World.putObj_heap_same (by omega)
    have hoth1 : ∀ k, k ≠ B + 1 → A2.heap[k]? = A1.heap[k]? := fun k hk => by rw [← hA2]; exact World.putObj_heap_other (by omega)
    have hoth : ∀ k, k ≠ B + 1 → k < A.heap.size → A2.heap[k]? = A.heap[k]? := fun k hk h2 => (hoth1 k hk).trans (hold k h2)
    have hsz2 : A2.heap.size = A.heap.size + 1 := by rw [← hA2]; simp [hs11]
    have hi2 : I pre O A2 := by rw [← hA2]; exact hI.put _ hi1 (by omega) hl1 rfl
    have hk2 : Kp A A2 := hKt hk1 (by rw [← hA2]; exact hKb _ _ _ _ (by omega) hl1 rfl)
    rw [hA2]
    refine wpIn_mono (hbody _ pre x O A2 A.heap.size hi2 hpre ho (by omega) (by omega) ((hoth1 _ (by omega)).trans hn1)) ?_
    -- behind the body: the record is turned once more
    have fin : ∀ (jump : Option Code) (W3 : World), KeepsFrom B A2 W3 → ∃ W4, W4 = W3.putObj (B + 1) (.loop (rc (if jump.isNone then .ready else .done) jump)) ∧ (Instr.endRound (B + 1) jump).run P W3 = .ok (.bool jump.isNone) W4 ∧ (∃ o : Obj, W3.heap[B + 1]? = some o ∧ o.isCells = false) ∧
        W4.heap[B + 1]? = some (.loop (rc (if jump.isNone then .ready else .done) jump)) ∧ W4.heap[B]? = some (.deferred (some [])) ∧ KeepsFrom (B + 2) A W4 ∧ ∀ k, k ≠ B + 1 → W4.heap[k]? = W3.heap[k]? := fun jump W3 hk3 => by
      have hl3 := hk3.same _ _ (by omega) hl2 rfl
      have hr := run_endRound (P := P) jump hl3
      have ho4 : ∀ k, k ≠ B + 1 → (W3.putObj (B + 1) (.loop (rc (if jump.isNone then .ready else .done) jump))).heap[k]? = W3.heap[k]? := fun k hk => World.putObj_heap_other (by omega)
      refine ⟨_, rfl, ?_, ⟨_, hl3, rfl⟩, World.putObj_heap_same (Array.getElem?_eq_some_iff.1 hl3).1, ?_, ⟨?_, ?_⟩, ho4⟩
      · rw [hrc] at hr ⊢
        exact hr
      · rw [ho4 B (by omega)]
        exact hk3.same _ _ (Nat.le_refl _) ((hoth B (by omega) (by omega)).trans hd) rfl
      · simp only [World.putObj_size]
        have := hk3.size
        omega
      · intro k o hk hko hoc
        rw [ho4 k (by omega)]
        exact hk3.same _ _ (by omega) ((hoth k (by omega) (Array.getElem?_eq_some_iff.1 hko).1).trans hko) hoc
    rintro e a3 W3 hp
    cases e with
    | normal =>
      obtain ⟨hk3, hs3, hkp3, hi3⟩ := hp
      obtain ⟨W4, rfl, hr, ⟨o3, hl3, hc3⟩, hl4, hd4, hkf, ho4⟩ := fin none W3 hk3
      refine ⟨_, _, hr, by rw [hs1]; exact hkf, .inl ⟨rfl, ⟨hI.put _ hi3 (by omega) hl3 hc3, hl4, hd4, fun r h => ⟨(ho r h).1, Nat.lt_of_lt_of_le (ho r h).2 hkf.size⟩⟩, hKt (hKt hk2 hkp3) (hKb _ _ _ _ (by omega) hl3 hc3), fun r hr' => ?_⟩⟩
      have h2 := (ho r hr').1
      rw [ho4 r (by omega), hs3 r hr', hoth r (by omega) (ho r hr').2]
    | ret =>
      obtain ⟨hk3, hi3⟩ := hp
      obtain ⟨W4, rfl, hr, ⟨o3, hl3, hc3⟩, hl4, hd4, hkf, _⟩ := fin (some .ret) W3 hk3
      exact ⟨_, _, hr, by rw [hs1]; exact hkf, .inr ⟨rfl, .ret, (hIx _).putObj _ hi3 (by omega) hl3 hc3, hl4, hd4⟩⟩
    | exit id =>
      obtain ⟨hk3, hi3⟩ := hp
      obtain ⟨W4, rfl, hr, ⟨o3, hl3, hc3⟩, hl4, hd4, hkf, _⟩ := fin (some (.exit id)) W3 hk3
      exact ⟨_, _, hr, by rw [hs1]; exact hkf, .inr ⟨rfl, .exit id, (hIx _).putObj _ hi3 (by omega) hl3 hc3, hl4, hd4⟩⟩
    | goto t =>
      obtain ⟨hk3, hi3⟩ := hp
      obtain ⟨W4, rfl, hr, ⟨o3, hl3, hc3⟩, hl4, hd4, hkf, _⟩ := fin (some (.goto t)) W3 hk3
      exact ⟨_, _, hr, by rw [hs1]; exact hkf, .inr ⟨rfl, .goto t, (hIx _).putObj _ hi3 (by omega) hl3 hc3, hl4, hd4⟩⟩
    | panic ch => exact hp.elim
    | outgrown => exact hp.elim
  · rintro e W2 ⟨⟨v, rfl⟩, (⟨O, hi, hl, hd, _⟩ | ⟨pre, hpre, c, hi, hl, hd⟩)⟩
    · have he := run_endLoop (P := P) hl (by rw [hrc]; simp)
      have hp : (rc .ready none).pending = none := by rw [hrc]
      rw [hp] at he
      exact ⟨none, _, he, hdone B O _ (Nat.le_refl _) (hI.put _ hi (by omega) hl rfl) ((World.putObj_heap_other (by omega)).trans hd)⟩
    · have he := run_endLoop (P := P) hl (by rw [hrc]; simp)
      have hp : (rc .done (some c)).pending = some c := by rw [hrc]
      rw [hp] at he
      exact ⟨some c, _, he, hstop B c pre _ (Nat.le_refl _) hpre ((hIx c).putObj _ hi (by omega) hl rfl) ((World.putObj_heap_other (by omega)).trans hd)⟩
end
end Go.Proofs.YtjalehlmldlooaaGreatDoor
namespace Go.Proofs.YtjalehlmldlooaaGreatDoor
open Go.RowKit Go.Shelf
set_option maxRecDepth 100000
attribute [local go_sem] Oper.semAt_some

theorem treeAll_in {F : Fence} (hF : F = Fence.wide) (n : Nat) (v : Option Addr) (w : World) :
    CallsIn F n Tryz.prog 58 #[.pointer v] w fun e w' => e = .returned (.func (.func 77) #[] #[.pointer (some ⟨w.heap.size, 0, none⟩)]) ∧ w' = w.alloc (.cells #[.pointer v] 56) := by
  have k4 : F.fn 58 := fn_wide hF _
  have hro := round_wide hF
  clear hF
  refine callsIn_of_wp Tryz.func58 rfl k4 ?_ hro
  simp only [Tryz.ntmps58, List.size_toArray, List.length_cons, List.length_nil, Nat.reduceAdd, Nat.reduceSub, Array.replicate_succ, Array.replicate_zero, List.push_toArray, List.append_toArray, List.nil_append, List.cons_append]
  gi_wp2
  go_ret
  exact ⟨rfl, rfl⟩
theorem enumF_snd : ∀ (k : Nat) (l : List El), (enumF k l).map Prod.snd = l
  | _, [] => rfl
  | k, e :: l => by simp [enumF, enumF_snd (k + 1) l]
theorem prefix_snd {a : List (Nat × El)} {l : List El} (h : a <+: enumF 0 l) : a.map Prod.snd <+: l := by
  obtain ⟨r, hr⟩ := h
  exact ⟨r.map Prod.snd, by rw [← List.map_append, hr, enumF_snd]⟩
/-- What stands between two rounds of the loop over the tree's elements. -/
structure MAll (S : Nat → Prop) (w0 : World) (J : List El → (Nat → Prop) → World → Prop) (l b0 : Nat) (es : List El) (Oin : Nat → Prop) (A : World) : Prop where
  own : ∃ O : Nat → Prop, (∀ r, Oin r → O r) ∧ O b0 ∧ J es O A
  yl : Boxed A b0 112 (.func (.yield l) #[] #[])
  kc : KC S w0 A
def zeroE : Array Value := #[.int .i64 0, .int .i64 0, .int .i64 0, .int .i32 0, .int .i64 0]

set_option maxHeartbeats 8000000 in
theorem mall_it {F : Fence} (hF : F = Fence.wide) (n : Nat) (hn : 2 ≤ n) (Bm mb tb : Nat) {R : Rows} {S : Nat → Prop} (t : Option Nd) (w0 w : World) (hb00 : Below w0.heap.size w0 w) (hBm : Bm < w.heap.size) (hmb : mb < w.heap.size) (htb : tb < w.heap.size)
    (hc : w.cell? ⟨Bm, 0, none⟩ = some (.pointer (some ⟨mb, 0, none⟩))) (hm : w.cell? ⟨mb, 0, none⟩ = some (.pointer (some ⟨tb, 0, none⟩))) (hr : w.cell? ⟨tb, 1, none⟩ = some (pvO t)) (hA : ∀ t', t = some t' → t'.At R w0) (hS : Sok S R w0) (hlen : (elsO t).length ≤ 1048576) :
    SeqIt F n Tryz.prog 57 #[.pointer (some ⟨Bm, 0, none⟩)] (fun e : El => #[.agg (ev e)]) (elsO t) (fun A A' => KC S w0 A → KC S w0 A') w := by
  intro l J Jx W hW hJ hJx hY h0
  have hdd : ∀ k : Nat, (F.depth.isSome = true → 1 ≤ k) := fun k h => by rw [depth_wide hF] at h; cases h
  have k1 : F.fn 57 := fn_wide hF _
  have k2 : F.fn 58 := fn_wide hF _
  have k3 : F.fn 77 := fn_wide hF _
  have hro := round_wide hF
  obtain ⟨X, hX⟩ : ∃ X, ((W.alloc (.cells #[.func (.yield l) #[] #[]] 112)).alloc (.cells #[.pointer (some ⟨tb, 0, none⟩)] 56)) = X := ⟨_, rfl⟩
  have x0 := Boxed.new W 112 (.func (.yield l) #[] #[])
  have x1 := Boxed.new (W.alloc (.cells #[.func (.yield l) #[] #[]] 112)) 56 (.pointer (some ⟨tb, 0, none⟩))
  rw [World.size_alloc] at x1
  have hsz : X.heap.size = W.heap.size + 2 := by rw [← hX]; simp
  have y0 : Boxed X W.heap.size 112 (.func (.yield l) #[] #[]) := by rw [← hX]; exact x0.alloc _
  have y1 : X.cell? ⟨W.heap.size + 1, 0, none⟩ = some (.pointer (some ⟨tb, 0, none⟩)) := by
    have := x1.cell
    rw [hX] at this
    exact this
  have hBX : Below W.heap.size W X := by
    rw [← hX]
    exact ((Below.refl _ W).alloc (Nat.le_refl _) _).alloc (by simp) _
  have hgX : W.grownBy X none := ⟨hBX.os, hBX.tape, hBX.output, hBX.size, fun k hk _ => hBX.block k hk⟩
  have hWX' : Below w.heap.size w X := hW.trans (hBX.mono hW.size)
  have hWX : Below w0.heap.size w0 X := hb00.trans (hWX'.mono hb00.size)
  have hw00 := hb00.size
  have hwW := hW.size
  have hrX : X.cell? ⟨tb, 1, none⟩ = some (pvO t) := (hWX'.cell (p := ⟨tb, 1, none⟩) htb).trans hr
  have HS := hid_of' (all_it hF (n - 1) (by omega) (W.heap.size + 1) tb t w0 X hWX (by omega) (by omega) y1 hrX hA hS hlen)
  have HL := hid_of' (fun w' => treeAll_in hF (n - 1) (some ⟨tb, 0, none⟩) w')
  have HF := hid_of' hF
  have h2 : Below W.heap.size W (W.alloc (.cells #[.func (.yield l) #[] #[]] 112)) := (Below.refl _ W).alloc (Nat.le_refl _) _
  have e0 : (W.alloc (.cells #[.func (.yield l) #[] #[]] 112)).cell? ⟨Bm, 0, none⟩ = some (.pointer (some ⟨mb, 0, none⟩)) :=
    (h2.cell (p := ⟨Bm, 0, none⟩) (by show Bm < W.heap.size; omega)).trans ((hW.cell (p := ⟨Bm, 0, none⟩) hBm).trans hc)
  have e1 : (W.alloc (.cells #[.func (.yield l) #[] #[]] 112)).cell? ⟨mb, 0, none⟩ = some (.pointer (some ⟨tb, 0, none⟩)) :=
    (h2.cell (p := ⟨mb, 0, none⟩) (by show mb < W.heap.size; omega)).trans ((hW.cell (p := ⟨mb, 0, none⟩) hmb).trans hm)
  clear hF hWX' h2
  refine callsIn_of_wp_marks Tryz.func57 rfl k1 ?_ hro
  simp only [Tryz.ntmps57, List.size_toArray, List.length_cons, List.length_nil, Nat.reduceAdd, Nat.reduceSub, Array.replicate_succ, Array.replicate_zero, List.push_toArray, List.append_toArray, List.nil_append, List.cons_append]
  gi_wp2_with ((try refine ⟨hdd _, ?_⟩); gi_at_call 58; refine (HL.out _).mono ?_; clear HL; rintro e w' ⟨rfl, rfl⟩)
  have kcX : KC S w0 X := KC.of_below hWX
  refine wpIn_rangeFunc_itA hro (by omega) (gf := 77) (lb := #[.pointer (some ⟨W.heap.size + 1, 0, none⟩)]) rfl k3 (enters_of Tryz.func77 (by kernel_rfl) rfl)
    HS.out (fun h k g => k (h g)) (fun A A' hg g => g.grown hg (fun _ e => by cases e)) (fun A l' o o' _ hl hcc g => g.grown (grownBy_putObj' A l' o') (fun r e => by cases e; exact .inr (.inr ⟨o, hl, hcc⟩))) (Below.refl _ _) (fun _ => rfl)
    (fun pre Oin A => MAll S w0 J l W.heap.size (pre.map Prod.snd) Oin A) (fun c _ A => c = .ret ∧ ∃ q, q <+: elsO t ∧ Jx q A) ?bears ?hIx ?h0
    (fun x b => { tmps := #[.func (.yield l) #[] #[], .pointer (some ⟨Bm, 0, none⟩), .pointer (some ⟨W.heap.size, 0, none⟩), undef, .pointer (some ⟨b, 0, none⟩), .pointer (some ⟨mb, 0, none⟩), .pointer (some ⟨mb, 0, none⟩), .pointer (some ⟨mb, 0, none⟩), .pointer (some ⟨tb, 0, none⟩), .func (.func 77) #[] #[.pointer (some ⟨W.heap.size + 1, 0, none⟩)], .int .i64 (x.1 : Int), .agg (ev x.2), undef, undef, undef, undef], defers := [] }) (fun x => .cells (ev x.2) 49)
    (fun x A => (A.alloc (.cells #[.int .i64 0, .int .i64 0, .int .i64 0, .int .i32 0, .int .i64 0] 49)).setRow A.heap.size (ev x.2)) ?ax ?assign ?body ?done ?stop
  case bears =>
    rintro pre O O' A A' row ⟨⟨Oj, h1, h2, h4⟩, yl, kc⟩ hg hr hO
    rw [hsz] at hr
    refine ⟨⟨fun r => Oj r ∨ (A.heap.size ≤ r ∧ r < A'.heap.size), fun r hr' => (hO r hr').elim (fun h => .inl (h1 r h)) .inr, .inl h2, ?_⟩, yl.kept hg (fun e => ?_), kc.grown hg (fun r e => ?_)⟩
    · refine hJ _ Oj _ A A' row h4 hg (fun r e => ⟨?_, (hr r e).2.elim (fun h => .inl (h1 r h)) .inr⟩) (fun r h => h)
      have := (hr r e).1
      omega
    · have := (hr W.heap.size e.symm).1
      omega
    · have := (hr r e).1
      exact .inl (by omega)
  case hIx =>
    rintro c pre A A' row ⟨h1, q, hq, hj⟩ hg hr
    rw [hsz] at hr
    exact ⟨h1, q, hq, hJx q A A' row hj hg (fun r e => ⟨by have := (hr r e).1; omega, (hr r e).2⟩)⟩
  case h0 =>
    refine ⟨⟨fun r => r = W.heap.size, fun _ h => h.elim, rfl, ?_⟩, y0, kcX⟩
    exact hJ [] (fun _ => False) _ W X none h0 hgX (fun _ e => by cases e) (fun r hr => .inr (by rw [hr]; omega))
  case ax =>
    intro x A
    exact ⟨grown_alloc_row, by simp, (row_new A #[.int .i64 0, .int .i64 0, .int .i64 0, .int .i32 0, .int .i64 0] 49).put (ev x.2)⟩
  case assign =>
    intro l' x W' K hK
    simp only [encE]
    gi_wp2_with (refine wpLIn_storeE (e := x.2) rfl _ _ rfl rfl rfl (row_new W' _ _) ?_)
    exact hK
  case body =>
    rintro l' pre x Oin A b ⟨⟨O, o1, o2, o4⟩, yl, kc⟩ hpre hOin hb1 hb2 hbx
    have hp2 : (pre.map Prod.snd ++ [x.2]) <+: elsO t := by
      have := prefix_snd hpre
      rwa [List.map_append] at this
    have rE : RowAt b (ev x.2) 49 A := hbx
    obtain ⟨fn, tmps, assign, body, hy, hR⟩ := yield_any HF.out (n - 1 - 1 - 1) (hY (pre.map Prod.snd) x.2 O A o4 hp2)
    have HR := hid_of' (RoundIn.inRound l' (hR.mono (R' := fun e2 W2 => (e2 = .returned (.bool true) ∧ J (pre.map Prod.snd ++ [x.2]) O W2 ∧ KC S w0 W2 ∧ KeepsSet O A W2 ∧ KeepsFrom W.heap.size A W2) ∨
        (e2 = .returned (.bool false) ∧ Jx (pre.map Prod.snd ++ [x.2]) W2 ∧ KeepsFrom W.heap.size A W2)) (fun e2 W2 ⟨g1, g2⟩ => g2.elim
      (fun ⟨a1, a2, a3, a4⟩ => .inl ⟨a1, a2, a3 kc, a4, g1⟩) (fun ⟨a1, a2⟩ => .inr ⟨a1, a2, g1⟩))))
    have c0 := yl.cell
    have HP := hid_of' hp2
    clear hR hp2 hY HS hX x0 x1
    gi_wp2_with (first | (refine wpLIn_loadE rfl _ rfl rfl rE.in ?_) | ((try refine ⟨hdd _, ?_⟩); refine HR.out.mono ?_; clear HR; rintro e2 W2 (⟨rfl, hj2, kc2, hks2, hkf2⟩ | ⟨rfl, hx2, hkf2⟩)))
    · refine ⟨⟨hkf2.size, fun q o hq => hkf2.same q o (by omega)⟩, fun r hr => hks2 r (o1 r hr), fun _ => kc2, ⟨⟨O, o1, o2, ?_⟩, (hks2 _ o2).trans yl, kc2⟩⟩
      rw [List.map_append]
      exact hj2
    · exact ⟨⟨hkf2.size, fun q o hq => hkf2.same q o (by omega)⟩, rfl, _, HP.out, hx2⟩
  case done =>
    rintro D O W2 hD ⟨⟨Oj, _, _, h4⟩, _, _⟩ hK
    rw [hsz] at hD
    rw [enumF_snd] at h4
    gi_wp2
    refine ⟨by simp, .inl ⟨_, _, rfl, run_takeDeferred hK, ?_⟩⟩
    exact ⟨_, results_none rfl _ _ _, ⟨_, rfl⟩, .inl ⟨Oj, hJ.put _ h4 (by omega) hK rfl⟩⟩
  case stop =>
    rintro D c pre W2 hD hpre ⟨rfl, q, hq, hj⟩ hK
    rw [hsz] at hD
    gi_wp2
    refine ⟨by simp, .inl ⟨_, _, rfl, run_takeDeferred hK, ?_⟩⟩
    exact ⟨_, results_none rfl _ _ _, ⟨_, rfl⟩, .inr ⟨q, hq, hJx.putObj _ hj (by omega) hK rfl⟩⟩
end Go.Proofs.YtjalehlmldlooaaGreatDoor
namespace Go.Proofs.YtjalehlmldlooaaGreatDoor
open Go.RowKit Go.Shelf
set_option maxRecDepth 100000
attribute [local go_sem] Oper.semAt_some

theorem infoEl : (Tryz.prog.info? 49).map (fun i => (i.zero, i.size, i.bytes)) = some (some (.agg #[.int .i64 0, .int .i64 0, .int .i64 0, .int .i32 0, .int .i64 0]), 5, 40) := by kernel_rfl
theorem modelAll_in {F : Fence} (hF : F = Fence.wide) (n : Nat) (v : Option Addr) (w : World) :
    CallsIn F n Tryz.prog 35 #[.pointer v] w fun e w' => e = .returned (.func (.func 57) #[] #[.pointer (some ⟨w.heap.size, 0, none⟩)]) ∧ w' = w.alloc (.cells #[.pointer v] 26) := by
  have k4 : F.fn 35 := fn_wide hF _
  have hro := round_wide hF
  clear hF
  refine callsIn_of_wp Tryz.func35 rfl k4 ?_ hro
  simp only [Tryz.ntmps35, List.size_toArray, List.length_cons, List.length_nil, Nat.reduceAdd, Nat.reduceSub, Array.replicate_succ, Array.replicate_zero, List.push_toArray, List.append_toArray, List.nil_append, List.cons_append]
  gi_wp2
  go_ret
  exact ⟨rfl, rfl⟩
theorem lenMv_ok {mb : Nat} {l : List El} {w : World} (h : MvAt mb l w) : Calls Tryz.prog 28 #[pv mb] w fun r w' => r = .returned (.int .i64 (l.length : Int)) ∧ w' = w := by
  obtain ⟨tb, v, R, hr, ht⟩ := h
  have HL := hid_of' (len_L ht)
  have c0 : w.cell? ⟨mb, 0, none⟩ = some (.pointer (some ⟨tb, 0, none⟩)) := hr.cell 0
  unfold pv at HL ⊢
  go_enter Tryz.func28, Tryz.ntmps28
  go_wp2_with (go_at_call 42; refine HL.out.mono ?_; rintro r w1 ⟨rfl, hw⟩; obtain rfl := hw.symm)
  go_ret
  exact ⟨rfl, rfl⟩
/-- A tree's root. -/
theorem TrL.root {R : Rows} {b ch : Nat} {l : List El} {w : World} (h : TrL R b ch l w) : ∃ t : Option Nd, w.cell? ⟨b, 1, none⟩ = some (pvO t) ∧ b < w.heap.size ∧ (∀ t', t = some t' → t'.At R w) ∧ elsO t = l := by
  obtain ⟨ls, v, hr, hO, hfl, _⟩ := h
  rcases hO with ⟨rfl, rfl⟩ | ⟨t, rfl, h1, h2, rfl⟩
  · exact ⟨none, hr.cell 1, hr.lt, fun _ e => (by cases e), hfl⟩
  · exact ⟨some t, hr.cell 1, hr.lt, fun _ e => (by cases e; exact h1), by rw [← hfl]; exact Nd.els_flat ..⟩

theorem ev_cells (A : World) (x : El) : ∀ (j : Nat) (u : Value), (ev x).toList[j]? = some u → (A.alloc (.cells (ev x) 49)).cell? ((⟨A.heap.size, 0, none⟩ : Addr).add j) = some u := fun j u h => by
  have h1 := (row_new A (ev x) 49).cell j
  rw [show (⟨A.heap.size, 0, none⟩ : Addr).add j = ⟨A.heap.size, j, none⟩ from by simp [Addr.add]; omega, h1]
  simpa using h
set_option maxHeartbeats 2000000 in
theorem elements_ok {mb : Nat} {l : List El} {w : World} (h : MvAt mb l w) (hl : l.length ≤ 1048576) :
    Calls Tryz.prog 10 #[pv mb] w fun r w' => ∃ v, r = .returned v ∧ OwnE w.heap.size v l w' ∧ Below w.heap.size w w' := by
  have HLn := lenMv_ok h
  obtain ⟨tb, v0, R, hr, ht⟩ := h
  obtain ⟨t, hroot, htb, hA, hels⟩ := ht.root
  have hmb := hr.lt
  have hm0 : w.cell? ⟨mb, 0, none⟩ = some (.pointer (some ⟨tb, 0, none⟩)) := hr.cell 0
  refine calls_out (n := 9) fun F hF => ?_
  have hdd : ∀ k : Nat, (F.depth.isSome = true → 1 ≤ k) := fun k h => by rw [depth_wide hF] at h; cases h
  have k1 : F.fn 10 := fn_wide hF _
  have k2 : F.fn 35 := fn_wide hF _
  have k3 : F.fn 57 := fn_wide hF _
  have k4 : F.fn 28 := fn_wide hF _
  have hro := round_wide hF
  obtain ⟨i0, hi, hz0, hz1, hz2⟩ := info_parts infoEl
  have HL := hid_of' (calls_in (n := 8) hF HLn)
  have HAl := hid_of' (fun w' => modelAll_in hF 8 (some ⟨mb, 0, none⟩) w')
  have HS := hid_of' (fun (Bm : Nat) (X : World) (hX : Below w.heap.size w X) (hBm : Bm < X.heap.size) (hc : X.cell? ⟨Bm, 0, none⟩ = some (.pointer (some ⟨mb, 0, none⟩))) =>
    mall_it hF 8 (by omega) Bm mb tb (R := R) (S := fun _ => False) t w X hX hBm (Nat.lt_of_lt_of_le hmb hX.size) (Nat.lt_of_lt_of_le htb hX.size) hc ((hX.cell (p := ⟨mb, 0, none⟩) hmb).trans hm0) ((hX.cell (p := ⟨tb, 1, none⟩) htb).trans hroot) hA (fun _ h => h.elim) (by rw [hels]; exact hl))
  unfold pv at HL ⊢
  clear hF HLn hr ht hm0 hroot
  refine callsIn_of_wp_marks Tryz.func10 rfl k1 ?_ hro
  simp only [Tryz.ntmps10, List.size_toArray, List.length_cons, List.length_nil, Nat.reduceAdd, Nat.reduceSub, Array.replicate_succ, Array.replicate_zero, List.push_toArray, List.append_toArray, List.nil_append, List.cons_append]
  gi_wp2_with (first
    | ((try refine ⟨hdd _, ?_⟩); gi_at_call 28; refine HL.out.mono ?_; clear HL; rintro e w' ⟨rfl, hw⟩; obtain rfl := hw.symm)
    | (refine wpListIn_make_own w rfl _ _ 22 rfl w.heap.size 49 i0 _ 5 Tryz.underlying22 hi hz0 hz1 .i64 .i64 (l.length : Int) l.length rfl rfl rfl (by rw [hz2]; omega) (by have hmx : maxLen = 9223372036854775807 := rfl; omega) (Nat.le_refl _) ?_; intro w1 hown1 hgr1)
    | ((try refine ⟨hdd _, ?_⟩); gi_at_call 35; refine (HAl.out _).mono ?_; clear HAl; rintro e w' ⟨rfl, rfl⟩))
  have hb1 : Below w.heap.size w w1 := ⟨hgr1.os, hgr1.tape, hgr1.output, hgr1.size, fun k hk => hgr1.block k hk (fun e => by cases e)⟩
  have hab : w.heap.size < w1.heap.size := (hown1.lt w.heap.size rfl).2
  have x0 := (Boxed.new w1 22 (.slice (some ⟨w.heap.size, 0, none⟩) 0 l.length)).alloc (.cells #[.pointer (some ⟨mb, 0, none⟩)] 26)
  have x1 := Boxed.new (w1.alloc (.cells #[(.slice (some ⟨w.heap.size, 0, none⟩) 0 l.length)] 22)) 26 (.pointer (some ⟨mb, 0, none⟩))
  rw [World.size_alloc] at x1
  have ho0 := (hown1.alloc (.cells #[(.slice (some ⟨w.heap.size, 0, none⟩) 0 l.length)] 22)).alloc (.cells #[.pointer (some ⟨mb, 0, none⟩)] 26)
  have hBX := bgo hb1 (below_two w1 (.cells #[(.slice (some ⟨w.heap.size, 0, none⟩) 0 l.length)] 22) (.cells #[.pointer (some ⟨mb, 0, none⟩)] 26))
  have hsz : ((w1.alloc (.cells #[(.slice (some ⟨w.heap.size, 0, none⟩) 0 l.length)] 22)).alloc (.cells #[.pointer (some ⟨mb, 0, none⟩)] 26)).heap.size = w1.heap.size + 2 := by simp
  generalize (w1.alloc (.cells #[(.slice (some ⟨w.heap.size, 0, none⟩) 0 l.length)] 22)).alloc (.cells #[.pointer (some ⟨mb, 0, none⟩)] 26) = X at x0 x1 ho0 hBX hsz ⊢
  clear hown1 hgr1
  refine wpIn_rangeFunc_itA hro (by omega) (gf := 57) (lb := #[.pointer (some ⟨w1.heap.size + 1, 0, none⟩)]) rfl k3 (enters_of Tryz.func57 (by kernel_rfl) rfl)
    (HS.out (w1.heap.size + 1) X hBX (by omega) x1.cell) (fun h k g => k (h g)) (fun A A' hg g => g.grown hg (fun _ e => by cases e)) (fun A l' o o' _ hl hcc g => g.grown (grownBy_putObj' A l' o') (fun r e => by cases e; exact .inr (.inr ⟨o, hl, hcc⟩))) (Below.refl _ _) (fun _ => rfl)
    (fun pre _ A => Boxed A w1.heap.size 22 (.slice (some ⟨w.heap.size, 0, none⟩) pre.length l.length) ∧ A.ownsRow w.heap.size 49 5 (.slice (some ⟨w.heap.size, 0, none⟩) pre.length l.length) pre.length (ecells pre) ∧ Below w.heap.size w A) (fun _ _ _ => False) ?bears ?hIx ?h0
    (fun x b => { tmps := #[.pointer (some ⟨mb, 0, none⟩), undef, .slice none 0 0, .pointer (some ⟨w1.heap.size, 0, none⟩), .pointer (some ⟨b, 0, none⟩), .pointer (some ⟨mb, 0, none⟩), .int .i64 (l.length : Int), (.slice (some ⟨w.heap.size, 0, none⟩) 0 l.length), .pointer (some ⟨mb, 0, none⟩), .func (.func 57) #[] #[.pointer (some ⟨w1.heap.size + 1, 0, none⟩)], .agg (ev x), undef, undef, undef, undef, undef], defers := [] }) (fun x => .cells (ev x) 49)
    (fun x A => (A.alloc (.cells #[.int .i64 0, .int .i64 0, .int .i64 0, .int .i32 0, .int .i64 0] 49)).setRow A.heap.size (ev x)) ?ax ?assign ?body ?done ?stop
  case bears =>
    rintro pre O O' A A' row ⟨hb, ho, hB⟩ hg hr hO
    rw [hsz] at hr
    refine ⟨hb.kept hg (fun e => ?_), ho.kept hg (.inr fun e => ?_), hB.grown hg hB.size (fun j e => ?_)⟩
    · have := (hr _ e.symm).1
      omega
    · have h2 : row = some w.heap.size := by simpa [Value.ownBlock] using e.symm
      have := (hr _ h2).1
      omega
    · have := (hr _ e).1
      omega
  case hIx =>
    intro c pre A A' row h
    exact h.elim
  case h0 => exact ⟨x0, ho0, hBX⟩
  case ax =>
    intro x A
    exact ⟨grown_alloc_row, by simp, (row_new A #[.int .i64 0, .int .i64 0, .int .i64 0, .int .i32 0, .int .i64 0] 49).put (ev x)⟩
  case assign =>
    intro l' x W' K hK
    gi_wp2_with (refine wpLIn_storeE (e := x) rfl _ _ rfl rfl rfl (row_new W' _ _) ?_)
    exact hK
  case body =>
    rintro l' pre x O A b ⟨hbx, how, hB⟩ hpre hO hb2 hb3 hbb
    have hlt : pre.length < l.length := by
      have := hpre.length_le
      rw [hels, List.length_append, List.length_singleton] at this
      exact this
    have rE : RowAt b (ev x) 49 A := hbb
    have c0 := hbx.cell
    gi_wp2_with (first | (refine wpLIn_loadE rfl _ rfl rfl rE.in ?_; unfold ev) | (gi_at_builtin; refine wpListIn_append_fits _ rfl _ _ 22 rfl w.heap.size 49 i0 5 Tryz.underlying22 hi hz1 w.heap.size pre.length l.length (ecells pre) rfl (how.alloc _) ⟨A.heap.size, 0, none⟩ 1 1 (ev x).toList rfl rfl (ev_cells A x) (by simp [ev, Value.oneCell']) (by omega) ?_; intro w2 hown2 hgr2; have hbx2 := (hbx.alloc _).kept hgr2 (by simp; omega); have d0 := hbx2.cell; have f0 := hbx2.frozen))
    have hlen : (pre ++ [x]).length = pre.length + 1 := by simp
    have hB2 := ((hB.alloc hB.size (.cells (ev x) 49)).grown hgr2 (by rw [World.size_alloc]; have := hB.size; omega) (fun j e => by cases e; exact Nat.le_refl _)).setCell (p := ⟨w1.heap.size, 0, none⟩) (by show _ ≤ w1.heap.size; omega) (.slice (some ⟨w.heap.size, 0, none⟩) (pre.length + 1) l.length)
    refine ⟨?_, fun r hr => ?_, fun _ => KC.of_below hB2, ?_, ?_, hB2⟩
    · refine (KeepsFrom.of_grownBy (World.grownBy_alloc A _ none) (fun _ h => by cases h)).trans ((KeepsFrom.of_grownBy hgr2 (fun r e => ?_)).trans ((KeepsOthers.setCell _ _ _).from _))
      cases e
      rw [hsz]
      omega
    · have h1 := hO r hr
      rw [hsz] at h1
      rw [Below.heap_setCell _ _ _ _ (by show r ≠ w1.heap.size; omega), hgr2.block r (by rw [World.size_alloc]; omega) (by simp; omega), Below.heap_alloc A _ r (by omega)]
    · rw [hlen]; exact hbx2.set _
    · rw [hlen, ecells_app]
      exact hown2.kept (grownBy_setCell' w2 _ _) (.inr (by simp [Value.ownBlock]; omega))
  case done =>
    rintro D O W2 hD ⟨hb, ho, hB⟩ hK
    rw [hels] at ho
    have c0 := hb.cell
    gi_wp2
    refine ⟨by simp, .inl ⟨_, _, rfl, run_takeDeferred hK, ?_⟩⟩
    exact ⟨_, results_tmp rfl _ _ _, .slice (some ⟨w.heap.size, 0, none⟩) l.length l.length, rfl, ownsRow_putObj ho _ hK rfl, (hB.grown (grownBy_putObj' W2 D _) hB.size (fun j e => by cases e; omega))⟩
  case stop =>
    rintro D c pre W _ _ h _
    exact h.elim
end Go.Proofs.YtjalehlmldlooaaGreatDoor
