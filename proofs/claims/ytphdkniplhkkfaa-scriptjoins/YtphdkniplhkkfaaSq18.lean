
/-
  barrowlaw18.ScriptJoins holds of any two rows of steps.
-/
import Derived.Test.YtphdkniplhkkfaaSq17
import Derived.Test.YtphdkniplhkkfaaScLn
namespace Go.Proofs.Ytphdkniplhkkfaa
open Go.RowKit Go.Extern.Stop Go.Stop Go.Extern
set_option maxRecDepth 100000

theorem wpL_app0T {ops : Array Oper} {rest : List Oper} {o : Oper} {A : Act} {w : World} {Q : Exit → Act → World → Prop} (hgd : o.guard = none) (s x : Operand) (ho : o.op = .call { callee := .builtin .append, args := #[s, x], argTypes := #[24, 24] })
    {u : Value} {ge : Nat} {m : List Stp} (hs : A.eval s = .slice (some ⟨ge, 0, none⟩) 0 0) (hx : A.eval x = u) (he : RowAt ge #[] 29 w) (hu : So 5 u m.length (fc stc m) w) (hm : m.length ≤ 100000)
    (k : ∀ v' w', RwT v' m w' → Below w.heap.size w w' → (∀ k, v'.ownBlock = some k → k = ge ∨ w.heap.size ≤ k) → wpList Try.prog ops Q rest (A.put o.dst v') w') : wpList Try.prog ops Q (o :: rest) A w := by
  obtain ⟨i0, hi, h1, h2, h3⟩ := info_parts info_t
  exact wpL_app0 (P := Try.prog) hgd s x 24 ho 29 i0 _ 5 48 Try.underlying24 hi h1 h2 h3 rfl hs hx he hu (stc_one _) (by unfold maxLen; omega) (by omega) k
theorem cat_is (x y : List UInt8) : (⟨x.toArray⟩ : ByteArray) ++ ⟨y.toArray⟩ = ⟨(x ++ y).toArray⟩ := by
  refine by_ext ?_
  simp
set_option maxHeartbeats 8000000 in
theorem scriptJoins_all {w : World} {v0 v1 : Value} {l0 l1 : List Stp} (h0 : SlT w v0 l0) (hz0 : ∀ e ∈ l0, e.t.size ≤ maxLen) (h1 : SlT w v1 l1) (hz1 : ∀ e ∈ l1, e.t.size ≤ maxLen) :
    Calls Try.prog 5 #[v0, v1] w fun e w' => e = .returned (.bool true) ∧ Below w.heap.size w w' := by
  have HC0 := hid_of' (cut_ok h0 hz0)
  have HA := hid_of' (And.intro (cutL_len l0) (cutL_small l0))
  have HD := hid_of' (And.intro (cutL_len l1) (cutL_small l1))
  have HC1 := hid_of' (fun (x : World) (hb : Below w.heap.size w x) => cut_ok (h1.later hb) hz1)
  generalize cutL l0 = A at HC0 HA
  generalize cutL l1 = B at HC1 HD
  have HK := hid_of' (fun x => wakes_is x)
  clear h0 hz0 h1 hz1
  go_enter Try.func5, Try.ntmps5
  go_upto_region 2 with (first
    | (go_at_call 14; with_reducible refine HC0.out.mono ?_; rintro e w1 ⟨ua, rfl, ra, oa, b1⟩; have HC1' := hid_of' (HC1.out w1 b1))
    | (go_at_call 14; with_reducible refine HC1'.out.mono ?_; rintro e w2 ⟨ub, rfl, rb, ob, b2⟩))
  have H2 := hid_of' (And.intro (ra.later b2) (And.intro rb (bgo b1 b2)))
  clear ra oa b1 rb ob b2 HC1' HC0 HC1
  have HW0 := hid_of' (write_ok (RwT.sl H2.out.1) (by have := HA.out.1; omega) (fun e he => by have := HA.out.2 e he; omega))
  go_upto_region 3 with (first
    | (go_at_call 16; with_reducible refine HW0.out.mono ?_; rintro e w3 ⟨vx, rfl, rx, ox, b3⟩; have HW1 := hid_of' (write_ok ((RwT.sl H2.out.2.1).later b3) (by have := HD.out.1; omega) (fun e he => by have := HD.out.2 e he; omega)))
    | (go_at_call 16; with_reducible refine HW1.out.mono ?_; rintro e w4 ⟨vy, rfl, ry, oy, b4⟩))
  have H4 := hid_of' (And.intro (rx.later b4) (And.intro ry (And.intro ((H2.out.1.later b3).later b4) (And.intro ((H2.out.2.1.later b3).later b4) (bgo (bgo H2.out.2.2 b3) b4)))))
  clear rx ox b3 ry oy b4 HW0 HW1
  have e5 : RowAt w4.heap.size #[] 29 (w4.alloc (.cells #[] 29)) := RowAt.new w4 _ _
  have b5 := below_one w4 (.cells #[] 29)
  have HAB := hid_of' (show ∀ x ∈ A ++ B, x.t.size ≤ 1000000 from fun x hx => by
    rcases List.mem_append.1 hx with hx | hx
    · have := HA.out.2 x hx
      omega
    · have := HD.out.2 x hx
      omega)
  have hABl : (A ++ B).length ≤ 400 := by
    rw [List.length_append]
    have := HA.out.1
    have := HD.out.1
    omega
  go_upto_region 4 with (first
    | (at_builtin; refine wpL_app0T (m := A) rfl _ _ rfl rfl rfl e5 ((H4.out.2.2.1.later b5).so) (by have := HA.out.1; omega) ?_; intro v6 w6 p1 p2 p3)
    | (at_builtin; refine wpL_appT (m := B) rfl _ _ rfl rfl rfl p1 (((H4.out.2.2.2.1.later b5).later p2).so) (by have := HA.out.1; have := HD.out.1; omega) ?_; intro v7 w7 q1 q2 q3)
    | (go_at_call 16; refine (write_ok (RwT.sl q1) (by omega) HAB.out).mono ?_; rintro e w8 ⟨vz, rfl, rz, oz, b8⟩))
  have hb47 : Below w4.heap.size w4 w7 := (bgo b5 p2).grown q2 (bgo b5 p2).size (fun k hk => (p3 k hk).elim (fun e => by omega) (fun e => by rw [World.size_alloc] at e; omega))
  have H8 := hid_of' (And.intro ((H4.out.1.later hb47).later b8) (And.intro ((H4.out.2.1.later hb47).later b8) (And.intro rz (bgo (bgo H4.out.2.2.2.2 hb47) b8))))
  clear e5 b5 p1 p2 p3 q1 q2 q3 rz oz b8 hb47
  obtain ⟨sx, hsx⟩ : ∃ sx : ByteArray, sx = ⟨(wrL A).toArray⟩ := ⟨_, rfl⟩
  obtain ⟨sy, hsy⟩ : ∃ sy : ByteArray, sy = ⟨(wrL B).toArray⟩ := ⟨_, rfl⟩
  obtain ⟨sz, hsz⟩ : ∃ sz : ByteArray, sz = ⟨(wrL (A ++ B)).toArray⟩ := ⟨_, rfl⟩
  have kx := run_strB H8.out.1
  have ky := run_strB H8.out.2.1
  have kz := run_strB H8.out.2.2.1
  rw [← hsx] at kx
  rw [← hsy] at ky
  rw [← hsz] at kz
  have hcat : sx ++ sy = sz := by
    rw [hsx, hsy, hsz, cat_is]
    unfold wrL
    rw [wr_app]
  have hlx : (wrL A).length ≤ 8000 := wrL_small (by have := HA.out.1; omega)
  have hly : (wrL B).length ≤ 8000 := wrL_small (by have := HD.out.1; omega)
  have hlz : (wrL (A ++ B)).length ≤ 8000 := wrL_small hABl
  have hzx : sx.size ≤ 8000 := by
    rw [hsx]
    show (wrL A).toArray.size ≤ 8000
    rw [List.size_toArray]
    exact hlx
  have hzy : sy.size ≤ 8000 := by
    rw [hsy]
    show (wrL B).toArray.size ≤ 8000
    rw [List.size_toArray]
    exact hly
  have HL := hid_of' (And.intro hlx (And.intro hly hlz))
  clear hsx hsy hsz hlx hly hlz
  have e9 : RowAt w8.heap.size #[] 29 (w8.alloc (.cells #[] 29)) := RowAt.new w8 _ _
  have b9 := below_one w8 (.cells #[] 29)
  have hrA : (rd (wrL A)).length ≤ 8000 := by
    have h1 := rd_len _ (wrL A) (Nat.le_refl _)
    have := HL.out.1
    omega
  have hrB : (rd (wrL B)).length ≤ 8000 := by
    have h1 := rd_len _ (wrL B) (Nat.le_refl _)
    have := HL.out.2.1
    omega
  have HR0 := hid_of' (read_ok (RwB.slc (H8.out.1.later b9)) (by have := HL.out.1; omega))
  have HR1 := hid_of' (fun (x : World) (hb : Below w8.heap.size w8 x) => read_ok (RwB.slc (H8.out.2.1.later hb)) (by have := HL.out.2.1; omega))
  have HR2 := hid_of' (fun (x : World) (hb : Below w8.heap.size w8 x) => read_ok (RwB.slc (H8.out.2.2.1.later hb)) (by have := HL.out.2.2; omega))
  go_upto_region 7 with (first
    | (refine wpL_convB rfl _ rfl rfl kx ?_) | (refine wpL_convB rfl _ rfl rfl ky ?_) | (refine wpL_convB rfl _ rfl rfl kz ?_)
    | (go_at_call 9; with_reducible refine HR0.out.mono ?_; rintro e x1 ⟨va, rfl, ra, oa, p1⟩; have ex1 : RowAt w8.heap.size #[] 29 x1 := e9.later p1)
    | (at_builtin; refine wpL_app0T (m := rd (wrL A)) rfl _ _ rfl rfl rfl ex1 ra.so (by omega) ?_; intro vm x2 p2 p3 p4; have HR1' := hid_of' (HR1.out x2 (bgo (bgo b9 p1) p3)))
    | (go_at_call 9; with_reducible refine HR1'.out.mono ?_; rintro e x3 ⟨vb, rfl, rb, ob, p5⟩)
    | (at_builtin; refine wpL_appT (m := rd (wrL B)) rfl _ _ rfl rfl rfl (p2.later p5) rb.so (by omega) ?_; intro vn x4 q1 q2 q3))
  have hb84 : Below w8.heap.size w8 x4 := (bgo (bgo (bgo b9 p1) p3) p5).grown q2 (bgo (bgo (bgo b9 p1) p3) p5).size (fun k hk => (p4 k hk).elim (fun e => by omega) (fun e => by have h1 := (bgo b9 p1).size; omega))
  have H9 := hid_of' (And.intro q1 hb84)
  have HR2' := hid_of' (HR2.out x4 hb84)
  have hjl : (rd (wrL A) ++ rd (wrL B)).length ≤ 1000000 := by rw [List.length_append]; omega
  have hjoin : rd (wrL (A ++ B)) = rd (wrL A) ++ rd (wrL B) := rd_join A B
  clear e9 b9 ra oa p1 ex1 p2 p3 p4 rb ob p5 q1 q2 q3 hb84 HR0 HR1 HR1' HR2 kx ky kz
  go_wp2_with (first
    | (go_at_call 9; with_reducible refine HR2'.out.mono ?_; rintro e x5 ⟨vc, rfl, rc, oc, p6⟩; rw [hjoin] at rc)
    | (go_at_call 11; with_reducible refine (keepSteps_same rc.sl (RwT.sl (H9.out.1.later p6)) hjl).mono ?_; rintro e x6 ⟨rfl, p7⟩)
    | (go_at_call 13; with_reducible refine (HK.out _).mono ?_; rintro e x7 ⟨rfl, p8⟩))
  go_ret
  exact ⟨rfl, bgo (bgo (bgo (bgo H8.out.2.2.2 H9.out.2) p6) p7) p8⟩
end Go.Proofs.Ytphdkniplhkkfaa
