
/-
  Package script: appendStep.
-/
import Derived.Test.YtphdkniplhkkfaaDoorSq13
import Derived.Test.YtphdkniplhkkfaaDoorScSh
namespace Go.Proofs.YtphdkniplhkkfaaDoor
open Go.RowKit Go.Extern.Stop Go.Stop Go.Extern
set_option maxRecDepth 100000

theorem so_b4 (w : World) {k a b c : Int} (hk : 0 ≤ k ∧ k < 14) (ha : 0 ≤ a ∧ a ≤ 255) (hb : 0 ≤ b ∧ b ≤ 255) (hc : 0 ≤ c ∧ c ≤ 255) :
    So 1 (.slice (some ⟨w.heap.size, 0, none⟩) 4 4) [k.toNat.toUInt8, a.toNat.toUInt8, b.toNat.toUInt8, c.toNat.toUInt8].length ([k.toNat.toUInt8, a.toNat.toUInt8, b.toNat.toUInt8, c.toNat.toUInt8].map fun b => Value.int .u8 (b.toNat : Int)) (w.alloc (.cells #[.int .u8 k, .int .u8 a, .int .u8 b, .int .u8 c] 5)) :=
  so_bytes w _ _ 4 rfl (by simp only [List.map_cons, List.map_nil, u8_of k hk.1 (by omega), u8_of a ha.1 ha.2, u8_of b hb.1 hb.2, u8_of c hc.1 hc.2])
theorem so_b1 (w : World) {z : Int} (hz : 0 ≤ z ∧ z ≤ 255) : So 1 (.slice (some ⟨w.heap.size, 0, none⟩) 1 1) [z.toNat.toUInt8].length ([z.toNat.toUInt8].map fun b => Value.int .u8 (b.toNat : Int)) (w.alloc (.cells #[.int .u8 z] 5)) :=
  so_bytes w _ _ 1 rfl (by simp only [List.map_cons, List.map_nil, u8_of z hz.1 hz.2])
set_option maxHeartbeats 4000000 in
theorem appendStep_ok {w0 w : World} {u : Value} {l : List UInt8} {k a b c : Int} {t : ByteArray} (h : RwB u l w) (hO : ∀ q, u.ownBlock = some q → w0.heap.size ≤ q) (hB : Below w0.heap.size w0 w) (hp : pln ⟨k, a, b, c, t⟩ = true) (hl : l.length ≤ 1000000) (ht : t.size ≤ 1000000) :
    Calls Tryd.prog 18 #[u, .agg (stv k a b c t)] w fun e w' => ∃ v, e = .returned v ∧ RwB v (l ++ wrS ⟨k, a, b, c, t⟩) w' ∧ (∀ q, v.ownBlock = some q → w0.heap.size ≤ q) ∧ Below w0.heap.size w0 w' := by
  obtain ⟨hk, ha, hb, hc, hT0⟩ := pln_is hp
  dsimp only at hk ha hb hc hT0
  obtain ⟨k0, k1⟩ := hk
  obtain ⟨a0, a1⟩ := ha
  obtain ⟨b0, b1⟩ := hb
  obtain ⟨c0, c1⟩ := hc
  have rP : RowAt w.heap.size (stv k a b c t) 30 (w.alloc (.cells (stv k a b c t) 30)) := RowAt.new w _ _
  have bP := below_one w (.cells (stv k a b c t) 30)
  obtain ⟨ua, uc, hu, _, _⟩ := Rw.form h
  obtain ⟨n, hn⟩ : ∃ n, n = l.length := ⟨_, rfl⟩
  rw [← hn] at hu
  have HT0 := hid_of' hT0
  have hlt := Rw.lt h
  subst hu
  have H := hid_of' (And.intro h (And.intro hO (And.intro hB (And.intro hn hlt))))
  clear h hO hB hn hT0 hlt
  go_enter Tryd.func18, Tryd.ntmps18
  go_upto_region 1 with fail
  obtain ⟨P, hP⟩ : ∃ P, P = w.heap.size := ⟨_, rfl⟩
  rw [← hP] at rP ⊢
  generalize w.alloc (.cells (stv k a b c t) 30) = w1 at rP bP ⊢
  have m0 : w1.cell? ⟨P, 0, none⟩ = some (.int .i64 k) := rP.is rfl
  have m1 : w1.cell? ⟨P, 1, none⟩ = some (.int .i64 a) := rP.is rfl
  have m2 : w1.cell? ⟨P, 2, none⟩ = some (.int .i64 b) := rP.is rfl
  have m3 : w1.cell? ⟨P, 3, none⟩ = some (.int .i64 c) := rP.is rfl
  have HP := hid_of' (And.intro rP (And.intro bP hP))
  clear rP bP hP
  go_upto_region 2 with (at_builtin; refine wpL_appBy (m := [k.toNat.toUInt8, a.toNat.toUInt8, b.toNat.toUInt8, c.toNat.toUInt8]) rfl _ _ rfl rfl rfl ((H.out.1.later HP.out.2.1).later (below_one _ _)) (so_b4 _ ⟨k0, k1⟩ ⟨a0, a1⟩ ⟨b0, b1⟩ ⟨c0, c1⟩) (by have := H.out.2.2.2.1; simp only [List.length_cons, List.length_nil]; omega) ?_; intro v2 w2 q1 q2 q3)
  have rP2 : RowAt P (stv k a b c t) 30 w2 := (HP.out.1.later (below_one _ _)).grow q2 (fun e => by have := H.out.2.2.2.2 P e; have := HP.out.2.2; omega)
  have bA := bgo HP.out.2.1 (below_one w1 (.cells #[.int .u8 k, .int .u8 a, .int .u8 b, .int .u8 c] 5))
  have hB2 : Below w0.heap.size w0 w2 := (H.out.2.2.1.trans (bA.mono H.out.2.2.1.size)).grown q2 (Nat.le_trans H.out.2.2.1.size bA.size) H.out.2.1
  have hO2 : ∀ q, v2.ownBlock = some q → w0.heap.size ≤ q := fun q hq => (q3 q hq).elim (fun e => H.out.2.1 q e) (fun e => by have h1 := H.out.2.2.1.size; have h2 := bA.size; omega)
  have hN2 : ∀ q, v2.ownBlock = some q → ¬ q = P := fun q hq e9 => by
    have hPl := HP.out.1.lt
    rcases q3 q hq with e | e
    · have := H.out.2.2.2.2 q e
      have := HP.out.2.2
      omega
    · rw [World.size_alloc] at e
      omega
  have ck : w2.cell? ⟨P, 0, none⟩ = some (.int .i64 k) := rP2.is rfl
  have cT : w2.cell? ⟨P, 4, none⟩ = some (.string t) := rP2.is rfl
  have hl2 : n = l.length := H.out.2.2.2.1
  obtain ⟨xa, xc, hx2, _, _⟩ := Rw.form q1
  obtain ⟨n2, hn2⟩ : ∃ n2, n2 = (l ++ [k.toNat.toUInt8, a.toNat.toUInt8, b.toNat.toUInt8, c.toNat.toUInt8]).length := ⟨_, rfl⟩
  rw [← hn2] at hx2
  obtain ⟨l2, hl29⟩ : ∃ l2, l2 = l ++ [k.toNat.toUInt8, a.toNat.toUInt8, b.toNat.toUInt8, c.toNat.toUInt8] := ⟨_, rfl⟩
  rw [← hl29] at q1 hn2
  have hl2l : l2.length ≤ 1000004 := by
    rw [hl29]
    simp only [List.length_append, List.length_cons, List.length_nil]
    omega
  subst hx2
  have H2 := hid_of' (And.intro q1 (And.intro hO2 (And.intro hB2 (And.intro hN2 (And.intro rP2 (And.intro hl29 (And.intro hn2 hl2l)))))))
  clear q1 hO2 hB2 hN2 rP2 hl29 hn2 hl2l q2 q3 bA m0 m1 m2 m3 hl2
  cases hT : hasT k
  · have HT := hid_of' (fun x => hasT_at hT x)
    go_wp2_with (go_at_call 23; with_reducible refine (HT.out _).mono ?_; rintro e wx ⟨rfl, hwx⟩; rw [hwx]; clear hwx)
    go_ret
    refine ⟨_, rfl, ?_, H2.out.2.1, H2.out.2.2.1⟩
    have e : l ++ wrS ⟨k, a, b, c, t⟩ = l2 := by
      rw [H2.out.2.2.2.2.2.1]
      unfold wrS
      rw [if_neg (by rw [hT]; decide), List.append_nil]
    rw [e]
    exact H2.out.1
  · rw [hT, if_pos rfl] at HT0
    obtain ⟨hr15, hall⟩ : (rn t.data.toList).length ≤ 15 ∧ (rn t.data.toList).all okC = true := by
      have := HT0.out
      unfold plT at this
      simpa only [Bool.and_eq_true, decide_eq_true_eq] using this
    have HT := hid_of' (fun x => hasT_at hT x)
    have HC := hid_of' (fun x => Tryd.utf8_RuneCountInString t x (by omega))
    rw [count_rn] at HC
    have HRn := hid_of' hall
    obtain ⟨rs, hrs⟩ : ∃ rs, rs = rn t.data.toList := ⟨_, rfl⟩
    rw [← hrs] at HC hr15 HRn
    obtain ⟨nR, hnR⟩ : ∃ nR, nR = rs.length := ⟨_, rfl⟩
    rw [← hnR] at HC hr15
    have hnz : ((nR : Int)).toNat = nR := by omega
    have HRs := hid_of' (And.intro hrs (And.intro hnR HRn.out))
    clear HRn hall hrs hnR HT0
    go_upto_region 5 with (first
      | (go_at_call 23; with_reducible refine (HT.out _).mono ?_; rintro e wx ⟨rfl, hwx⟩; rw [hwx]; clear hwx)
      | (go_at_call 27; refine (HC.out _).mono ?_; rintro e w3 ⟨rfl, pos, hw3⟩; have b3 : Below w2.heap.size w2 w3 := (by rw [hw3]; exact (Below.refl _ _).alloc (Nat.le_refl _) _); clear hw3)
      | (at_builtin; refine wpL_appBy (m := [((nR : Int)).toNat.toUInt8]) rfl _ _ rfl rfl rfl ((H2.out.1.later b3).later (below_one _ _)) (so_b1 _ ⟨by omega, by omega⟩) (by have := H2.out.2.2.2.2.2.2.2; simp only [List.length_cons, List.length_nil]; omega) ?_; intro v5 w5 q1 q2 q3))
    have bA := bgo b3 (below_one w3 (.cells #[.int .u8 (nR : Int)] 5))
    have rP5 : RowAt P (stv k a b c t) 30 w5 := (H2.out.2.2.2.2.1.later bA).grow q2 (fun e => H2.out.2.2.2.1 P e rfl)
    have hB5 : Below w0.heap.size w0 w5 := (H2.out.2.2.1.trans (bA.mono H2.out.2.2.1.size)).grown q2 (Nat.le_trans H2.out.2.2.1.size bA.size) H2.out.2.1
    have hO5 : ∀ q, v5.ownBlock = some q → w0.heap.size ≤ q := fun q hq => (q3 q hq).elim (fun e => H2.out.2.1 q e) (fun e => by have h1 := H2.out.2.2.1.size; have h2 := bA.size; omega)
    have cT5 : w5.cell? ⟨P, 4, none⟩ = some (.string t) := rP5.is rfl
    have hlt5 := Rw.lt q1
    have H5 := hid_of' (And.intro q1 (And.intro hO5 (And.intro hB5 hlt5)))
    obtain ⟨l3, hl3⟩ : ∃ l3, l3 = l2 ++ [((nR : Int)).toNat.toUInt8] := ⟨_, rfl⟩
    rw [← hl3] at H5
    have HL3 := hid_of' (And.intro hl3 (show l3.length ≤ 1000005 by rw [hl3]; have := H2.out.2.2.2.2.2.2.2; simp only [List.length_append, List.length_cons, List.length_nil]; omega))
    clear q1 q2 q3 hO5 hB5 hlt5 rP5 bA b3 cT ck hl3 hnz
    have bI : Below w5.heap.size w5 (w5.iter t 0) := (Below.refl _ _).alloc (Nat.le_refl _) _
    go_upto_region 6 with fail
    obtain ⟨I, hI⟩ : ∃ I, I = w5.heap.size := ⟨_, rfl⟩
    rw [← hI]
    have HI0 := hid_of' (show w0.heap.size ≤ I by rw [hI]; exact H5.out.2.2.1.size)
    go_loopw [0] (fun vv wr => ∃ (p : Nat) (dn : List Int), Hid (dn ++ rn (t.data.toList.drop p) = rs) ∧ Hid (RwB vv (l3 ++ dn.map fun c => (byN c).toUInt8) wr) ∧ Hid (∀ q, vv.ownBlock = some q → w0.heap.size ≤ q ∧ ¬ q = I) ∧ Hid (Below w0.heap.size w0 wr) ∧ wr.heap[I]? = some (.stringIter t p)) (fun _ wr => t.size - wr.iterPos I)
    case atStart => exact ⟨0, [], by rw [HRs.out.1]; rfl, by have h9 := H5.out.1.later bI; simpa [Hid] using h9, fun q hq => ⟨H5.out.2.1 q hq, by have := H5.out.2.2.2 q hq; omega⟩, bgo H5.out.2.2.1 ((Below.refl _ _).alloc (Nat.le_refl _) _), by rw [hI]; exact World.iter_heap w5 t 0⟩
    case round =>
      obtain ⟨p, dn, hdn, hR, hOI, hB, hit⟩ := hrel
      clear hI
      obtain ⟨va, vc, hvv, _, _⟩ := Rw.form hR.out
      obtain ⟨n6, hn6⟩ : ∃ n6, n6 = (l3 ++ dn.map fun c => (byN c).toUInt8).length := ⟨_, rfl⟩
      rw [← hn6] at hvv
      subst hvv
      have HN6 := hid_of' hn6
      clear hn6
      by_cases hp : p < t.size
      · have hnx : ∀ ty, (Instr.next (.pointer (some ⟨I, 0, none⟩)) true ty).run Tryd.prog wr = _ := fun ty => Lib.run_next_any_at wr I t p ty hit hp
        have hit2 := Lib.iterAt_heap wr I t p (p + (Utf8.decode t p).2) hit
        obtain ⟨hr, hw1⟩ := rn_at t p hp
        obtain ⟨W1, hW1⟩ : ∃ W1, W1 = wr.iterAt I t (p + (Utf8.decode t p).2) := ⟨_, rfl⟩
        have hBI : Below I wr W1 := by rw [hW1]; exact Lib.below_iterAt (Below.refl _ _) (Nat.le_refl _) t _
        rw [← hW1] at hnx hit2
        obtain ⟨ch, hcc⟩ : ∃ ch : Int, ch = ((Utf8.decode t p).1 : Int) := ⟨_, rfl⟩
        rw [← hcc] at hnx hr
        obtain ⟨p2, hp2⟩ : ∃ p2, p2 = p + (Utf8.decode t p).2 := ⟨_, rfl⟩
        rw [← hp2] at hit2 hr
        have hpp : p < p2 := by omega
        have hok : okC ch = true := by
          have h9 := HRs.out.2.2
          rw [← hdn.out, hr, List.all_append, List.all_cons] at h9
          simp only [Bool.and_eq_true] at h9
          exact h9.2.1
        have hcz : byV ch = (byN ch : Int) := by
          unfold byV
          rw [if_pos (of_decide_eq_true hok)]
        have hN256 : byN ch < 256 := of_decide_eq_true hok
        have HC2 := hid_of' (fun x => by have := byteOf_is ch x; rw [hok, hcz] at this; exact this)
        have hcI : Ch (fun s => s = I) wr W1 := by
          rw [hW1]
          exact ⟨rfl, rfl, rfl, by rw [Lib.iterAt_size]; exact Nat.le_refl _, fun j _ hn => Lib.iterAt_other wr I j t _ hn⟩
        have hRW : RwB (.slice va n6 vc) (l3 ++ dn.map fun c => (byN c).toUInt8) W1 := Rw.ch hR.out hcI (fun q hq => (hOI.out q hq).2)
        have hBW : Below w0.heap.size w0 W1 := by
          rw [hW1]
          exact Lib.below_iterAt hB.out HI0.out t _
        have hIlt : I < W1.heap.size := (Array.getElem?_eq_some_iff.1 hit2).1
        have hdl : dn.length ≤ 15 := by
          have h8 := congrArg List.length hdn.out
          rw [List.length_append, ← HRs.out.2.1] at h8
          omega
        have hl35 := HL3.out.2
        have HW := hid_of' (And.intro hRW (And.intro hBW (And.intro hIlt (And.intro hit2 hr))))
        have HP2 := hid_of' (show p < t.size ∧ wr.iterPos I = p from ⟨hp, by unfold World.iterPos; rw [hit]⟩)
        clear hcI hRW hBW hIlt hW1 hBI hp2 hcc hit hit2 hr hp hok hcz hw1 hR hB
        go_upto_region 11 with (first
          | (go_at_call 32; refine (HC2.out _).mono ?_; rintro r wy ⟨rfl, hwy⟩; rw [hwy]; clear hwy)
          | (at_builtin; refine wpL_appBy (m := [((byN ch : Int)).toNat.toUInt8]) rfl _ _ rfl rfl rfl (HW.out.1.later (below_one _ _)) (so_b1 _ ⟨by omega, by omega⟩) (by simp only [List.length_append, List.length_map, List.length_cons, List.length_nil]; omega) ?_; intro v8 w8 q1 q2 q3))
        have bA := below_one W1 (.cells #[.int .u8 (byN ch : Int)] 5)
        have hB8 : Below w0.heap.size w0 w8 := (HW.out.2.1.trans (bA.mono HW.out.2.1.size)).grown q2 (Nat.le_trans HW.out.2.1.size bA.size) (fun q hq => (hOI.out q hq).1)
        have hO8 : ∀ q, v8.ownBlock = some q → w0.heap.size ≤ q ∧ ¬ q = I := fun q hq => (q3 q hq).elim (fun e => hOI.out q e) (fun e => by
          have h1 := HW.out.2.1.size
          have h2 := HW.out.2.2.1
          rw [World.size_alloc] at e
          omega)
        have hi8 : w8.heap[I]? = some (.stringIter t p2) := by
          rw [q2.block I (by rw [World.size_alloc]; have := HW.out.2.2.1; omega) (fun e => (hOI.out I e.symm).2 rfl), bA.block I HW.out.2.2.1]
          exact HW.out.2.2.2.1
        refine ⟨⟨p2, dn ++ [ch], ?_, ?_, hO8, hB8, hi8⟩, ?_⟩
        · have := hdn.out
          rw [HW.out.2.2.2.2] at this
          show dn ++ [ch] ++ rn (t.data.toList.drop p2) = rs
          rw [List.append_assoc]
          exact this
        · show RwB v8 (l3 ++ (dn ++ [ch]).map fun c => (byN c).toUInt8) w8
          rw [List.map_append, ← List.append_assoc]
          exact q1
        · rw [HP2.out.2]
          unfold World.iterPos
          rw [hi8]
          have := HP2.out.1
          show t.size - p2 < t.size - p
          omega
      · have hnx : ∀ ty, (Instr.next (.pointer (some ⟨I, 0, none⟩)) true ty).run Tryd.prog wr = _ := fun ty => Lib.run_next_end_at wr I t p ty hit hp
        have hr := rn_end t p hp
        have hde : dn = rs := by
          have := hdn.out
          rwa [hr, List.append_nil] at this
        have HD := hid_of' hde
        clear hde hr
        go_wp2
        go_ret
        refine ⟨_, rfl, ?_, fun q hq => (hOI.out q hq).1, hB.out⟩
        have e : l ++ wrS ⟨k, a, b, c, t⟩ = l3 ++ dn.map fun c => (byN c).toUInt8 := by
          rw [HL3.out.1, H2.out.2.2.2.2.2.1, HD.out, HRs.out.1]
          unfold wrS wtC
          rw [if_pos hT]
          have e2 : ((nR : Int)).toNat = (rn t.data.toList).length := by
            rw [← HRs.out.1, ← HRs.out.2.1]
            rfl
          rw [e2]
          simp only [List.append_assoc]
          rfl
        rw [e]
        exact hR.out
end Go.Proofs.YtphdkniplhkkfaaDoor
