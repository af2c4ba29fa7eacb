
/-
  Edits that only are read; barrowlaw15.cut. barrowkeep.Edits: are two rows alike?
-/
import Derived.Test.YtaimmjoekahleaaDoorZa34
import Derived.Test.YtaimmjoekahleaaDoorZa35
import Derived.Test.YtaimmjoekahleaaDoorZa28
namespace Go.Proofs.YtaimmjoekahleaaDoor
open Go.RowKit Go.Extern.Stop Go.Stop Go.Extern
set_option maxRecDepth 100000

/-- Edits that are only read. -/
def SlT (w : World) (v : Value) (l : List Edt) : Prop := (l = [] ∧ ∃ a c, v = .slice a 0 c) ∨ ∃ g o_ c, v = .slice (some ⟨g, o_, none⟩) l.length c ∧ ∀ (i : Nat) (e : Edt), l[i]? = some e → CsIn g (o_ + i * 3) (edv e) w
theorem SlT.form {w : World} {v : Value} {l : List Edt} (h : SlT w v l) : ∃ a c, v = .slice a l.length c := by
  rcases h with ⟨rfl, a, c, rfl⟩ | ⟨g, o_, c, rfl, _⟩
  · exact ⟨a, c, rfl⟩
  · exact ⟨_, c, rfl⟩
theorem SlT.at {w : World} {a : Option Addr} {n c : Nat} {l : List Edt} (h : SlT w (.slice a n c) l) {i : Nat} {e : Edt} (he : l[i]? = some e) : ∃ g o_, a = some ⟨g, o_, none⟩ ∧ g < w.heap.size ∧ w.cell? ⟨g, o_ + i * 3, none⟩ = some (.int .i64 e.at') ∧ w.cell? ⟨g, o_ + i * 3 + 1, none⟩ = some (.int .i64 e.er) ∧ w.cell? ⟨g, o_ + i * 3 + 2, none⟩ = some (.string e.ins) := by
  rcases h with ⟨rfl, _⟩ | ⟨g, o_, c', hv, hc⟩
  · simp at he
  · simp only [Value.slice.injEq] at hv
    obtain ⟨h1, h2⟩ := hc i e he
    exact ⟨g, o_, hv.1, h1, h2 0 _ rfl, h2 1 _ rfl, h2 2 _ rfl⟩
theorem SlT.later {w w' : World} {v : Value} {l : List Edt} (h : SlT w v l) (hb : Below w.heap.size w w') : SlT w' v l := by
  rcases h with h | ⟨g, o_, c, rfl, h⟩
  · exact .inl h
  · exact .inr ⟨g, o_, c, rfl, fun i e he => (h i e he).later hb⟩
/-- An edit, its text cut. -/
def cutE (e : Edt) : Edt := ⟨e.at', e.er, if 40 < e.ins.size then e.ins.extract 0 40 else e.ins⟩
def cutL (l : List Edt) : List Edt := (l.take 30).map cutE
theorem cutL_len (l : List Edt) : (cutL l).length ≤ 30 := by
  unfold cutL
  rw [List.length_map, List.length_take]
  omega
theorem cutE_size (e : Edt) : (cutE e).ins.size ≤ 40 := by
  unfold cutE
  dsimp only
  split
  · rw [ByteArray.size_extract]
    omega
  · omega
theorem cutL_small (l : List Edt) : ∀ e ∈ cutL l, e.ins.size ≤ 40 := fun e he => by
  obtain ⟨x, _, rfl⟩ := List.mem_map.1 he
  exact cutE_size x
theorem cut_out {w : World} {P : Nat} {a b : Int} {s u : ByteArray} {k : Nat} (h : RowAt P #[.int .i64 a, .int .i64 b, .string s] 46 w) (hk : k = 2) : RowAt P #[.int .i64 a, .int .i64 b, .string u] 46 (w.setCell ⟨P, k, none⟩ (.string u)) := by
  subst hk
  exact h.setc 2 _
set_option maxHeartbeats 8000000 in
theorem cut_ok {w : World} {v : Value} {l : List Edt} (h : SlT w v l) (hsz : ∀ e ∈ l, e.ins.size ≤ maxLen) :
    Calls Tryd.prog 5 #[v] w fun e w' => ∃ u, e = .returned u ∧ RwE u (cutL l) w' ∧ (∀ k, u.ownBlock = some k → w.heap.size ≤ k) ∧ Below w.heap.size w w' := by
  obtain ⟨a9, c9, rfl⟩ := h.form
  have HD := hid_of' h
  obtain ⟨nl, hnl⟩ : ∃ nl, nl = l.length := ⟨_, rfl⟩
  have HNL := hid_of' hnl
  rw [← hnl] at HD ⊢
  have HSZ := hid_of' hsz
  clear h hnl hsz
  go_enter Tryd.func5, Tryd.ntmps5
  go_wp2
  go_loopw [3, 4] (fun ov kv wr => ∃ k : Nat, kv = .int .i64 (k : Int) ∧ k ≤ nl ∧ k ≤ 30 ∧ RwE ov (cutL (l.take k)) wr ∧ (∀ g, ov.ownBlock = some g → w.heap.size ≤ g) ∧ Below w.heap.size w wr) (fun _ kv _ => 30 - (intOf kv).toNat)
  case atStart => exact ⟨0, rfl, Nat.zero_le _, Nat.zero_le _, RwE.nil _, (fun g hg => by cases hg), Below.refl _ _⟩
  case round =>
    obtain ⟨k, rfl, hk, hk30, hL, hO, hB⟩ := hrel
    obtain ⟨la, lc, hlv, _⟩ := Rw.form hL
    obtain ⟨ln, hln⟩ : ∃ ln, ln = (cutL (l.take k)).length := ⟨_, rfl⟩
    rw [← hln] at hlv
    subst hlv
    by_cases hkq : k < nl
    · have hki : (k : Int) < (nl : Int) := by omega
      by_cases hk3 : k < 30
      · have hki3 : (k : Int) < 30 := by omega
        obtain ⟨e, he⟩ : ∃ e, l[k]? = some e := ⟨_, List.getElem?_eq_getElem (by rw [← HNL.out]; exact hkq)⟩
        obtain ⟨g3, o3, rfl, hg3, c30, c31, c32⟩ := (HD.out.later hB).at he
        have hes := HSZ.out e (List.mem_of_getElem? he)
        have htk : cutL (l.take (k + 1)) = cutL (l.take k) ++ [cutE e] := by
          unfold cutL
          rw [List.take_take, List.take_take, Nat.min_eq_right (by omega), Nat.min_eq_right (by omega), List.take_add_one, he, List.map_append]
          rfl
        have hlk : (cutL (l.take k)).length ≤ 30 := cutL_len _
        obtain ⟨at_, er, ins⟩ := e
        dsimp only at c30 c31 c32 hes
        have b1 := below_one wr (.cells #[.int .i64 at_, .int .i64 er, .string ins] 46)
        have r1 := RowAt.new wr #[.int .i64 at_, .int .i64 er, .string ins] 46
        have HR := hid_of' (And.intro hL (And.intro hO (And.intro hB (And.intro htk hlk))))
        unfold maxLen at hes
        clear hL hO hB htk hlk hln he
        go_upto_region 6 with fail
        obtain ⟨P, hPe⟩ : ∃ P, P = wr.heap.size := ⟨_, rfl⟩
        rw [← hPe] at r1 ⊢
        generalize wr.alloc (.cells #[.int .i64 at_, .int .i64 er, .string ins] 46) = W5 at b1 r1 ⊢
        have HP := hid_of' (And.intro r1 (And.intro b1 hPe))
        clear c30 c31 c32
        have fin : ∀ (W6 : World) (s : ByteArray), (⟨at_, er, s⟩ : Edt) = cutE ⟨at_, er, ins⟩ → RowAt P #[.int .i64 at_, .int .i64 er, .string s] 46 W6 → Below wr.heap.size wr W6 → Hid (RwE (.slice la ln lc) (cutL (l.take k)) (W6.alloc (.cells #[.int .i64 at_, .int .i64 er, .string s] 46)) ∧ So 3 (.slice (some ⟨W6.heap.size, 0, none⟩) 1 1) 1 (fc edc [cutE ⟨at_, er, ins⟩]) (W6.alloc (.cells #[.int .i64 at_, .int .i64 er, .string s] 46)) ∧ Below w.heap.size w (W6.alloc (.cells #[.int .i64 at_, .int .i64 er, .string s] 46))) := by
          intro W6 s hs _ hb6
          refine ⟨(HR.out.1.later hb6).later (below_one _ _), ?_, bgo (bgo HR.out.2.2.1 hb6) (below_one _ _)⟩
          refine so_new W6 46 3 #[.int .i64 at_, .int .i64 er, .string s] rfl _ ?_
          rw [← hs]
          rfl
        have HFin := hid_of' fin
        clear fin
        by_cases hz : 40 < ins.size
        · have hzi : (40 : Int) < (ins.size : Int) := by omega
          have hz4 : (40 : Int) ≤ (ins.size : Int) := by omega
          have cP2 : W5.cell? ⟨P, 2, none⟩ = some (.string ins) := r1.is rfl
          have fP2 : W5.frozen? ⟨P, 2, none⟩ = false := r1.free 2
          clear b1 r1 hPe
          go_upto_region 8 with fail
          have r2 : RowAt P #[.int .i64 at_, .int .i64 er, .string (ins.extract 0 40)] 46 (W5.setCell ⟨P, 2, none⟩ (.string (ins.extract 0 40))) := HP.out.1.setc 2 _
          have b2 : Below wr.heap.size wr (W5.setCell ⟨P, 2, none⟩ (.string (ins.extract 0 40))) := (HP.out.2.1).setCell (by rw [HP.out.2.2]; exact Nat.le_refl _) _
          generalize W5.setCell ⟨P, 2, none⟩ (.string (ins.extract 0 40)) = W6 at r2 b2 ⊢
          obtain ⟨s, hs⟩ : ∃ s, s = ins.extract 0 40 := ⟨_, rfl⟩
          rw [← hs] at r2
          have hse : (⟨at_, er, s⟩ : Edt) = cutE ⟨at_, er, ins⟩ := by
            unfold cutE
            dsimp only
            rw [if_pos hz, hs]
          have HF6 := HFin.out W6 s hse r2 b2
          have cR0 : W6.cell? ⟨P, 0, none⟩ = some (.int .i64 at_) := r2.is rfl
          have cR1 : W6.cell? ⟨P, 1, none⟩ = some (.int .i64 er) := r2.is rfl
          have cR2 : W6.cell? ⟨P, 2, none⟩ = some (.string s) := r2.is rfl
          clear r2 b2 hs hse cP2 fP2 HFin
          go_upto_region 4 with (at_builtin; refine wpL_appE (m := [cutE ⟨at_, er, ins⟩]) rfl _ _ rfl rfl rfl HF6.out.1 HF6.out.2.1 (by have := HR.out.2.2.2.2; show _ + 1 ≤ _; omega) ?_; intro u8 w8 q1 q2 q3)
          have hwb := HF6.out.2.2
          have HQ := hid_of' (And.intro q1 (And.intro (fun g hg => (q3 g hg).elim (fun h => HR.out.2.1 g h) (fun h => Nat.le_trans hwb.size h)) (hwb.grown q2 hwb.size (fun g hg => HR.out.2.1 g hg))))
          clear q1 q2 q3 hwb
          have hk9 : k ≤ 30 := by omega
          go_wp2
          go_roundw
          case rel =>
            refine ⟨k + 1, by go_num, by omega, by omega, ?_, HQ.out.2.1, HQ.out.2.2⟩
            rw [HR.out.2.2.2.1]
            exact HQ.out.1
          case measure => simp [intOf]; omega
        · have hzi : ¬ (40 : Int) < (ins.size : Int) := by omega
          have hse : (⟨at_, er, ins⟩ : Edt) = cutE ⟨at_, er, ins⟩ := by
            unfold cutE
            dsimp only
            rw [if_neg hz]
          have HF6 := HFin.out W5 ins hse r1 b1
          have cR0 : W5.cell? ⟨P, 0, none⟩ = some (.int .i64 at_) := r1.is rfl
          have cR1 : W5.cell? ⟨P, 1, none⟩ = some (.int .i64 er) := r1.is rfl
          have cR2 : W5.cell? ⟨P, 2, none⟩ = some (.string ins) := r1.is rfl
          clear r1 b1 hPe hse HFin
          go_upto_region 4 with (at_builtin; refine wpL_appE (m := [cutE ⟨at_, er, ins⟩]) rfl _ _ rfl rfl rfl HF6.out.1 HF6.out.2.1 (by have := HR.out.2.2.2.2; show _ + 1 ≤ _; omega) ?_; intro u8 w8 q1 q2 q3)
          have hwb := HF6.out.2.2
          have HQ := hid_of' (And.intro q1 (And.intro (fun g hg => (q3 g hg).elim (fun h => HR.out.2.1 g h) (fun h => Nat.le_trans hwb.size h)) (hwb.grown q2 hwb.size (fun g hg => HR.out.2.1 g hg))))
          clear q1 q2 q3 hwb
          have hk9 : k ≤ 30 := by omega
          go_wp2
          go_roundw
          case rel =>
            refine ⟨k + 1, by go_num, by omega, by omega, ?_, HQ.out.2.1, HQ.out.2.2⟩
            rw [HR.out.2.2.2.1]
            exact HQ.out.1
          case measure => simp [intOf]; omega
      · have hki3 : ¬ (k : Int) < 30 := by omega
        obtain rfl : k = 30 := by omega
        have e : cutL (l.take 30) = cutL l := by
          unfold cutL
          rw [List.take_take, Nat.min_self]
        rw [e] at hL
        have HL := hid_of' (And.intro hL (And.intro hO hB))
        clear hL hO hB hln e
        go_wp2
        go_ret
        exact ⟨_, rfl, HL.out.1, HL.out.2.1, HL.out.2.2⟩
    · have hki : ¬ (k : Int) < (nl : Int) := by omega
      obtain rfl : k = nl := by omega
      have e : cutL (l.take k) = cutL l := by rw [HNL.out, List.take_length]
      rw [e] at hL
      have HL := hid_of' (And.intro hL (And.intro hO hB))
      clear hL hO hB hln e
      go_wp2
      go_ret
      exact ⟨_, rfl, HL.out.1, HL.out.2.1, HL.out.2.2⟩
end Go.Proofs.YtaimmjoekahleaaDoor
namespace Go.Proofs.YtaimmjoekahleaaDoor
open Go.RowKit Go.Extern.Stop Go.Stop Go.Extern
set_option maxRecDepth 100000

set_option maxHeartbeats 4000000 in
theorem keepEdits_is {w : World} {va vb : Value} {l : List Edt} (ha : RwE va l w) (hb : RwE vb l w) (hl : l.length ≤ 1000000000) :
    Calls Tryd.prog 9 #[va, vb] w fun e w' => e = .returned (.bool true) ∧ Below w.heap.size w w' := by
  obtain ⟨o1, c1, e1, _⟩ := Rw.form ha
  obtain ⟨o2, c2, e2, _⟩ := Rw.form hb
  obtain ⟨n, hn⟩ : ∃ n, n = l.length := ⟨_, rfl⟩
  have H := hid_of' (And.intro ha (And.intro hb hn))
  rw [← hn] at e1 e2 hl
  subst e1 e2
  clear ha hb hn
  go_enter Tryd.func9, Tryd.ntmps9
  go_wp2
  go_loopw [5] (fun kv wr => ∃ k : Nat, kv = .int .i64 (k : Int) ∧ k ≤ n ∧ Below w.heap.size w wr) (fun kv _ => n - (intOf kv).toNat)
  case atStart => exact ⟨0, rfl, Nat.zero_le _, Below.refl _ _⟩
  case round =>
    obtain ⟨k, rfl, hk, hB⟩ := hrel
    by_cases hkn : k < n
    · have hki : (k : Int) < (n : Int) := by omega
      obtain ⟨e, he⟩ : ∃ e, l[k]? = some e := ⟨_, List.getElem?_eq_getElem (by rw [← H.out.2.2]; exact hkn)⟩
      obtain ⟨g1, rfl, _, a0, a1, a2⟩ := RwE.at (H.out.1.later hB) he
      obtain ⟨g2, rfl, _, b0, b1, b2⟩ := RwE.at (H.out.2.1.later hB) he
      have HB := hid_of' hB
      clear he hB
      go_upto_region 6 with fail
      go_region
      have hd : Below wr.heap.size wr wr.drew := below_drewN (Below.refl _ _) 1
      have HB2 := hid_of' (bgo HB.out hd)
      clear hd a0 a1 a2 b0 b1 b2
      generalize wr.drew = W at HB2 ⊢
      go_wp2
      go_roundw
      case rel => exact ⟨k + 1, by go_num, by omega, HB2.out⟩
      case measure => simp [intOf]; omega
    · have hki : ¬ (k : Int) < (n : Int) := by omega
      have HB := hid_of' hB
      clear hB
      go_wp2
      go_ret
      exact ⟨rfl, HB.out⟩
end Go.Proofs.YtaimmjoekahleaaDoor
