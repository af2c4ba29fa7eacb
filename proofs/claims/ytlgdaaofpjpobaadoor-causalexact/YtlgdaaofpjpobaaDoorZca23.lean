
/-
  barrowkeep.SpoilActs; barrowlaw11.cut; causal.Missing and the document's.
-/
import Derived.Test.YtlgdaaofpjpobaaDoorZca22
namespace Go.Proofs.YtlgdaaofpjpobaaDoor
open Go.RowKit Go.Maps
set_option maxRecDepth 100000

/-- A row of acts of one's own, whatever it holds. -/
def OwnX (v : Value) (n : Nat) (w : World) : Prop := ∃ xs, Rw 48 13 v n xs w
theorem OwnA.any {v : Value} {l : List Ac} {w : World} (h : OwnA v l w) : OwnX v l.length w := ⟨_, h.1⟩
theorem OwnX.form {v : Value} {n : Nat} {w : World} (h : OwnX v n w) : ∃ a c, v = .slice a n c ∧ n ≤ c ∧ c ≤ maxLen := by
  obtain ⟨xs, h⟩ := h
  exact h.form
theorem OwnX.later {v : Value} {n : Nat} {w w' : World} (h : OwnX v n w) (hb : Below w.heap.size w w') : OwnX v n w' := by
  obtain ⟨xs, h⟩ := h
  exact ⟨xs, h.later hb⟩
theorem OwnX.rowN {a : Option Addr} {n c : Nat} {w : World} (h : OwnX (.slice a n c) n w) (hn : 0 < n) : ∃ g N, a = some ⟨g, 0, none⟩ ∧ c * 13 ≤ N ∧ RowN g N w ∧ n ≤ c := by
  obtain ⟨xs, h⟩ := h
  rcases h.2 with ⟨_, h0⟩ | ⟨g, cap, cur, h1, h2, h3, _, h4, _⟩
  · omega
  · simp only [Value.slice.injEq, true_and] at h1
    obtain ⟨rfl, rfl⟩ := h1
    exact ⟨g, cur.size, rfl, h4, ⟨cur, h2, rfl⟩, h3⟩
theorem OwnX.of {g n c N : Nat} {w : World} (h : RowN g N w) (h1 : n ≤ c) (h2 : c * 13 ≤ N) (h3 : c ≤ maxLen) : OwnX (.slice (some ⟨g, 0, none⟩) n c) n w := by
  obtain ⟨cs, r1, r2⟩ := h
  refine ⟨cs.toList.take (n * 13), ?_, .inr ⟨g, c, cs, rfl, r1, h1, h3, by omega, rfl⟩⟩
  rw [List.length_take, Array.length_toList]
  omega
theorem wpL_appX {ops : Array Oper} {rest : List Oper} {o : Oper} {A : Act} {w : World} {Q : Exit → Act → World → Prop} (hgd : o.guard = none) (s x : Operand) (ho : o.op = .call { callee := .builtin .append, args := #[s, x], argTypes := #[37, 37] })
    {v u : Value} {n : Nat} {m : List Ac} (hs : A.eval s = v) (hx : A.eval x = u) (hv : OwnX v n w) (hu : SlC w u m) (hm : AFit m) (hn : n + m.length ≤ 1000000)
    (k : ∀ v' w', OwnX v' (n + m.length) w' → w.grownBy w' v.ownBlock → At' w v v' → wpList Tryd.prog ops Q rest (A.put o.dst v') w') : wpList Tryd.prog ops Q (o :: rest) A w := by
  obtain ⟨xs, hv⟩ := hv
  obtain ⟨i0, hi, hz0, hz1, hz2⟩ := info_parts info_a
  refine wpL_app hgd s x 37 ho 48 i0 (.agg (acv ac0)) 13 104 Tryd.underlying37 hi hz0 hz1 hz2 rfl hs hx hv (hu.so hm) (acells_oneC m) (by unfold maxLen; omega) (by omega) ?_
  intro v' w' h1 h2 h3
  exact k v' w' ⟨_, h1⟩ h2 h3
set_option maxHeartbeats 4000000 in
theorem spoilA_is {w : World} {v : Value} {n : Nat} (h : OwnX v n w) (hn : n ≤ 1000) :
    Calls Tryd.prog 28 #[v] w fun e w' => (∃ z, e = .returned z) ∧ Ch (fun k => v.ownBlock = some k) w w' := by
  obtain ⟨a, c, rfl, hnc, hcm⟩ := h.form
  have H := hid_of' (And.intro h (And.intro hnc hcm))
  clear h hnc hcm
  go_enter Tryd.func28, Tryd.ntmps28
  go_wp2
  go_loopw [2] (fun kv wr => ∃ k : Nat, kv = .int .i64 (k : Int) ∧ k ≤ n ∧ OwnX (.slice a n c) n wr ∧ Ch (fun k => Value.ownBlock (.slice a n c) = some k) w wr) (fun kv _ => n - (intOf kv).toNat)
  case atStart => exact ⟨0, rfl, by omega, H.out.1, Ch.refl _ _⟩
  case round =>
    rename World => wr
    obtain ⟨k, rfl, hk, hR, hC⟩ := hrel
    by_cases hkl : k < n
    · have hki : (k : Int) < (n : Int) := by omega
      obtain ⟨g, N, rfl, hcN, hRN, _⟩ := hR.rowN (by omega)
      have hm1 := mkA_fit (k := 1) (by decide) (by decide)
      have HM := hid_of' (act_is 1 (by decide) (by decide) wr)
      have HRq := hid_of' (And.intro hRN hC)
      have hko : k * 13 + 13 ≤ N := by have := H.out.2.1; omega
      clear hR hRN hC
      go_wp2_with (first | (go_at_call 43; refine HM.out.mono ?_; rintro r w2 ⟨rfl, hb2⟩; clear HM) | (refine wpL_storeA (p := mkA 1) rfl _ _ rfl rfl rfl hm1 ((HRq.out.1.later hb2).there _ _ hko) ?_; have hR3 := (HRq.out.1.later hb2).cells (acv (mkA 1)).toList (k * 13) w2; have hK3 := Ch.cells (S := fun k => Value.ownBlock (.slice (some ⟨g, 0, none⟩) n c) = some k) (g := g) (.inl rfl) (acv (mkA 1)).toList (k * 13) w2 (HRq.out.2.later hb2); generalize w2.setCells g (k * 13) (acv (mkA 1)).toList = w3 at hR3 hK3 ⊢))
      go_roundw
      case rel => exact ⟨k + 1, by go_num, by omega, OwnX.of hR3 H.out.2.1 hcN H.out.2.2, hK3⟩
      case measure => simp [intOf]; omega
    · have hki : ¬ (k : Int) < (n : Int) := by omega
      have HX := hid_of' (And.intro hR hC)
      clear hR hC
      go_wp2
      go_loopw [0, 3] (fun v9 jv wq => ∃ (j m : Nat), jv = .int .i64 (j : Int) ∧ j ≤ 40 ∧ m ≤ n + j ∧ OwnX v9 m wq ∧ At' w (.slice a n c) v9 ∧ Ch (fun k => Value.ownBlock (.slice a n c) = some k) w wq) (fun _ jv _ => 40 - (intOf jv).toNat)
      case atStart => exact ⟨0, n, rfl, by omega, by omega, HX.out.1, At'.refl _ _, HX.out.2⟩
      case round =>
        rename World => wq
        obtain ⟨j, m, rfl, hj, hm, hR, hA, hC⟩ := hrel
        obtain ⟨za, zc, hv9, _, _⟩ := hR.form
        subst hv9
        by_cases hj4 : j < 40
        · have hji : (j : Int) < 40 := by omega
          have hm2 := mkA_fit (k := 2) (by decide) (by decide)
          have HM := hid_of' (act_is 2 (by decide) (by decide) wq)
          have HY := hid_of' (And.intro hR (And.intro hA hC))
          have hln : m + [mkA 2].length ≤ 1000000 := by simp; omega
          clear hR hA hC
          go_upto_region 6 with (first | (go_at_call 43; refine HM.out.mono ?_; rintro r w2 ⟨rfl, hb2⟩; clear HM) | (refine wpList_plain rfl fun _ hK => opw_oneA (p := mkA 2) _ rfl rfl hm2 ?_; refine hK _ _ ?_) | (at_builtin; refine wpL_appX rfl _ _ rfl rfl rfl ((HY.out.1.later hb2).later (below_one w2 (.cells (acv (mkA 2)) 48))) (slC_new w2 (mkA 2) 1) (AFit.one hm2) hln ?_; intro v3 w3 q1 q2 q3))
          have hs := HY.out.2.2.size
          have hs2 := hb2.size
          have hC6 := ((HY.out.2.2.later hb2).later (below_one w2 (.cells (acv (mkA 2)) 48))).grown q2 (fun k hk => HY.out.2.1 k hk)
          have hA6 : At' w (.slice a n c) v3 := fun k hk => (q3 k hk).elim (fun q => HY.out.2.1 k q) (fun q => .inr (by rw [World.size_alloc] at q; omega))
          have HZ := hid_of' (And.intro q1 (And.intro hA6 hC6))
          clear q1 q2 q3 hC6 hA6
          go_wp2
          go_roundw
          case rel => exact ⟨j + 1, m + 1, by go_num, by omega, by omega, HZ.out.1, HZ.out.2.1, HZ.out.2.2⟩
          case measure => simp [intOf]; omega
        · have hji : ¬ (j : Int) < 40 := by omega
          have HY := hid_of' hC
          clear hR hA hC
          go_wp2
          go_end0
          exact ⟨⟨_, rfl⟩, HY.out⟩
end Go.Proofs.YtlgdaaofpjpobaaDoor
