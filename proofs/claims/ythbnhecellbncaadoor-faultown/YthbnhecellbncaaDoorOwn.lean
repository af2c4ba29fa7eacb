/-
  barrowlaw01.FaultOwn answers true.
-/
import Derived.Test.YthbnhecellbncaaDoorMany
import Derived.Test.YthbnhecellbncaaDoorCls
import Derived.Deep.RegionWith
namespace Go.Proofs.YthbnhecellbncaaDoor
open Go.RowKit Go.Extern.Stop Go.Stop Go.Extern
set_option maxRecDepth 100000

theorem isMany (v : Value) (w : World) : (Instr.typeAssert (.iface 64 v) 26 64 true).run Tryd.prog w = .ok (.tuple #[v, .bool true]) w := by kernel_rfl

/-- Three reasons, joined. -/
theorem join_three {ad : Nat → Addr} (g p q r : Nat) (w : World) (hg : w.heap[g]? = some (.cells #[.iface 131 (.pointer (some (ad p))), .iface 131 (.pointer (some (ad q))), .iface 131 (.pointer (some (ad r)))] 26 (0, 0))) :
    Calls Tryd.prog 20 #[.slice (some ⟨g, 0, none⟩) 3 3] w fun e w' => ∃ mb lg cap, e = .returned (.iface 64 (.pointer (some ⟨mb, 0, none⟩))) ∧ ManyAt mb lg cap (rvals ad [p, q, r]) w' ∧ w.heap.size ≤ mb ∧ w.heap.size ≤ lg ∧ Below w.heap.size w w' := by
  have := join_any g 3 (rvals ad [p, q, r]) w (fun v hv => by simp only [rvals, List.mem_map] at hv; obtain ⟨k, _, rfl⟩ := hv; exact .inr ⟨_, _, rfl⟩) (by simp [rvals])
    (fun i v hv => by
      rw [cell_of_heap hg]
      match i, hv with
      | 0, hv => simpa [rvals] using hv
      | 1, hv => simpa [rvals] using hv
      | 2, hv => simpa [rvals] using hv
      | n + 3, hv => simp [rvals] at hv) (fun _ => (Array.getElem?_eq_some_iff.1 hg).1)
  refine Calls.mono this ?_
  rintro e w' ⟨v, rfl, hb, hj⟩
  obtain ⟨mb, lg, cap, cur, rfl, h1, h2, h3, h4, h5, h6⟩ := hj
  exact ⟨mb, lg, cap, rfl, ⟨h4, cur, h5, h6⟩, h1, h2, hb⟩

theorem owns3 {w : World} {B : Nat} {e : TypeId} {v : Value} {l : List Value} (h : w.ownsRow B e 1 v l.length l) (hl : l.length = 3) (hne : v ≠ .slice none 0 0) :
    ∃ g cap, v = .slice (some ⟨g, 0, none⟩) 3 cap ∧ B ≤ g ∧ g < w.heap.size ∧ (∀ i x, l[i]? = some x → w.cell? ⟨g, i, none⟩ = some x) ∧ ∀ i, w.frozen? ⟨g, i, none⟩ = false := by
  rcases h.2 with ⟨h1, _⟩ | ⟨g, cap, cur, rfl, hB, hg, h3, h4, h5, h6⟩
  · exact absurd h1 hne
  · refine ⟨g, cap, by rw [hl], hB, (Array.getElem?_eq_some_iff.1 hg).1, fun i x hx => ?_, fun i => frozen_of_heap hg i⟩
    have hi : i < l.length * 1 := by have := (List.getElem?_eq_some_iff.1 hx).1; omega
    rw [cell_of_heap hg]
    rw [← h6, List.getElem?_take, if_pos hi] at hx
    simpa using hx

theorem rvals_one (ad : Nat → Addr) (ks : List Nat) : ∀ v ∈ rvals ad ks, v.oneCell' = true := by
  intro v hv
  simp only [rvals, List.mem_map] at hv
  obtain ⟨k, _, rfl⟩ := hv
  rfl

set_option maxHeartbeats 2000000 in
theorem own_ok {ad : Nat → Addr} {w : World} (L : Laid ad w) (a b c : Int) (ha1 : -9223372036854775808 ≤ a) (ha2 : a ≤ 9223372036854775807) (hb1 : -9223372036854775808 ≤ b) (hb2 : b ≤ 9223372036854775807) (hc1 : -9223372036854775808 ≤ c) (hc2 : c ≤ 9223372036854775807) :
    Calls Tryd.prog 8 #[.int .i64 a, .int .i64 b, .int .i64 c] w fun e w' => e = .returned (.bool true) ∧ Below w.heap.size w w' := by
  have HR : Aside ((-9223372036854775808 ≤ a ∧ a ≤ 9223372036854775807) ∧ (-9223372036854775808 ≤ b ∧ b ≤ 9223372036854775807) ∧ (-9223372036854775808 ≤ c ∧ c ≤ 9223372036854775807)) := ⟨⟨ha1, ha2⟩, ⟨hb1, hb2⟩, hc1, hc2⟩
  clear ha1 ha2 hb1 hb2 hc1 hc2
  have hTA := isMany
  have hks : ∀ k ∈ [rplace a, rplace b, rplace c], k < 14 := by
    intro k hk
    simp only [List.mem_cons, List.not_mem_nil, or_false] at hk
    rcases hk with rfl | rfl | rfl <;> exact rplace_lt _
  have HK : Aside (∀ k ∈ [rplace a, rplace b, rplace c], k < 14) := hks
  clear hks
  have HK3 : Aside ([rplace a, rplace b, rplace c].length ≤ 100000) := by show _ ≤ _; simp
  go_enter Tryd.func8, Tryd.ntmps8
  go_wp2_with (first | (go_at_call_of 28 (Value.int .i64 a); refine (reason_any a _ HR.out.1.1 HR.out.1.2).mono ?_; rintro e w0 ⟨rfl, h0⟩; obtain rfl := h0.symm) | (go_at_call_of 23 (Value.int .i64 (rcode a)); refine (named_reason L a).mono ?_; rintro e w1 ⟨rfl, hb1⟩) | (go_at_call_of 28 (Value.int .i64 b); refine (reason_any b _ HR.out.2.1.1 HR.out.2.1.2).mono ?_; rintro e w0 ⟨rfl, h0⟩; obtain rfl := h0.symm) | (go_at_call_of 23 (Value.int .i64 (rcode b)); refine (named_reason (L.below hb1) b).mono ?_; rintro e w2 ⟨rfl, hb2⟩) | (go_at_call_of 28 (Value.int .i64 c); refine (reason_any c _ HR.out.2.2.1 HR.out.2.2.2).mono ?_; rintro e w0 ⟨rfl, h0⟩; obtain rfl := h0.symm) | (go_at_call_of 23 (Value.int .i64 (rcode c)); refine (named_reason ((L.below hb1).below hb2) c).mono ?_; rintro e w3 ⟨rfl, hb3⟩))
  have hb13 := bgo (bgo hb1 hb2) hb3
  have L3 := L.below hb13
  refine (join_three (ad := ad) w3.heap.size (rplace a) (rplace b) (rplace c) _ (heap_alloc_last _ _)).mono ?_
  rintro e w4 ⟨mb, lg, cap, rfl, hM4, hmb, hlg, hb4⟩
  have hA : Below w3.heap.size w3 (w3.alloc (.cells #[.iface 131 (.pointer (some (ad (rplace a)))), .iface 131 (.pointer (some (ad (rplace b)))), .iface 131 (.pointer (some (ad (rplace c))))] 26)) := below_one _ _
  have hsz : (w3.alloc (.cells #[.iface 131 (.pointer (some (ad (rplace a)))), .iface 131 (.pointer (some (ad (rplace b)))), .iface 131 (.pointer (some (ad (rplace c))))] 26)).heap.size = w3.heap.size + 1 := by simp
  have HS : Aside (w3.heap.size + 1 ≤ mb ∧ w3.heap.size + 1 ≤ lg) := by rw [← hsz]; exact ⟨hmb, hlg⟩
  have hG4 : w4.heap[w3.heap.size]? = some (.cells #[.iface 131 (.pointer (some (ad (rplace a)))), .iface 131 (.pointer (some (ad (rplace b)))), .iface 131 (.pointer (some (ad (rplace c))))] 26 (0, 0)) := by
    rw [hb4.block _ (by rw [hsz]; omega)]; exact heap_alloc_last _ _
  have hb34 : Below w3.heap.size w3 w4 := bgo hA hb4
  clear hmb hlg hsz hA hb4
  have L4 := L3.below hb34
  go_wp2_with (go_at_call 29; refine (text_many L4 HK.out HK3.out hM4).mono ?_)
  rintro e w5 ⟨rfl, hb5⟩
  have hM5 := hM4.below hb5
  have hGlt : w3.heap.size < w4.heap.size := (Array.getElem?_eq_some_iff.1 hG4).1
  have hG5 : w5.heap[w3.heap.size]? = some (.cells #[.iface 131 (.pointer (some (ad (rplace a)))), .iface 131 (.pointer (some (ad (rplace b)))), .iface 131 (.pointer (some (ad (rplace c))))] 26 (0, 0)) := by rw [hb5.block _ hGlt]; exact hG4
  have c0 : w5.cell? ⟨w3.heap.size, 0, none⟩ = some (.iface 131 (.pointer (some (ad (rplace a))))) := by rw [cell_of_heap hG5]; rfl
  have c2 : w5.cell? ⟨w3.heap.size, 2, none⟩ = some (.iface 131 (.pointer (some (ad (rplace c))))) := by rw [cell_of_heap hG5]; rfl
  have cf : ∀ i, w5.frozen? ⟨w3.heap.size, i, none⟩ = false := fun i => frozen_of_heap hG5 i
  have L5 := L4.below hb5
  have hE5 : (w5.setCell ⟨w3.heap.size, 0, none⟩ .nilIface).cell? ⟨0, 0, none⟩ = some (.iface 131 (.pointer (some (ad 13)))) := by
    rw [World.cell?_of_block (w := w5) (Below.heap_setCell w5 ⟨w3.heap.size, 0, none⟩ .nilIface 0 (by have := L3.size; show 0 ≠ w3.heap.size; omega))]
    exact L5.var 13 (by decide)
  have hb35 := bgo hb34 hb5
  clear hG4 hG5 hb34 hb5 hM4
  have hst : Below w3.heap.size w5 ((w5.setCell ⟨w3.heap.size, 0, none⟩ .nilIface).setCell ⟨w3.heap.size, 2, none⟩ (.iface 131 (.pointer (some (ad 13))))) := ((Below.refl w3.heap.size w5).setCell (p := ⟨w3.heap.size, 0, none⟩) (Nat.le_refl w3.heap.size) _).setCell (p := ⟨w3.heap.size, 2, none⟩) (Nat.le_refl w3.heap.size) _
  have hM6 : ManyAt mb lg cap (rvals ad [rplace a, rplace b, rplace c]) ((w5.setCell ⟨w3.heap.size, 0, none⟩ .nilIface).setCell ⟨w3.heap.size, 2, none⟩ (.iface 131 (.pointer (some (ad 13))))) :=
    (hM5.set _ 0 _ (by have := HS.out; omega) (by have := HS.out; omega)).set _ 2 _ (by have := HS.out; omega) (by have := HS.out; omega)
  have hb36 : Below w3.heap.size w3 ((w5.setCell ⟨w3.heap.size, 0, none⟩ .nilIface).setCell ⟨w3.heap.size, 2, none⟩ (.iface 131 (.pointer (some (ad 13))))) := hb35.trans hst
  go_wp2_with (go_at_call 30; refine (unwrap_many hM6 (rvals_one _ _) (by simp [rvals])).mono ?_)
  rintro e w7 ⟨v7, rfl, ho7, hne7, hb7⟩
  obtain ⟨g7, cap7, hv7, hg7, hl7, hc7, hf7⟩ := owns3 ho7 rfl hne7
  rw [hv7]
  have d1 : w7.cell? ⟨g7, 1, none⟩ = some (.iface 131 (.pointer (some (ad (rplace b))))) := hc7 1 _ rfl
  have hM7 := hM6.below hb7
  have hlt6 := hM6.lt
  have hM8 : ManyAt mb lg cap (rvals ad [rplace a, rplace b, rplace c]) (w7.setCell ⟨g7, 1, none⟩ .nilIface) := hM7.set _ 1 _ (by omega) (by omega)
  have hb37 : Below w3.heap.size w3 w7 := bgo hb36 hb7
  have hb38 : Below w3.heap.size w3 (w7.setCell ⟨g7, 1, none⟩ .nilIface) := hb37.setCell (p := ⟨g7, 1, none⟩) (by have := hb36.size; show w3.heap.size ≤ g7; omega) _
  clear hv7 hc7 ho7 hne7 hst hE5 c0 c2 cf hM5 hM6 hM7 hb7 hb36 hb35 hlt6
  go_wp2_with (go_at_call 30; refine (unwrap_many hM8 (rvals_one _ _) (by simp [rvals])).mono ?_)
  rintro e w9 ⟨v9, rfl, ho9, hne9, hb9⟩
  obtain ⟨g9, cap9, hv9, hg9, hl9, hc9, hf9⟩ := owns3 ho9 rfl hne9
  rw [hv9]
  have hM9 := hM8.below hb9
  have hb39 : Below w3.heap.size w3 w9 := bgo hb38 hb9
  have L9 := L3.below hb39
  have HL : ∀ s : Wld w9, Laid ad (wOf s) := fun s => L9.below (wOf_below s)
  have HM : ∀ s : Wld w9, ManyAt mb lg cap (rvals ad [rplace a, rplace b, rplace c]) (wOf s) := fun s => hM9.below (wOf_below s)
  have hc : ∀ s : Wld w9, (wOf s).cell? ⟨g9, 1, none⟩ = some (.iface 131 (.pointer (some (ad (rplace b))))) := fun s => by
    rw [(wOf_below s).cell (p := ⟨g9, 1, none⟩) hl9]; exact hc9 1 _ rfl
  clear hv9 hc9 ho9 hne9 hM8 hM9 hb38 hb37 hf7 hf9 d1
  go_wp2
  refine wp_region_cls (by kernel_rfl) (by kernel_rfl) ?_
  repeat (go_big_quiet_step (first | (go_at_call 29; exact cls_of (text_many (HL _) HK.out HK3.out (HM _))) | (go_at_call 28; exact cls_of_same (reason_any b _ HR.out.2.1.1 HR.out.2.1.2)) | (go_at_call 23; exact cls_of (named_reason (HL _) b)) | (go_at_call 21; exact cls_of_same (same_rsn _ _)) | (go_at_call 14; exact cls_of (wakes_ok (HL _)))))
  refine wpQuiet_nil ?_
  rintro w' ⟨s, rfl⟩
  have hbs := wOf_below s
  clear HL HM hc
  go_wp2
  go_ret
  exact ⟨rfl, bgo hb13 (bgo hb39 hbs)⟩
end Go.Proofs.YthbnhecellbncaaDoor
