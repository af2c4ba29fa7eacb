
/-
  barrowlaw10.BagNames.
-/
import Derived.Test.YtbjbihgfkcnmbaaDoorBg8
namespace Go.Proofs.YtbjbihgfkcnmbaaDoor
open Go.RowKit Go.Extern.Stop Go.Stop Go.Extern
set_option maxRecDepth 100000

/-- The document's refusal. -/
theorem say_is (c : ByteArray) (i : Int) (k : Nat) (w : World) :
    Calls Tryd.prog 28 #[.string bBag, .string c, .int .i64 i, .int .i64 ((k : Int) + 1)] w fun e w' => ∃ v, e = .returned v ∧ NoR w.heap.size (some (c, i, k)) v w' ∧ Below w.heap.size w w' :=
  (say_any bBag c i ((k : Int) + 1) w (by rw [beq_eq_false_iff_ne]; omega)).mono fun _ _ ⟨g, g', h1, h2, h3, h4, h5, h6⟩ => ⟨_, h1, ⟨g, g', rfl, h3, h2, h4, h5⟩, h6⟩
set_option maxHeartbeats 2000000 in
theorem bagNames_all {ad : Nat → Addr} {w : World} (L : Laid ad w) :
    Calls Tryd.prog 7 #[] w fun e w' => e = .returned (.bool true) ∧ Below w.heap.size w w' := by
  have HN := hid_of' (new_ok 4096 (by decide) (by decide) w)
  have HO := hid_of' (fun w1 (hb : Below w.heap.size w w1) => new_no (ad := ad) 4097 (.inr (by decide)) w1 (L.below hb).lb)
  have HS := hid_of' (fun x => say_is bNew 4097 0 x)
  have HW := hid_of' wakes10_ok
  have HL := hid_of' L
  clear L
  go_enter Tryd.func7, Tryd.ntmps7
  go_wp2_with (first | (go_at_call_of 8 (Value.int .i64 4096); refine HN.out.mono ?_; rintro e w1 ⟨rfl, hg1, hb1⟩; clear HN hg1; have H1 := hid_of' hb1; clear hb1) | (go_at_call 8; refine (HO.out _ H1.out).mono ?_; rintro e w2 ⟨u, rfl, he2, hb2⟩; clear HO; have H2 := hid_of' (And.intro he2 (bgo H1.out hb2)); clear he2 hb2) | (go_at_call 28; refine (HS.out _).mono ?_; rintro e w3 ⟨n, rfl, hn3, hb3⟩; clear HS; have H3 := hid_of' (And.intro (H2.out.1.later hb3) (And.intro hn3 (bgo H2.out.2 hb3))); clear hn3 hb3) | (go_at_call 10; refine (refused_is (HL.out.below H3.out.2.2) H3.out.1 H3.out.2.1).mono ?_; rintro e w4 ⟨rfl, hb4⟩; have H4 := hid_of' (bgo H3.out.2.2 hb4); clear hb4) | (go_at_call 11; refine (HW.out _).mono ?_; rintro e w5 ⟨rfl, hb5⟩))
  go_ret
  exact ⟨rfl, bgo H4.out hb5⟩
end Go.Proofs.YtbjbihgfkcnmbaaDoor
