/-
  clock.Parse where the reasons are laid.
-/
import Derived.Test.YtcfefgcibdpmeaaDoorCkRefPar
import Derived.Test.YtcfefgcibdpmeaaDoorCkTk
namespace Go.Proofs.YtcfefgcibdpmeaaDoor
open Go.RowKit Go.Extern.Stop Go.Stop Go.Extern
set_option maxRecDepth 100000

/-- A Fault of Parse at p, in a block from m on. -/
def PF (ad : Nat → Addr) (m : Nat) (p : Int) (fv : Value) (x : World) : Prop := ∃ b, m ≤ b ∧ fv = .iface 101 (.pointer (some ⟨b, 0, none⟩)) ∧ FaultAt ad b bClk bParse (place p) 5 x
theorem parse_laid {ad : Nat → Addr} (s : ByteArray) (w : World) (L : Laid ad w) (hs : s.size ≤ 140737488355328) :
    Calls Tryd.prog 8 #[.string s] w fun e w' => ∃ v, e = .returned v ∧ PA (PF ad (w.heap.size + 2)) (refP s.data.toList 0 0 0 ck0) v w' ∧ Below w.heap.size w w' := by
  rw [← par_ref0]
  refine parse_any (PF ad (w.heap.size + 2)) (.iface 205 (.pointer (some (ad 5)))) s w hs (fun x hb => (L.below hb).var 5 (by decide)) (fun p x hb hz => (newF (ad := ad) bClk bParse p 5 x).mono ?_) ?_
  · rintro e x' ⟨rfl, hf, hb2⟩
    exact ⟨_, rfl, ⟨_, hz, rfl, hf⟩, hb2⟩
  · rintro p fv x g cs _ ⟨b, h1, rfl, h2⟩ h3 _
    refine ⟨b, h1, rfl, ?_⟩
    have e : (x.setRow g cs).heap[b]? = x.heap[b]? := setRow_other x _ _ _ (by omega)
    exact e.trans h2
end Go.Proofs.YtcfefgcibdpmeaaDoor
