
/-
  The reasons that a reading refuses for are of the listed ones. barrowref09.Kind; what both sides answer to the same bytes.
-/
import Derived.Test.YtpkblfhkblllhaaGreatDoorRP14
import Derived.Test.YtpkblfhkblllhaaGreatDoorRP32
import Derived.Test.YtpkblfhkblllhaaGreatDoorRP31
import Derived.Test.YtpkblfhkblllhaaGreatDoorRP34
import Derived.Test.YtpkblfhkblllhaaGreatDoorRP50
import Derived.Test.YtpkblfhkblllhaaGreatDoorRP51
namespace Go.Proofs.YtpkblfhkblllhaaGreatDoor

def C13 {α : Type} (p : Prs α) : Prop := ∀ bs pl c x k, p bs pl = .error (.wire c x k) → k < 13
theorem c13_pure {α : Type} (z : α) : C13 (pPure z) := fun _ _ _ _ _ h => by cases h
theorem c13_seq {α β : Type} {p : Prs α} {q : α → Prs β} (hp : C13 p) (hq : ∀ a, C13 (q a)) : C13 (pSeq p q) := fun bs pl c x k h => by
  cases h1 : p bs pl with
  | error e => rw [pSeq_err h1] at h; cases h; exact hp _ _ _ _ _ h1
  | ok y =>
    obtain ⟨a, k1⟩ := y
    cases h2 : q a bs k1 with
    | error e => rw [pSeq_err2 h1 h2] at h; cases h; exact hq a _ _ _ _ _ h2
    | ok y => obtain ⟨b, k2⟩ := y; rw [pSeq_ok h1 h2] at h; cases h
theorem c13_map {α β : Type} {g : α → β} {p : Prs α} (hp : C13 p) : C13 (pMap g p) := fun bs pl c x k h => by
  cases h1 : p bs pl with
  | error e => rw [pMap_err h1] at h; cases h; exact hp _ _ _ _ _ h1
  | ok y => obtain ⟨a, k1⟩ := y; rw [pMap_ok h1] at h; cases h
theorem c13_ite {α : Type} {c : Prop} [Decidable c] {p q : Prs α} (h1 : C13 p) (h2 : C13 q) : C13 (if c then p else q) := by
  by_cases hc : c
  · simp only [if_pos hc]; exact h1
  · simp only [if_neg hc]; exact h2
theorem c13_num (most : Int) : C13 (pNum most) := fun bs pl c x k h => by
  unfold pNum at h
  cases hr : numR (bs.drop pl) most with
  | error e => rw [hr] at h; cases h; rcases numR_err hr with rfl | rfl | rfl <;> decide
  | ok y => obtain ⟨a, b⟩ := y; rw [hr] at h; cases h
theorem c13_nz (most : Int) : C13 (pNz most) := fun bs pl c x k h => by
  unfold pNz at h
  cases hr : pNum most bs pl with
  | error e => rw [hr] at h; cases h; exact c13_num most _ _ _ _ _ hr
  | ok y => obtain ⟨a, b⟩ := y; rw [hr] at h; dsimp only at h; split at h <;> cases h
theorem c13_entry (most : Int) (last : Bool) : C13 (pEntry most last) := by
  cases last
  · exact c13_num most
  · exact c13_nz most
theorem c13_kind (last : Int) : C13 (pKind last) := fun bs pl c x k h => by
  unfold pKind at h
  cases hd : bs.drop pl with
  | nil => rw [hd] at h; simp only [byteR] at h; cases h; decide
  | cons b r => rw [hd] at h; simp only [byteR] at h; split at h <;> cases h
theorem c13_cnt : C13 pCnt := fun bs pl c x k h => by
  unfold pCnt at h
  cases hr : cntR (bs.drop pl) 4 2147483647 with
  | error e =>
    rw [hr] at h
    cases h
    unfold cntR at hr
    cases hn : numR (bs.drop pl) 2147483647 with
    | error e' => rw [hn] at hr; cases hr; rcases numR_err hn with rfl | rfl | rfl <;> decide
    | ok y =>
      obtain ⟨a, b⟩ := y
      rw [hn] at hr
      dsimp only at hr
      split at hr <;> (try split at hr) <;> first | (cases hr; decide) | cases hr
  | ok y => obtain ⟨a, b⟩ := y; rw [hr] at h; cases h
theorem c13_many {α : Type} {p : Bool → Prs α} (hp : ∀ b, C13 (p b)) : ∀ n, C13 (pMany p n)
  | 0 => c13_pure _
  | n + 1 => by unfold pMany; exact c13_map (c13_seq (hp _) fun _ => c13_many hp n)
theorem c13_times {α : Type} {p : Prs α} (hp : C13 p) : ∀ n, C13 (pTimes p n)
  | 0 => c13_pure _
  | n + 1 => by unfold pTimes; exact c13_map (c13_seq hp fun _ => c13_times hp n)
theorem c13_rowG {α : Type} {p : Bool → Prs α} (hp : ∀ b, C13 (p b)) (z : α) : C13 (pRowG z p) := c13_map (c13_seq (c13_num 8) fun _ => c13_many hp _)
theorem c13_row (most : Int) : C13 (pRow most) := c13_rowG (c13_entry most) 0
theorem c13_msg : C13 pMsg :=
  c13_seq (c13_kind 4) fun _k => c13_seq (c13_num 7) fun _ => c13_seq (c13_num mx63) fun _ =>
    c13_seq (c13_ite (c13_row mx63) (c13_pure _)) fun _ => c13_seq (c13_ite (c13_map (c13_seq c13_cnt fun _ => c13_times (c13_seq (c13_seq (c13_kind 3) fun _ => c13_seq (c13_num 7) fun _ => c13_seq (c13_num mx63) fun _ => c13_ite (c13_num _) (c13_pure _)) fun _ => c13_seq (c13_nz mx63) fun _ => c13_row mx63) _)) (c13_pure _)) fun _ =>
      c13_ite (c13_rowG (fun last => c13_seq (c13_entry mx63 last) fun _ => c13_ite (c13_pure _) (c13_seq (c13_row mx63) fun _ => c13_seq (c13_row 2) fun _ => c13_num 2)) _) (c13_pure _)
theorem readM_c13 {bs : List UInt8} {c : ByteArray} {p k : Nat} (h : readM bs = .error (.wire c p k)) : k < 13 := by
  cases h1 : pMsg bs 0 with
  | error e => rw [readM_err h1] at h; cases h; exact c13_msg _ _ _ _ _ h1
  | ok y =>
    obtain ⟨m, q⟩ := y
    cases h2 : endR (bs.drop q) with
    | error c' =>
      rw [readM_end h1 h2] at h
      cases hd : bs.drop q with
      | nil => rw [hd] at h2; cases h2
      | cons b r => rw [hd] at h2; cases h2; cases h; decide
    | ok u => rw [readM_ok h1 h2] at h; cases h
end Go.Proofs.YtpkblfhkblllhaaGreatDoor
namespace Go.Proofs.YtpkblfhkblllhaaGreatDoor
open Go.RowKit Go.Extern.Stop Go.Stop Go.Extern
set_option maxRecDepth 100000

theorem lwOf {ad : Nat → Addr} {w : World} (L : Laid ad w) : Lw ad w := by
  refine ⟨fun k hk => ?_, ?_⟩
  · rcases hk with rfl | rfl | rfl | rfl
    · exact L.var 0 (by decide)
    · exact L.var 1 (by decide)
    · exact L.var 5 (by decide)
    · exact L.var 6 (by decide)
  · have h0 := lt_of_cell (L.var 0 (by decide))
    have h1 := lt_of_cell (L.var 1 (by decide))
    have h5 := lt_of_cell (L.var 5 (by decide))
    have h6 := lt_of_cell (L.var 6 (by decide))
    simp only [gix] at h0 h1 h5 h6
    omega
theorem refKind_is {w : World} {v : Value} {bs : List UInt8} (h : SlB w v bs) :
    Calls Tryz.prog 12 #[v] w fun e w' => e = .returned (.int .i64 (kindB bs)) ∧ w' = w := by
  cases bs with
  | nil =>
    obtain ⟨a, c, rfl⟩ : ∃ a c, v = .slice a 0 c := by
      rcases h with ⟨_, a, c, rfl⟩ | ⟨g, o, c, rfl, _⟩
      · exact ⟨a, c, rfl⟩
      · exact ⟨_, c, rfl⟩
    go_enter Tryz.func12, Tryz.ntmps12
    go_wp2
    go_ret
    exact ⟨rfl, rfl⟩
  | cons b r =>
    rcases h with ⟨h, _⟩ | ⟨g, o, c, rfl, hg, hc⟩
    · cases h
    · have c0 : w.cell? ⟨g, o, none⟩ = some (.int .u8 b.toNat) := by have := hc 0 b rfl; rwa [Nat.add_zero] at this
      have hw := wrap_small b.toNat_lt
      have hl0 : (((b :: r).length : Int) == 0) = false := by simp only [List.length_cons]; exact beq_false_of_ne (by omega)
      have hl1 : (0 : Int) < ((b :: r).length : Int) := by simp only [List.length_cons]; omega
      have HV := hid_of' (show kindB (b :: r) = if oneB (b.toNat : Int) 4 then (b.toNat : Int) else 0 from rfl)
      clear hc
      generalize (b :: r).length = n at *
      generalize kindB (b :: r) = z at *
      by_cases h1 : (b.toNat : Int) < 1
      · have HO := hid_of' (show oneB (b.toNat : Int) 4 = false by simp [oneB]; omega)
        go_enter Tryz.func12, Tryz.ntmps12
        go_wp2
        go_ret
        exact ⟨by rw [HV.out, if_neg (by rw [HO.out]; decide)]; rfl, rfl⟩
      · by_cases h2 : (4 : Int) < (b.toNat : Int)
        · have HO := hid_of' (show oneB (b.toNat : Int) 4 = false by simp [oneB]; omega)
          go_enter Tryz.func12, Tryz.ntmps12
          go_wp2
          go_ret
          exact ⟨by rw [HV.out, if_neg (by rw [HO.out]; decide)]; rfl, rfl⟩
        · have HO := hid_of' (show oneB (b.toNat : Int) 4 = true by simp [oneB]; omega)
          go_enter Tryz.func12, Tryz.ntmps12
          go_wp2
          go_ret
          exact ⟨by rw [HV.out, if_pos HO.out]; rfl, rfl⟩
/-- What is read of bytes: the message, or the zero one. -/
def mOf (bs : List UInt8) : Pms := match readM bs with | .ok m => m | .error _ => zM
/-- The error of the program's Read. -/
def ErrQ (ad : Nat → Addr) (bs : List UInt8) (err : Value) (w : World) : Prop := match readM bs with
  | .ok _ => err = .nilIface
  | .error x => ∃ f, err = refv f ∧ PeAt ad x f w
theorem ErrQ.later {ad : Nat → Addr} {bs : List UInt8} {err : Value} {w w' : World} (h : ErrQ ad bs err w) (hb : Below w.heap.size w w') : ErrQ ad bs err w' := by
  unfold ErrQ at h ⊢
  split
  · rename_i hr; rw [hr] at h; exact h
  · rename_i x hr
    rw [hr] at h
    obtain ⟨f, h1, h2⟩ := h
    exact ⟨f, h1, h2.kept (S := []) (.of hb) (by simp)⟩
theorem own_rw {base : Nat} {v : Value} {l : List Pac} {w : World} (h : OwnA base v l w) : Rw 76 13 v l.length (acsl l) w := by
  refine ⟨h.1, ?_⟩
  rcases h.2 with q | ⟨g, cap, cur, hv, _, hg, h1, h2, h3, h4⟩
  · exact .inl q
  · exact .inr ⟨g, cap, cur, hv, hg, h1, h2, Nat.le_of_eq h3.symm, h4⟩
theorem rw_slA {v : Value} {l : List Pac} {w : World} (h : Rw 76 13 v l.length (acsl l) w) (hs : ∀ a ∈ l, shA a) : SlA w v l := by
  obtain ⟨a, c, rfl, _, _⟩ := h.form
  by_cases hl : l = []
  · subst hl
    exact .inl ⟨rfl, _, _, rfl⟩
  · obtain ⟨g, rfl⟩ : ∃ g, a = some ⟨g, 0, none⟩ := by
      rcases h.2 with ⟨_, q2⟩ | ⟨g', _, _, q1, _⟩
      · exact absurd (List.length_eq_zero_iff.1 q2) hl
      · simp only [Value.slice.injEq] at q1
        exact ⟨g', q1.1⟩
    have hg := h.lt g rfl
    refine .inr ⟨g, 0, c, rfl, hg, fun i a ha => ⟨hg, fun j v hv => ?_⟩⟩
    have := h.cells (i * 13 + j) v (acells_at l hs i a ha j v hv)
    rwa [← Nat.add_assoc] at this
theorem ReadQ.an {ad : Nat → Addr} {bs : List UInt8} {w : World} {e : Ending} {w' : World} (h : ReadQ ad bs w e w') : ∃ s err, e = .returned (.tuple #[.agg (mv (mOf bs) s), err]) ∧ ErrQ ad bs err w' ∧ Rw 76 13 s (mOf bs).2.2.2.2.1.length (acsl (mOf bs).2.2.2.2.1) w' ∧ (∀ k, s.ownBlock = some k → w.heap.size ≤ k) ∧ shM (mOf bs) ∧ Below w.heap.size w w' := by
  cases hr : readM bs with
  | ok m =>
    obtain ⟨hb, s, rfl, ho, hs⟩ := h.ok hr
    have e1 : mOf bs = m := by unfold mOf; rw [hr]
    rw [e1]
    exact ⟨s, _, rfl, by unfold ErrQ; rw [hr], own_rw ho, fun k hk => (ho.lt k hk).1, hs, hb⟩
  | error x =>
    obtain ⟨hb, f, hf, rfl, hx⟩ := h.err hr
    have e1 : mOf bs = zM := by unfold mOf; rw [hr]
    rw [e1]
    exact ⟨_, _, rfl, by unfold ErrQ; rw [hr]; exact ⟨f, rfl, hx⟩, Rw.nil _ _ _, (fun k hk => absurd hk (by simp [Value.ownBlock])), shM_z, hb⟩
theorem RrQ.an {bs : List UInt8} {w : World} {e : Ending} {w' : World} (h : RrQ bs w e w') : ∃ s no, e = .returned (.tuple #[.agg (mv (mOf bs) s), .agg no]) ∧ NoQ (PS.all bs).2 (.agg no) w' ∧ Rw 76 13 s (mOf bs).2.2.2.2.1.length (acsl (mOf bs).2.2.2.2.1) w' ∧ (∀ k, s.ownBlock = some k → w.heap.size ≤ k) ∧ shM (mOf bs) ∧ Below w.heap.size w w' := by
  obtain ⟨m, s, no, rfl, h1, h2, h3, h4, h5, h6⟩ := h
  have hm : m = mOf bs := by
    have ha := all_is bs
    rw [h6]
    unfold mOf
    cases hr : readM bs with
    | ok m' => rw [hr] at ha; rw [ha.2]; exact ha.1
    | error x =>
      rw [hr] at ha
      cases x with
      | form p => rw [show (PS.all bs).2.bad = true by simp [PS.bad, show (PS.all bs).2.wf = some p from ha]]; rfl
      | wire c p k => rw [show (PS.all bs).2.bad = true by simp [PS.bad, show (PS.all bs).2.st = some (c, p, k) from ha.2.1]]; rfl
  rw [← hm]
  exact ⟨s, no, rfl, h1, h4, h5, h3, h2⟩
theorem rw_sl {e : TypeId} {size n : Nat} {a : Option Addr} {c : Nat} {xs : List Value} {w : World} (h : Rw e size (.slice a n c) n xs w) : SlAt w (.slice a n c) size n xs := by
  refine ⟨h.1, ?_⟩
  rcases h.2 with ⟨hv, hn⟩ | ⟨g, cap, cur, hv, hg, _⟩
  · subst hn; exact .inl ⟨rfl, a, c, rfl⟩
  · cases hv
    exact .inr ⟨g, 0, c, rfl, (Array.getElem?_eq_some_iff.1 hg).1, fun j u hu => h.cells j u hu⟩
set_option maxHeartbeats 1000000 in
theorem refused_same {ad : Nat → Addr} {bs : List UInt8} {err : Value} {no : Array Value} {w : World} (L : Laid ad w) (hq : NoQ (PS.all bs).2 (.agg no) w) (he : ErrQ ad bs err w) :
    Calls Tryz.prog 10 #[err, .agg no] w fun e w' => e = .returned (.bool true) ∧ Below w.heap.size w w' := by
  have ha := all_is bs
  unfold ErrQ at he
  generalize PS.all bs = z at ha hq
  obtain ⟨m, pl, st, wf⟩ := z
  cases hr : readM bs with
  | ok m' =>
    rw [hr] at ha he
    obtain ⟨rfl, rfl⟩ : st = none ∧ wf = none := PS.good ha.2
    subst he
    cases (show Value.agg no = _ from hq)
    exact refused_none _ _ _ _ _ _ _
  | error x =>
    rw [hr] at ha he
    obtain ⟨f, rfl, hx⟩ := he
    cases x with
    | form p =>
      obtain rfl : wf = some p := ha
      obtain ⟨g, g', h1, h2, h3⟩ := hq
      cases h1
      have hS : ∀ x, Below w.heap.size w x → Spine ad x.heap.size x (.fault f nmPacket nmRead (p : Int) (.rsn 5)) := fun x hb => by
        have hx' := hb.block f (Array.getElem?_eq_some_iff.1 hx).1
        exact ⟨Nat.lt_of_lt_of_le (Array.getElem?_eq_some_iff.1 hx).1 hb.size, hx'.trans hx, (by intro e; cases e), (show (5 : Nat) < 14 by decide)⟩
      have hT := tells_of L (e := .fault f nmPacket nmRead (p : Int) (.rsn 5)) (b := f) (k := 5) (by intro b g c l h; cases h) hS rfl (by intro h; cases h) rfl (by simp [deep])
      exact refused_err (a := some ⟨g', 0, none⟩) (c := 1) (a' := some ⟨g, 0, none⟩) (c' := 1) hT (by simp [chn]) ⟨rfl, .inr ⟨g', 0, 1, rfl, h2.lt, fun j u hu => (by rw [show lcells (chn (.fault f nmPacket nmRead (p : Int) (.rsn 5))) = [.string nmPk, .string nmRd, .int .i64 (p : Int)] from rfl] at hu; rw [Nat.zero_add, h2.cell]; simpa using hu)⟩⟩ ⟨rfl, .inr ⟨g, 0, 1, rfl, h3.lt, fun j u hu => (by rw [Nat.zero_add, h3.cell]; simpa [ints] using hu)⟩⟩
    | wire c p k =>
      obtain ⟨hw, hst, hpl⟩ := ha
      dsimp only at hw hst hpl
      subst hw hst hpl
      obtain ⟨g, ra, rc, h1, h2, h3⟩ := hq
      cases h1
      obtain ⟨f2, hx1, hx2⟩ := hx
      have hk : k < 13 := readM_c13 hr
      have hS : ∀ x, Below w.heap.size w x → Spine ad x.heap.size x (.fault f nmPacket nmRead (pl : Int) (.fault f2 nmWire c (pl : Int) (.rsn k))) := fun x hb => by
        have l1 := (Array.getElem?_eq_some_iff.1 hx1).1
        have l2 := (Array.getElem?_eq_some_iff.1 hx2).1
        exact ⟨Nat.lt_of_lt_of_le l1 hb.size, (hb.block f l1).trans hx1, (by intro e; cases e), Nat.lt_of_lt_of_le l2 hb.size, (hb.block f2 l2).trans hx2, (by intro e; cases e), (show k < 14 by omega)⟩
      have hT := tells_of L (e := .fault f nmPacket nmRead (pl : Int) (.fault f2 nmWire c (pl : Int) (.rsn k))) (b := f) (k := k) (by intro b g c l h; cases h) hS rfl (by intro h; cases h) (by simp [cds, hk]) (by simp [deep])
      exact refused_err (a := ra) (c := rc) (a' := some ⟨g, 0, none⟩) (c' := 1) hT (by simp [chn]) (rw_sl h2) ⟨rfl, .inr ⟨g, 0, 1, rfl, h3.lt, fun j u hu => (by rw [Nat.zero_add, h3.cell]; simpa [ints] using hu)⟩⟩
theorem message_same {bs : List UInt8} {s t : Value} {w : World} (hs : shM (mOf bs)) (h1 : Rw 76 13 s (mOf bs).2.2.2.2.1.length (acsl (mOf bs).2.2.2.2.1) w) (h2 : Rw 76 13 t (mOf bs).2.2.2.2.1.length (acsl (mOf bs).2.2.2.2.1) w) (hn : (mOf bs).2.2.2.2.1.length ≤ 1000000) :
    Calls Tryz.prog 11 #[.agg (mv (mOf bs) s), .agg (mv (mOf bs) t)] w fun e w' => e = .returned (.bool true) ∧ Below w.heap.size w w' :=
  messageK_is (by simp) s t w hs hs (rw_slA h1 hs.2.1) (rw_slA h2 hs.2.1) hn
end Go.Proofs.YtpkblfhkblllhaaGreatDoor
