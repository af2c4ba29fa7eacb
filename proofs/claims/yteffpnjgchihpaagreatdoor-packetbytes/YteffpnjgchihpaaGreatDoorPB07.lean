
/-
  fault.Chain and fault.First of an error without a Many. Numbers as bytes, and back: what the program's loops work out, in plain lists. What the walks over package wire share: what stays in memory, the reasons' variables, a Reader and a Writer in memory.
-/
import Derived.Test.YteffpnjgchihpaaGreatDoorPB06
import Derived.Test.YteffpnjgchihpaaGreatDoorProg
import Derived.WalkKit
import Derived.WalkSpells
import Derived.WalkLawsBesides
import Derived.LaidEql
import Derived.LaidEqlPtr
import Derived.Defers
import Derived.Recover
import Derived.Lib.AppendStr
import Derived.Lib.UnsafeStr
import Derived.Deep.LoopGhost
import Derived.BigQuiet
namespace Go.Proofs.YteffpnjgchihpaaGreatDoor
open Go.RowKit Go.Extern.Stop Go.Stop Go.Extern
set_option maxRecDepth 100000

set_option maxHeartbeats 400000 in
/-- (*Fault).link. -/
theorem link_any {b : Nat} {la ca : ByteArray} {at_ : Int} {y : Value} {w : World} (hf : w.heap[b]? = some (.cells #[.string la, .string ca, .int .i64 at_, y] 87 (0, 0))) :
    Calls Tryz.prog 56 #[.pointer (some ⟨b, 0, none⟩)] w fun e w' => e = .returned (.agg #[.string la, .string ca, .int .i64 at_]) ∧ Below w.heap.size w w' := by
  have c0 : w.cell? ⟨b, 0, none⟩ = some (.string la) := by rw [cell_of_heap hf]; rfl
  have c1 : w.cell? ⟨b, 1, none⟩ = some (.string ca) := by rw [cell_of_heap hf]; rfl
  have c2 : w.cell? ⟨b, 2, none⟩ = some (.int .i64 at_) := by rw [cell_of_heap hf]; rfl
  have hlt : b < w.heap.size := (Array.getElem?_eq_some_iff.1 hf).1
  have hne : ¬ b = w.heap.size := by omega
  clear hf
  go_enter Tryz.func56, Tryz.ntmps56
  go_wp2
  go_region
  all_goals go_wp2
  exact bodyPost_ret (v := .agg #[.string la, .string ca, .int .i64 at_]) (by simp [results, Tryz.results56, go_sem]) rfl ⟨rfl, (below_oneE _ _).drew⟩

/-- P1.5: the places on the first way, of an error without a Many. -/
def chn : ErrT → List Lnk
  | .fault _ la ca at_ why => ⟨la, ca, at_⟩ :: chn why
  | _ => []

theorem chn_len (e : ErrT) : (chn e).length = deep e := by
  induction e using ErrT.rec (motive_2 := fun _ => True) with
  | none => rfl
  | rsn k => rfl
  | fault b la ca a y ih => simp [chn, deep, ih]
  | many b g c l _ => rfl
  | nil => trivial
  | cons _ _ _ _ => trivial

theorem info_link : (Tryz.prog.info? 104).map (fun i => (i.zero, i.size, i.bytes)) = some (some (.agg #[.string ⟨#[]⟩, .string ⟨#[]⟩, .int .i64 0]), 3, 40) := by kernel_rfl

theorem cell_three_new (w : World) (a b c : Value) (t : TypeId) : ∀ j u, [a, b, c][j]? = some u → (w.alloc (.cells #[a, b, c] t)).cell? ((⟨w.heap.size, 0, none⟩ : Addr).add j) = some u := by
  intro j u hu
  match j, hu with
  | 0, hu => simp at hu; subst hu; simp [Addr.add]
  | 1, hu => simp at hu; subst hu; simp [Addr.add]
  | 2, hu => simp at hu; subst hu; simp [Addr.add]
  | n + 3, hu => simp at hu

theorem owns_below {w w' : World} {B : Nat} {e : TypeId} {size n : Nat} {v : Value} {xs : List Value} (h : w.ownsRow B e size v n xs) (hb : Below w.heap.size w w') : w'.ownsRow B e size v n xs :=
  h.kept (row := none) ⟨hb.os, hb.tape, hb.output, hb.size, fun k hk _ => hb.block k hk⟩ (by cases hv : v.ownBlock <;> simp)

set_option maxHeartbeats 2000000 in
theorem chain_plain {ad : Nat → Addr} {w : World} (L : Laid ad w) (e : ErrT) (hp : Plain e) (hS : Spine ad w.heap.size w e) (hd : deep e ≤ 100000) :
    Calls Tryz.prog 37 #[val ad e] w fun ev w' => ∃ r, ev = .returned r ∧ w'.ownsRow w.heap.size 104 3 r (chn e).length (lcells (chn e)) ∧ Below w.heap.size w w' := by
  obtain ⟨i0, hi, hi3⟩ := Option.map_eq_some_iff.1 info_link
  simp only [Prod.mk.injEq] at hi3
  obtain ⟨hz0, hz1, hz2⟩ := hi3
  have HE : Aside (Plain e ∧ deep e ≤ 100000) := ⟨hp, hd⟩
  clear hp hd
  go_enter Tryz.func37, Tryz.ntmps37
  go_wp2
  go_loopg [0, 3] (deep e) (fun k v kv wr => ∃ (e' : ErrT) (done : List Lnk), k = deep e' ∧ v = val ad e' ∧ Aside (leaf e' = leaf e ∧ done ++ chn e' = chn e) ∧ Spine ad w.heap.size wr e' ∧ Below w.heap.size w wr ∧ wr.ownsRow w.heap.size 104 3 kv done.length (lcells done))
  case atStart => exact ⟨e, [], rfl, rfl, ⟨rfl, rfl⟩, hS, Below.refl _ _, World.ownsRow_nil _ _ _ _⟩
  case round =>
    obtain ⟨e', done, hgk, rfl, hA, hS', hb, hown⟩ := hrel
    clear hS
    have Lr := L.below hb
    have HD : Hid (done.length + deep e' ≤ 100000) := by
      have h1 := HE.out.2
      have h2 := congrArg List.length hA.out.2
      rw [List.length_append, chn_len, chn_len] at h2
      show _ ≤ _
      omega
    cases e' with
    | fault b la ca at_ why =>
      obtain ⟨hbm, hbh, hne, hSw⟩ := hS'
      obtain ⟨t, v, hv⟩ := val_iface ad hne
      have hbl : b < wr.heap.size := by have := hb.size; omega
      simp only [val_fault]
      go_wp2_with (first | (go_at_call 54; refine (asFault_f b t v _ (by rw [cell_of_heap hbh, hv]; rfl) Lr.et).mono ?_; rintro ev w1 ⟨rfl, hb1⟩; have hbh1 : w1.heap[b]? = some (.cells #[.string la, .string ca, .int .i64 at_, val ad why] 87 (0, 0)) := by (rw [hb1.block b hbl]; exact hbh)) | (go_at_call 55; refine (asMany_f b t v _ (by rw [cell_of_heap hbh1, hv]; rfl)).mono ?_; rintro ev w2 ⟨rfl, hb2⟩; have hbh2 : w2.heap[b]? = some (.cells #[.string la, .string ca, .int .i64 at_, val ad why] 87 (0, 0)) := by (rw [hb2.block b (by have := hb1.size; omega)]; exact hbh1)) | (go_at_call 56; refine (link_any hbh2).mono ?_; rintro ev w3 ⟨rfl, hb3⟩; have hown3 := owns_below (owns_below (owns_below hown hb1) hb2) hb3) | (at_builtin; refine wpList_append_own _ rfl _ _ 34 rfl w.heap.size 104 i0 (.agg #[.string ⟨#[]⟩, .string ⟨#[]⟩, .int .i64 0]) 3 40 Tryz.underlying34 hi hz0 hz1 hz2 rfl (by decide) _ _ _ rfl (hown3.alloc _) ⟨w3.heap.size, 0, none⟩ 1 1 [.string la, .string ca, .int .i64 at_] rfl rfl ?c1 ?c2 ?c3 ?c4 ?c5 ?_))
      case c1 => exact cell_three_new _ _ _ _ _
      case c2 =>
        intro u hu
        simp only [List.mem_cons, List.not_mem_nil, or_false] at hu
        rcases hu with rfl | rfl | rfl <;> rfl
      case c3 => have := HD.out; simp only [deep] at this; unfold maxLen; omega
      case c4 => have := HD.out; simp only [deep] at this; omega
      case c5 => have := hb.size; have := hb1.size; have := hb2.size; have := hb3.size; simp; omega
      intro v0 w4 hown0 hgr hnn
      clear hnn
      have hb03 := bgoE (bgoE (bgoE hb hb1) hb2) hb3
      have hb04 : Below w.heap.size w w4 := (hb03.alloc hb03.size _).grown hgr (by have := hb03.size; simp; omega) (fun j hj => (hown.lt j hj).1)
      have hbh4 : w4.heap[b]? = some (.cells #[.string la, .string ca, .int .i64 at_, val ad why] 87 (0, 0)) := by
        rw [hb04.block b hbm, ← hb.block b hbm]; exact hbh
      have c43 : w4.cell? ⟨b, 3, none⟩ = some (val ad why) := by rw [cell_of_heap hbh4]; rfl
      have hSw4 : Spine ad w.heap.size w4 why := by
        have hbr4 : Below w.heap.size wr w4 := ⟨hb04.os.trans hb.os.symm, hb04.tape.trans hb.tape.symm, hb04.output.trans hb.output.symm, by
          have h1 := hb1.size; have h2 := hb2.size; have h3 := hb3.size; have h4 := hgr.size; simp at h4; omega, fun k hk => (hb04.block k hk).trans (hb.block k hk).symm⟩
        exact hSw.below hbr4
      clear hbh hbh1 hbh2 hbh4 hown hown3 hv hi
      go_wp2
      go_roundg (deep why)
      case measure => rw [hgk]; simp [deep]
      case rel =>
        refine ⟨why, done ++ [⟨la, ca, at_⟩], rfl, rfl, ⟨hA.out.1, ?_⟩, hSw4, hb04, ?_⟩
        · rw [List.append_assoc]; exact hA.out.2
        · rw [lcells_append]; simpa [lcells] using hown0
    | none =>
      simp only [val_none]
      go_wp2_with (first | (go_at_call 54; refine (asFault_nil _).mono ?_; rintro ev w1 ⟨rfl, hb1⟩) | (go_at_call 55; refine (asMany_nil _).mono ?_; rintro ev w2 ⟨rfl, hb2⟩))
      go_ret
      have hd := hA.out.2
      simp only [chn, List.append_nil] at hd
      refine ⟨_, rfl, ?_, bgoE (bgoE hb hb1) hb2⟩
      rw [← hd]
      exact owns_below (owns_below hown hb1) hb2
    | rsn k =>
      simp only [val_rsn]
      go_wp2_with (first | (go_at_call 54; refine (asFault_s _ _).mono ?_; rintro ev w1 ⟨rfl, hb1⟩) | (go_at_call 55; refine (asMany_s _ _ (Lr.below hb1).et).mono ?_; rintro ev w2 ⟨rfl, hb2⟩))
      go_ret
      have hd := hA.out.2
      simp only [chn, List.append_nil] at hd
      refine ⟨_, rfl, ?_, bgoE (bgoE hb hb1) hb2⟩
      rw [← hd]
      exact owns_below (owns_below hown hb1) hb2
    | many b g c l => exact absurd hA.out.1.symm (HE.out.1 b g c l)
end Go.Proofs.YteffpnjgchihpaaGreatDoor
namespace Go.Proofs.YteffpnjgchihpaaGreatDoor

/-- How many bytes the number at the front has: ErrShort is 6, ErrForm 5. -/
def spanFrom (i : Nat) : List UInt8 → Except Nat Nat
  | [] => .error 6
  | b :: r => if b < 128 then .ok (i + 1) else if i + 1 = 9 then .error 5 else spanFrom (i + 1) r

/-- The digits' sum, the lowest first. -/
def numv : List UInt8 → Nat
  | [] => 0
  | b :: r => b.toNat % 128 + 128 * numv r

/-- P2.3: the number and how many bytes it has, or the reason's place: ErrRange is 1. -/
def numR (bs : List UInt8) (most : Int) : Except Nat (Nat × Nat) :=
  match spanFrom 0 bs with
  | .error c => .error c
  | .ok k => if 1 < k ∧ bs[k - 1]? = some 0 then .error 5 else if most < (numv (bs.take k) : Int) then .error 1 else .ok (numv (bs.take k), k)

/-- P2.1: the form of a number. -/
def formN (n : Nat) : List UInt8 := if n < 128 then [UInt8.ofNat n] else UInt8.ofNat (n % 128 + 128) :: formN (n / 128)
termination_by n
decreasing_by omega

theorem span_ok : ∀ (bs : List UInt8) (i k : Nat), spanFrom i bs = .ok k → i < k ∧ (i < 9 → k ≤ 9) ∧ k ≤ i + bs.length ∧ (∀ j, i + j + 1 < k → ∃ b, bs[j]? = some b ∧ ¬ b < 128) ∧ ∃ b, bs[k - i - 1]? = some b ∧ b < 128
  | [], i, k, h => by simp [spanFrom] at h
  | b :: r, i, k, h => by
    unfold spanFrom at h
    split at h
    · rename_i hb
      cases h
      refine ⟨by omega, by omega, by simp, fun j hj => by omega, b, ?_, hb⟩
      have : i + 1 - i - 1 = 0 := by omega
      rw [this]; rfl
    · rename_i hb
      split at h
      · cases h
      · rename_i h9
        obtain ⟨h1, h2, h3, h4, c, h5, h6⟩ := span_ok r (i + 1) k h
        refine ⟨by omega, fun hi => h2 (by omega), by simp; omega, fun j hj => ?_, c, ?_, h6⟩
        · cases j with
          | zero => exact ⟨b, rfl, hb⟩
          | succ j =>
            obtain ⟨d, hd⟩ := h4 j (by omega)
            exact ⟨d, by simpa using hd⟩
        · have e : k - i - 1 = (k - (i + 1) - 1) + 1 := by omega
          rw [e]; simpa using h5

theorem span_err : ∀ (bs : List UInt8) (i c : Nat), spanFrom i bs = .error c → c = 5 ∨ c = 6
  | [], i, c, h => by simp [spanFrom] at h; omega
  | b :: r, i, c, h => by
    unfold spanFrom at h
    split at h
    · cases h
    · split at h
      · cases h; exact .inl rfl
      · exact span_err r (i + 1) c h

theorem numv_lt : ∀ l : List UInt8, numv l < 128 ^ l.length
  | [] => by simp [numv]
  | b :: r => by
    have := numv_lt r
    simp only [numv, List.length_cons, Nat.pow_succ]
    have : b.toNat % 128 < 128 := Nat.mod_lt _ (by decide)
    omega

theorem numR_err {bs : List UInt8} {most : Int} {c : Nat} (h : numR bs most = .error c) : c = 1 ∨ c = 5 ∨ c = 6 := by
  unfold numR at h
  split at h
  · rename_i c' hc
    cases h
    have := span_err _ _ _ hc
    omega
  · split at h
    · cases h; omega
    · split at h
      · cases h; omega
      · cases h

theorem numR_ok {bs : List UInt8} {most : Int} {n k : Nat} (h : numR bs most = .ok (n, k)) : 0 < k ∧ k ≤ 9 ∧ k ≤ bs.length ∧ n = numv (bs.take k) ∧ (n : Int) ≤ most ∧ n < 9223372036854775808 := by
  unfold numR at h
  split at h
  · cases h
  · rename_i k' hk
    split at h
    · cases h
    · split at h
      · cases h
      · rename_i hm
        cases h
        obtain ⟨h1, h2, h3, _⟩ := span_ok _ _ _ hk
        have hl := numv_lt (bs.take k)
        have hle : 128 ^ (bs.take k).length ≤ 128 ^ 9 := Nat.pow_le_pow_right (by decide) (by simp; omega)
        exact ⟨h1, h2 (by omega), by omega, rfl, by omega, by omega⟩

theorem form_small {n : Nat} (h : n < 128) : formN n = [UInt8.ofNat n] := by rw [formN, if_pos h]
theorem form_big {n : Nat} (h : ¬ n < 128) : formN n = UInt8.ofNat (n % 128 + 128) :: formN (n / 128) := by rw [formN, if_neg h]

theorem numv_form (n : Nat) : numv (formN n) = n := by
  induction n using Nat.strongRecOn with
  | _ n ih =>
    by_cases h : n < 128
    · rw [form_small h]
      simp [numv, UInt8.toNat_ofNat']
      omega
    · rw [form_big h]
      simp only [numv, ih (n / 128) (by omega), UInt8.toNat_ofNat']
      omega

theorem numv_pos : ∀ (l : List UInt8) (b : UInt8), l.getLast? = some b → b < 128 → b ≠ 0 → 0 < numv l
  | [], b, h, _, _ => by simp at h
  | [x], b, h, hb, h0 => by
    simp at h; subst h
    have : x.toNat ≠ 0 := fun e => h0 (UInt8.toNat_inj.1 (by simpa using e))
    have : x.toNat < 128 := by simpa [UInt8.lt_iff_toNat_lt] using hb
    simp [numv]; omega
  | x :: y :: r, b, h, hb, h0 => by
    have := numv_pos (y :: r) b (by simpa using h) hb h0
    simp only [numv] at this ⊢
    omega

/-- A number's bytes as they are read are its form. -/
theorem form_numv : ∀ (l : List UInt8), (∀ j, j + 1 < l.length → ∃ b, l[j]? = some b ∧ ¬ b < 128) → (∃ b, l.getLast? = some b ∧ b < 128 ∧ (1 < l.length → b ≠ 0)) → formN (numv l) = l
  | [], _, h => by obtain ⟨b, hb, _⟩ := h; simp at hb
  | [x], _, h => by
    obtain ⟨b, hb, h1, _⟩ := h
    simp at hb; subst hb
    have hx : x.toNat < 128 := by simpa [UInt8.lt_iff_toNat_lt] using h1
    have e : numv [x] = x.toNat := by simp [numv]; omega
    rw [e, form_small hx]
    simp
  | x :: y :: r, h, hl => by
    obtain ⟨b, hb, h1, h2⟩ := hl
    have hb' : (y :: r).getLast? = some b := by simpa using hb
    have ih := form_numv (y :: r) (fun j hj => by
      obtain ⟨d, hd⟩ := h (j + 1) (by simpa using hj)
      exact ⟨d, by simpa using hd⟩) ⟨b, hb', h1, fun _ => h2 (by simp)⟩
    obtain ⟨d, hd, hd2⟩ := h 0 (by simp)
    simp at hd; subst hd
    have hx : ¬ x.toNat < 128 := by simpa [UInt8.lt_iff_toNat_lt] using hd2
    have hx2 : x.toNat < 256 := x.toNat_lt
    have hp := numv_pos (y :: r) b hb' h1 (h2 (by simp))
    have e : numv (x :: y :: r) = x.toNat % 128 + 128 * numv (y :: r) := rfl
    rw [form_big (by rw [e]; omega), e]
    have e1 : (x.toNat % 128 + 128 * numv (y :: r)) / 128 = numv (y :: r) := by omega
    have e2 : (x.toNat % 128 + 128 * numv (y :: r)) % 128 + 128 = x.toNat := by omega
    rw [e1, e2, ih]
    simp

/-- P2.7, of one number. -/
theorem numR_form {bs : List UInt8} {most : Int} {n k : Nat} (h : numR bs most = .ok (n, k)) : formN n = bs.take k := by
  obtain ⟨h1, h2, h3, h4, _⟩ := numR_ok h
  unfold numR at h
  split at h
  · cases h
  · rename_i k' hk
    split at h
    · cases h
    · rename_i h0
      split at h
      · cases h
      · cases h
        obtain ⟨_, _, _, g4, b, g5, g6⟩ := span_ok _ _ _ hk
        have hl : (bs.take k).length = k := by simp; omega
        refine form_numv _ (fun j hj => ?_) ⟨b, ?_, g6, fun hk1 hb0 => h0 ⟨by omega, ?_⟩⟩
        · obtain ⟨d, hd, hd2⟩ := g4 j (by omega)
          exact ⟨d, by rw [List.getElem?_take, if_pos (by omega)]; exact hd, hd2⟩
        · rw [List.getLast?_eq_getElem?, hl, List.getElem?_take, if_pos (by omega)]
          simpa using g5
        · rw [← hb0]; simpa using g5
end Go.Proofs.YteffpnjgchihpaaGreatDoor
namespace Go.Proofs.YteffpnjgchihpaaGreatDoor
open Go.RowKit
set_option maxRecDepth 100000

/-- The variable of the reason at a place. -/
def gixW : Nat → Nat
  | 0 => 1
  | 1 => 3
  | 2 => 4
  | 3 => 5
  | 4 => 6
  | 5 => 0
  | 6 => 7
  | 7 => 8
  | 8 => 9
  | 9 => 10
  | 10 => 11
  | 11 => 12
  | 12 => 13
  | _ => 14

theorem cellW_of {w : World} {b : Nat} {cs : Array Value} {t : TypeId} (h : w.heap[b]? = some (.cells cs t (0, 0))) (i : Nat) : w.cell? ⟨b, i, none⟩ = cs[i]? := cell_of_row w b i cs t (0, 0) h
theorem frozenW_of {w : World} {b : Nat} {cs : Array Value} {t : TypeId} (h : w.heap[b]? = some (.cells cs t (0, 0))) (i : Nat) : w.frozen? ⟨b, i, none⟩ = false := by simp [World.frozen?, h]
theorem lt_of_heap {w : World} {b : Nat} {o : Obj} (h : w.heap[b]? = some o) : b < w.heap.size := (Array.getElem?_eq_some_iff.1 h).1

/-- Nothing that was there has turned but the blocks of S. -/
structure Kept (S : List Nat) (w w' : World) : Prop where
  os : w'.os = w.os
  tape : w'.tape = w.tape
  output : w'.output = w.output
  size : w.heap.size ≤ w'.heap.size
  block : ∀ k, k < w.heap.size → k ∉ S → w'.heap[k]? = w.heap[k]?

theorem Kept.refl (S : List Nat) (w : World) : Kept S w w := ⟨rfl, rfl, rfl, Nat.le_refl _, fun _ _ _ => rfl⟩
theorem Kept.trans {S : List Nat} {a b c : World} (h : Kept S a b) (k : Kept S b c) : Kept S a c :=
  ⟨k.os.trans h.os, k.tape.trans h.tape, k.output.trans h.output, Nat.le_trans h.size k.size, fun i hi hn => (k.block i (Nat.lt_of_lt_of_le hi h.size) hn).trans (h.block i hi hn)⟩
theorem Kept.mono {S S' : List Nat} {a b : World} (h : Kept S a b) (hs : ∀ s ∈ S, s ∈ S' ∨ a.heap.size ≤ s) : Kept S' a b :=
  ⟨h.os, h.tape, h.output, h.size, fun i hi hn => h.block i hi fun hm => (hs i hm).elim hn (fun hle => by omega)⟩
theorem Kept.go {S S' : List Nat} {a b c : World} (h : Kept S a b) (k : Kept S' b c) (hs : ∀ s ∈ S', s ∈ S ∨ a.heap.size ≤ s) : Kept S a c :=
  ⟨k.os.trans h.os, k.tape.trans h.tape, k.output.trans h.output, Nat.le_trans h.size k.size, fun i hi hn => (k.block i (Nat.lt_of_lt_of_le hi h.size) (fun hm => (hs i hm).elim hn (fun hle => by omega))).trans (h.block i hi hn)⟩
theorem Kept.of {S : List Nat} {w w' : World} (h : Below w.heap.size w w') : Kept S w w' := ⟨h.os, h.tape, h.output, h.size, fun k hk _ => h.block k hk⟩
theorem Kept.alloc {S : List Nat} {a w : World} (h : Kept S a w) (o : Obj) : Kept S a (w.alloc o) := h.trans (.of ((Below.refl _ _).alloc (Nat.le_refl _) o))
theorem Kept.drew {S : List Nat} {a w : World} (h : Kept S a w) : Kept S a w.drew := ⟨h.os, h.tape, h.output, h.size, h.block⟩
theorem Kept.set {S : List Nat} {a w : World} (h : Kept S a w) {p : Addr} (hp : p.block ∈ S ∨ a.heap.size ≤ p.block) (v : Value) : Kept S a (w.setCell p v) :=
  ⟨h.os, h.tape, h.output, by simpa [World.setCell] using h.size, fun k hk hn => (Below.heap_setCell _ _ _ _ (fun e => by subst e; exact hp.elim hn (fun hle => by omega))).trans (h.block k hk hn)⟩
theorem Kept.grown {S : List Nat} {a w w' : World} {row : Option Nat} (h : Kept S a w) (hg : w.grownBy w' row) (hr : ∀ k, row = some k → k ∈ S ∨ a.heap.size ≤ k) : Kept S a w' := by
  have hb : ∀ k, k < w.heap.size → row ≠ some k → w'.heap[k]? = w.heap[k]? := fun k hk hn => hg.block k hk (fun e => hn e.symm)
  exact ⟨hg.os.trans h.os, hg.tape.trans h.tape, hg.output.trans h.output, Nat.le_trans h.size hg.size, fun k hk hn => (hb k (Nat.lt_of_lt_of_le hk h.size) (fun e => (hr k e).elim hn (fun hle => by omega))).trans (h.block k hk hn)⟩
theorem Kept.below {S : List Nat} {w w' : World} {B : Nat} (h : Kept S w w') (hS : ∀ s ∈ S, B ≤ s) (hB : B ≤ w.heap.size) : Below B w w' :=
  ⟨h.os, h.tape, h.output, h.size, fun k hk => h.block k (Nat.lt_of_lt_of_le hk hB) (fun hm => by have := hS k hm; omega)⟩
theorem Kept.heap {S : List Nat} {w w' : World} (h : Kept S w w') {b : Nat} {o : Obj} (hb : w.heap[b]? = some o) (hn : b ∉ S) : w'.heap[b]? = some o := by rw [h.block b (lt_of_heap hb) hn]; exact hb

/-- The reasons that package wire names: ErrArg, ErrRange, ErrForm, ErrShort. -/
structure Lw (ad : Nat → Addr) (w : World) : Prop where
  var : ∀ k, k = 0 ∨ k = 1 ∨ k = 5 ∨ k = 6 → w.cell? ⟨gixW k, 0, none⟩ = some (.iface 195 (.pointer (some (ad k))))
  size : 8 ≤ w.heap.size

theorem gixW_lt (k : Nat) (hk : k = 0 ∨ k = 1 ∨ k = 5 ∨ k = 6) : gixW k < 8 := by rcases hk with rfl | rfl | rfl | rfl <;> decide
theorem Lw.kept {ad : Nat → Addr} {S : List Nat} {w w' : World} (L : Lw ad w) (h : Kept S w w') (hS : ∀ s ∈ S, 8 ≤ s) : Lw ad w' :=
  ⟨fun k hk => by
    rw [World.cell?_of_block (w := w) (h.block (gixW k) (by have := gixW_lt k hk; have := L.size; omega) (fun hm => by have := hS _ hm; have := gixW_lt k hk; omega))]
    exact L.var k hk, by have := L.size; have := h.size; omega⟩

/-- A Reader in memory: its bytes, its place, its refusal. -/
structure RdAt (rb g : Nat) (bs : List UInt8) (pl : Nat) (br : Value) (w : World) : Prop where
  lies : w.heap[rb]? = some (.cells #[.slice (some ⟨g, 0, none⟩) bs.length bs.length, .int .i64 pl, br] 156 (0, 0))
  raw : w.heap[g]? = some (.cells (Lib.byteCells bs).toArray 5 (0, 0))
  lo : 8 ≤ rb
  le : pl ≤ bs.length
  lim : bs.length ≤ 1000000

theorem RdAt.ne {rb g : Nat} {bs : List UInt8} {pl : Nat} {br : Value} {w : World} (h : RdAt rb g bs pl br w) : ¬ g = rb := by
  intro e
  have h1 := h.lies
  rw [← e, h.raw] at h1
  simp at h1
theorem RdAt.kept {rb g : Nat} {bs : List UInt8} {pl : Nat} {br : Value} {S : List Nat} {w w' : World} (h : RdAt rb g bs pl br w) (k : Kept S w w') (h1 : rb ∉ S) (h2 : g ∉ S) : RdAt rb g bs pl br w' :=
  ⟨k.heap h.lies h1, k.heap h.raw h2, h.lo, h.le, h.lim⟩
theorem RdAt.c0 {rb g : Nat} {bs : List UInt8} {pl : Nat} {br : Value} {w : World} (h : RdAt rb g bs pl br w) : w.cell? ⟨rb, 0, none⟩ = some (.slice (some ⟨g, 0, none⟩) bs.length bs.length) := by rw [cellW_of h.lies]; rfl
theorem RdAt.c1 {rb g : Nat} {bs : List UInt8} {pl : Nat} {br : Value} {w : World} (h : RdAt rb g bs pl br w) : w.cell? ⟨rb, 1, none⟩ = some (.int .i64 pl) := by rw [cellW_of h.lies]; rfl
theorem RdAt.c2 {rb g : Nat} {bs : List UInt8} {pl : Nat} {br : Value} {w : World} (h : RdAt rb g bs pl br w) : w.cell? ⟨rb, 2, none⟩ = some br := by rw [cellW_of h.lies]; rfl
theorem RdAt.byte {rb g : Nat} {bs : List UInt8} {pl : Nat} {br : Value} {w : World} (h : RdAt rb g bs pl br w) (i : Nat) (b : UInt8) (hb : bs[i]? = some b) : w.cell? ⟨g, i, none⟩ = some (.int .u8 b.toNat) := by
  rw [cellW_of h.raw]
  simp [Lib.byteCells, hb]
theorem RdAt.frozen {rb g : Nat} {bs : List UInt8} {pl : Nat} {br : Value} {w : World} (h : RdAt rb g bs pl br w) (i : Nat) : w.frozen? ⟨rb, i, none⟩ = false := frozenW_of h.lies i
theorem heap_setCell_at {w : World} {b : Nat} {cs : Array Value} {t : TypeId} (h : w.heap[b]? = some (.cells cs t (0, 0))) (i : Nat) (v : Value) : (w.setCell ⟨b, i, none⟩ v).heap[b]? = some (.cells (cs.setIfInBounds i v) t (0, 0)) := by
  simp [World.setCell, Array.getElem?_modify, h]
theorem RdAt.place {rb g : Nat} {bs : List UInt8} {pl : Nat} {br : Value} {w : World} (h : RdAt rb g bs pl br w) (q : Nat) (hq : q ≤ bs.length) : RdAt rb g bs q br (w.setCell ⟨rb, 1, none⟩ (.int .i64 q)) :=
  ⟨by rw [heap_setCell_at h.lies]; rfl, by rw [Below.heap_setCell _ _ _ _ h.ne]; exact h.raw, h.lo, hq, h.lim⟩
theorem RdAt.broke {rb g : Nat} {bs : List UInt8} {pl : Nat} {br : Value} {w : World} (h : RdAt rb g bs pl br w) (v : Value) : RdAt rb g bs pl v (w.setCell ⟨rb, 2, none⟩ v) :=
  ⟨by rw [heap_setCell_at h.lies]; rfl, by rw [Below.heap_setCell _ _ _ _ h.ne]; exact h.raw, h.lo, h.le, h.lim⟩
end Go.Proofs.YteffpnjgchihpaaGreatDoor
