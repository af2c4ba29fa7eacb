
/-
  Messages as bytes, and back: what the program's functions work out, in plain lists.
-/
import Derived.Test.YteffpnjgchihpaaGreatDoorPB11
import Derived.Test.YteffpnjgchihpaaGreatDoorPB15
namespace Go.Proofs.YteffpnjgchihpaaGreatDoor

/-- Why a reading of a message gives up: ErrForm at a place; or what wire refuses, by its call, place and reason. -/
inductive Pe where
  | form (p : Nat)
  | wire (call : ByteArray) (p c : Nat)

/-- A reading: of all bytes, from a place on: what is read and the place behind it, or why not. -/
abbrev Prs (α : Type) := List UInt8 → Nat → Except Pe (α × Nat)

def pPure {α : Type} (a : α) : Prs α := fun _ pl => .ok (a, pl)
/-- One reading behind the other. -/
def pSeq {α β : Type} (p : Prs α) (q : α → Prs β) : Prs (α × β) := fun bs pl => match p bs pl with
  | .error e => .error e
  | .ok (a, k) => match q a bs k with
    | .error e => .error e
    | .ok (b, k2) => .ok ((a, b), k2)
def pMap {α β : Type} (g : α → β) (p : Prs α) : Prs β := fun bs pl => match p bs pl with
  | .error e => .error e
  | .ok (a, k) => .ok (g a, k)

theorem pSeq_err {α β : Type} {p : Prs α} {q : α → Prs β} {bs : List UInt8} {pl : Nat} {e : Pe} (h : p bs pl = .error e) : pSeq p q bs pl = .error e := by unfold pSeq; rw [h]
theorem pSeq_err2 {α β : Type} {p : Prs α} {q : α → Prs β} {bs : List UInt8} {pl : Nat} {e : Pe} {a : α} {k : Nat} (h : p bs pl = .ok (a, k)) (h2 : q a bs k = .error e) : pSeq p q bs pl = .error e := by unfold pSeq; rw [h]; simp only [h2]
theorem pSeq_ok {α β : Type} {p : Prs α} {q : α → Prs β} {bs : List UInt8} {pl : Nat} {a : α} {k : Nat} {b : β} {k2 : Nat} (h : p bs pl = .ok (a, k)) (h2 : q a bs k = .ok (b, k2)) : pSeq p q bs pl = .ok ((a, b), k2) := by unfold pSeq; rw [h]; simp only [h2]
theorem pMap_err {α β : Type} {g : α → β} {p : Prs α} {bs : List UInt8} {pl : Nat} {e : Pe} (h : p bs pl = .error e) : pMap g p bs pl = .error e := by unfold pMap; rw [h]
theorem pMap_ok {α β : Type} {g : α → β} {p : Prs α} {bs : List UInt8} {pl : Nat} {a : α} {k : Nat} (h : p bs pl = .ok (a, k)) : pMap g p bs pl = .ok (g a, k) := by unfold pMap; rw [h]

/-- A reading and a form fit: what is read has just that form, and each thing's form is read as it. -/
structure Fits {α : Type} (p : Prs α) (f : α → List UInt8) (ok : α → Prop) : Prop where
  sound : ∀ bs pl a q, p bs pl = .ok (a, q) → ok a ∧ bs.drop pl = f a ++ bs.drop q ∧ q = pl + (f a).length
  back : ∀ bs pl a r, ok a → bs.drop pl = f a ++ r → p bs pl = .ok (a, pl + (f a).length)

theorem Fits.congr {α : Type} {p : Prs α} {f f' : α → List UInt8} {ok ok' : α → Prop} (h : Fits p f ok) (hf : ∀ a, ok a → f a = f' a) (hk : ∀ a, ok a ↔ ok' a) : Fits p f' ok' :=
  ⟨fun bs pl a q he => by have := h.sound bs pl a q he; rw [← hf a this.1, ← hk a]; exact this, fun bs pl a r ha hd => by rw [← hf a ((hk a).2 ha)] at hd ⊢; exact h.back bs pl a r ((hk a).2 ha) hd⟩

theorem fits_pure {α : Type} (z : α) : Fits (pPure z) (fun _ => []) (fun a => a = z) :=
  ⟨fun bs pl a q h => by simp only [pPure, Except.ok.injEq, Prod.mk.injEq] at h; obtain ⟨rfl, rfl⟩ := h; simp, fun bs pl a r h _ => by subst h; simp [pPure]⟩

theorem drop_more {bs f r : List UInt8} {pl : Nat} (h : bs.drop pl = f ++ r) : bs.drop (pl + f.length) = r := by
  rw [← List.drop_drop, h]; simp

theorem Fits.seq {α β : Type} {p : Prs α} {f : α → List UInt8} {okA : α → Prop} {q : α → Prs β} {g : α → β → List UInt8} {okB : α → β → Prop} (hp : Fits p f okA) (hq : ∀ a, okA a → Fits (q a) (g a) (okB a)) :
    Fits (pSeq p q) (fun x => f x.1 ++ g x.1 x.2) (fun x => okA x.1 ∧ okB x.1 x.2) := by
  constructor
  · intro bs pl x k h
    cases h1 : p bs pl with
    | error e => rw [pSeq_err h1] at h; cases h
    | ok y =>
      obtain ⟨a, k1⟩ := y
      obtain ⟨o1, d1, e1⟩ := hp.sound _ _ _ _ h1
      cases h2 : q a bs k1 with
      | error e => rw [pSeq_err2 h1 h2] at h; cases h
      | ok y =>
        obtain ⟨b, k2⟩ := y
        obtain ⟨o2, d2, e2⟩ := (hq a o1).sound _ _ _ _ h2
        rw [pSeq_ok h1 h2] at h
        simp only [Except.ok.injEq, Prod.mk.injEq] at h
        obtain ⟨rfl, rfl⟩ := h
        refine ⟨⟨o1, o2⟩, ?_, ?_⟩
        · rw [d1, d2, List.append_assoc]
        · simp only [List.length_append]; omega
  · rintro bs pl ⟨a, b⟩ r ⟨o1, o2⟩ hd
    rw [List.append_assoc] at hd
    have h1 := hp.back bs pl a _ o1 hd
    have h2 := (hq a o1).back bs _ b r o2 (drop_more hd)
    rw [pSeq_ok h1 h2]
    simp only [List.length_append, Nat.add_assoc]

theorem Fits.map {α β : Type} {p : Prs α} {f : α → List UInt8} {okA : α → Prop} (hp : Fits p f okA) (e : α → β) (d : β → α) (okB : β → Prop) (h1 : ∀ a, okA a → d (e a) = a ∧ okB (e a)) (h2 : ∀ b, okB b → e (d b) = b ∧ okA (d b)) : Fits (pMap e p) (fun b => f (d b)) okB := by
  constructor
  · intro bs pl x k h
    cases hp1 : p bs pl with
    | error er => rw [pMap_err hp1] at h; cases h
    | ok y =>
      obtain ⟨a, k1⟩ := y
      obtain ⟨o1, d1, e1⟩ := hp.sound _ _ _ _ hp1
      rw [pMap_ok hp1] at h
      simp only [Except.ok.injEq, Prod.mk.injEq] at h
      obtain ⟨rfl, rfl⟩ := h
      refine ⟨(h1 a o1).2, ?_, ?_⟩
      · simp only [(h1 a o1).1]; exact d1
      · simp only [(h1 a o1).1]; exact e1
  · intro bs pl b r hb hd
    have := hp.back bs pl (d b) r (h2 b hb).2 hd
    rw [pMap_ok this, (h2 b hb).1]

/-- The names of wire's calls, as bytes. -/
def nmNumber : ByteArray := ⟨#[78, 117, 109, 98, 101, 114]⟩
def nmByte : ByteArray := ⟨#[66, 121, 116, 101]⟩
def nmCount : ByteArray := ⟨#[67, 111, 117, 110, 116]⟩
def nmEnd : ByteArray := ⟨#[69, 110, 100]⟩

/-- A number's form. -/
def fN (x : Int) : List UInt8 := formN x.toNat

def pNum (most : Int) : Prs Int := fun bs pl => match numR (bs.drop pl) most with
  | .error c => .error (.wire nmNumber pl c)
  | .ok (n, k) => .ok ((n : Int), pl + k)
def pNz (most : Int) : Prs Int := fun bs pl => match pNum most bs pl with
  | .error e => .error e
  | .ok (n, k) => if n = 0 then .error (.form pl) else .ok (n, k)
def pEntry (most : Int) (last : Bool) : Prs Int := if last then pNz most else pNum most
def pKind (last : Int) : Prs Int := fun bs pl => match byteR (bs.drop pl) with
  | .error c => .error (.wire nmByte pl c)
  | .ok (n, k) => if 1 ≤ (n : Int) ∧ (n : Int) ≤ last then .ok ((n : Int), pl + k) else .error (.form pl)

/-- The greatest number. -/
abbrev mx63 : Int := 9223372036854775807

theorem fits_num (most : Int) (hm : most ≤ mx63) : Fits (pNum most) fN (fun x => 0 ≤ x ∧ x ≤ most) := by
  constructor
  · intro bs pl a q h
    unfold pNum at h
    cases hr : numR (bs.drop pl) most with
    | error c => rw [hr] at h; cases h
    | ok y =>
      obtain ⟨n, k⟩ := y
      rw [hr] at h
      simp only [Except.ok.injEq, Prod.mk.injEq] at h
      obtain ⟨rfl, rfl⟩ := h
      obtain ⟨_, _, h3, _, h5, _⟩ := numR_ok hr
      have hf := numR_form hr
      refine ⟨⟨by omega, h5⟩, ?_, ?_⟩
      · simp only [fN, Int.toNat_natCast]
        rw [hf, ← List.drop_drop, List.take_append_drop]
      · simp only [fN, Int.toNat_natCast]
        rw [hf, List.length_take]; omega
  · intro bs pl a r ha hd
    have h1 : ((a.toNat : Nat) : Int) = a := by omega
    have h2 := numR_back (n := a.toNat) (most := most) r (by have := ha.2; unfold mx63 at hm; omega) (by omega)
    unfold pNum
    simp only [fN] at hd ⊢
    rw [hd, h2]
    simp only [h1]

theorem fits_nz (most : Int) (hm : most ≤ mx63) : Fits (pNz most) fN (fun x => 0 < x ∧ x ≤ most) := by
  constructor
  · intro bs pl a q h
    unfold pNz at h
    cases hr : pNum most bs pl with
    | error c => rw [hr] at h; cases h
    | ok y =>
      obtain ⟨n, k⟩ := y
      rw [hr] at h
      simp only at h
      split at h
      · cases h
      · rename_i h0
        simp only [Except.ok.injEq, Prod.mk.injEq] at h
        obtain ⟨rfl, rfl⟩ := h
        obtain ⟨o, d, e⟩ := (fits_num most hm).sound _ _ _ _ hr
        exact ⟨⟨by omega, o.2⟩, d, e⟩
  · intro bs pl a r ha hd
    have := (fits_num most hm).back bs pl a r ⟨by omega, ha.2⟩ hd
    unfold pNz
    rw [this]
    simp only
    rw [if_neg (by omega)]

theorem fits_entry (most : Int) (hm : most ≤ mx63) (last : Bool) : Fits (pEntry most last) fN (fun x => (0 ≤ x ∧ x ≤ most) ∧ (last = true → (x != 0) = true)) := by
  unfold pEntry
  cases last with
  | true => exact (fits_nz most hm).congr (fun _ _ => rfl) (fun a => by simp; omega)
  | false => exact (fits_num most hm).congr (fun _ _ => rfl) (fun a => by simp)

theorem fits_kind (last : Int) (hl : last ≤ 255) : Fits (pKind last) (fun x => [UInt8.ofNat x.toNat]) (fun x => 1 ≤ x ∧ x ≤ last) := by
  constructor
  · intro bs pl a q h
    unfold pKind at h
    cases hd : bs.drop pl with
    | nil => rw [hd] at h; simp [byteR] at h
    | cons b r =>
      rw [hd] at h
      simp only [byteR] at h
      split at h
      · rename_i h0
        simp only [Except.ok.injEq, Prod.mk.injEq] at h
        obtain ⟨rfl, rfl⟩ := h
        refine ⟨h0, ?_, by simp⟩
        rw [← List.drop_drop, hd]
        simp
      · cases h
  · intro bs pl a r ha hd
    unfold pKind
    have h8 : (UInt8.ofNat a.toNat).toNat = a.toNat := by rw [UInt8.toNat_ofNat', Nat.mod_eq_of_lt (by simpa using (by omega : a.toNat < 256))]
    have h1 : ((a.toNat : Nat) : Int) = a := by omega
    rw [hd]
    simp only [List.singleton_append, byteR, h8, h1, List.length_singleton]
    rw [if_pos ha]

/-- So many things, of which the last one is told that it is. -/
def pMany {α : Type} (p : Bool → Prs α) : Nat → Prs (List α)
  | 0 => pPure []
  | k + 1 => pMap (fun x => x.1 :: x.2) (pSeq (p (k == 0)) fun _ => pMany p k)

theorem fits_many {α : Type} [Inhabited α] {p : Bool → Prs α} {f : α → List UInt8} {okA : α → Prop} {nz : α → Bool} (hp : ∀ last, Fits (p last) f (fun a => okA a ∧ (last = true → nz a = true))) :
    ∀ k, Fits (pMany p k) (fun l => (l.map f).flatten) (fun l => l.length = k ∧ (∀ x ∈ l, okA x) ∧ ∀ x, l.getLast? = some x → nz x = true)
  | 0 => (fits_pure []).congr (fun a h => by subst h; rfl) (fun a => by
      constructor
      · rintro rfl; simp
      · intro h; exact List.length_eq_zero_iff.1 h.1)
  | k + 1 => by
    have ih := fits_many hp k
    have hs := Fits.seq (hp (k == 0)) (fun _ _ => ih)
    have hm := hs.map (fun x => x.1 :: x.2) (fun l => (l.headD default, l.tail)) (fun l => l.length = k + 1 ∧ (∀ x ∈ l, okA x) ∧ ∀ x, l.getLast? = some x → nz x = true) ?_ ?_
    · refine hm.congr (fun l hl => ?_) (fun _ => Iff.rfl)
      cases l with
      | nil => simp at hl
      | cons x r => simp
    · rintro ⟨a, l⟩ ⟨⟨h1, h2⟩, h3, h4, h5⟩
      refine ⟨rfl, by simp at h3 ⊢; exact h3, by simpa using ⟨h1, h4⟩, fun x hx => ?_⟩
      cases l with
      | nil =>
        simp at h3 hx
        subst hx
        exact h2 (by simp [h3.symm])
      | cons y r => exact h5 x (by simpa using hx)
    · intro l hl
      cases l with
      | nil => simp at hl
      | cons x r =>
        obtain ⟨h1, h2, h3⟩ := hl
        have h1' : r.length = k := by simpa using h1
        refine ⟨rfl, ⟨h2 x (by simp), fun hk => ?_⟩, h1', fun y hy => h2 y (by simp; exact .inr hy), fun y hy => ?_⟩
        · have : r = [] := List.length_eq_zero_iff.1 (by simp at hk; omega)
          subst this
          exact h3 x (by simp)
        · cases r with
          | nil => simp at hy
          | cons z q => exact h3 y (by simpa using hy)

/-- How many there are up to the last one that is not zero. -/
def lenG {α : Type} (nz : α → Bool) : List α → Nat
  | [] => 0
  | x :: r => if lenG nz r = 0 then (if nz x then 1 else 0) else lenG nz r + 1

theorem lenG_le {α : Type} (nz : α → Bool) : ∀ l : List α, lenG nz l ≤ l.length
  | [] => by simp [lenG]
  | x :: r => by
    have := lenG_le nz r
    simp only [lenG, List.length_cons]
    split <;> (try split) <;> omega
theorem lenG_behind {α : Type} (nz : α → Bool) : ∀ (l : List α) (i : Nat) (x : α), lenG nz l ≤ i → l[i]? = some x → nz x = false
  | [], _, _, _, h => by simp at h
  | y :: r, i, x, hi, h => by
    simp only [lenG] at hi
    cases i with
    | zero =>
      simp at h; subst h
      split at hi
      · split at hi
        · omega
        · rename_i h0; simpa using h0
      · omega
    | succ i =>
      refine lenG_behind nz r i x ?_ (by simpa using h)
      split at hi <;> omega
theorem lenG_last {α : Type} (nz : α → Bool) : ∀ (l : List α) (x : α), (l.take (lenG nz l)).getLast? = some x → nz x = true
  | [], _, h => by simp at h
  | y :: r, x, h => by
    simp only [lenG] at h
    split at h
    · split at h
      · rename_i h0
        simp at h; subst h; exact h0
      · simp at h
    · rename_i h0
      rw [List.take_succ_cons] at h
      cases hr : r.take (lenG nz r) with
      | nil =>
        have h1 : (r.take (lenG nz r)).length = 0 := by rw [hr]; rfl
        have := lenG_le nz r
        rw [List.length_take] at h1
        omega
      | cons z q =>
        rw [hr] at h
        exact lenG_last nz r x (by rw [hr]; simpa using h)
theorem lenG_zeros {α : Type} (nz : α → Bool) (z : α) (hz : nz z = false) : ∀ n, lenG nz (List.replicate n z) = 0
  | 0 => rfl
  | n + 1 => by simp [List.replicate_succ, lenG, lenG_zeros nz z hz n, hz]
theorem lenG_pad {α : Type} (nz : α → Bool) (z : α) (hz : nz z = false) (n : Nat) : ∀ l : List α, (∀ x, l.getLast? = some x → nz x = true) → lenG nz (l ++ List.replicate n z) = l.length
  | [], _ => by simpa using lenG_zeros nz z hz n
  | [x], h => by simp [lenG, lenG_zeros nz z hz n, h x (by simp)]
  | x :: y :: r, h => by
    have := lenG_pad nz z hz n (y :: r) (fun a ha => h a (by simpa using ha))
    simp only [List.cons_append] at this ⊢
    rw [lenG, this]
    simp

/-- A row of eight: how many come, these; zeros behind. -/
def pad8 {α : Type} (z : α) (l : List α) : List α := l ++ List.replicate (8 - l.length) z
def pRowG {α : Type} (z : α) (p : Bool → Prs α) : Prs (List α) := pMap (fun x => pad8 z x.2) (pSeq (pNum 8) fun n => pMany p n.toNat)
def fRowG {α : Type} (nz : α → Bool) (f : α → List UInt8) (b : List α) : List UInt8 := formN (lenG nz b) ++ ((b.take (lenG nz b)).map f).flatten

theorem fits_row {α : Type} [Inhabited α] {p : Bool → Prs α} {f : α → List UInt8} {okA : α → Prop} {nz : α → Bool} {z : α} (hp : ∀ last, Fits (p last) f (fun a => okA a ∧ (last = true → nz a = true))) (hz : okA z) (hnz : nz z = false) (hone : ∀ x, okA x → nz x = false → x = z) :
    Fits (pRowG z p) (fRowG nz f) (fun b => b.length = 8 ∧ ∀ x ∈ b, okA x) := by
  have hs := Fits.seq (fits_num 8 (by decide)) (fun (n : Int) _ => fits_many hp n.toNat)
  have hm := hs.map (fun x => pad8 z x.2) (fun b => ((lenG nz b : Int), b.take (lenG nz b))) (fun b => b.length = 8 ∧ ∀ x ∈ b, okA x) ?_ ?_
  · exact hm.congr (fun b hb => by simp only [fN, fRowG, Int.toNat_natCast]) (fun _ => Iff.rfl)
  · rintro ⟨n, l⟩ ⟨⟨h1, h2⟩, h3, h4, h5⟩
    have hl : lenG nz (pad8 z l) = l.length := lenG_pad nz z hnz _ l h5
    simp only at h1 h2 h3
    refine ⟨?_, ?_, fun x hx => ?_⟩
    · simp only [hl, Prod.mk.injEq]
      refine ⟨by omega, ?_⟩
      simp [pad8]
    · simp only [pad8, List.length_append, List.length_replicate]; omega
    · simp only [pad8, List.mem_append, List.mem_replicate] at hx
      rcases hx with hx | hx
      · exact h4 x hx
      · rw [hx.2]; exact hz
  · intro b ⟨hb, hall⟩
    have hle := lenG_le nz b
    have hlt : (b.take (lenG nz b)).length = lenG nz b := by rw [List.length_take]; omega
    refine ⟨?_, ⟨by omega, by omega⟩, ?_, fun x hx => hall x (List.mem_of_mem_take hx), fun x hx => lenG_last nz b x hx⟩
    · simp only [pad8, hlt]
      refine List.ext_getElem? fun i => ?_
      by_cases hi : i < lenG nz b
      · rw [List.getElem?_append_left (by omega), List.getElem?_take, if_pos hi]
      · rw [List.getElem?_append_right (by omega), hlt]
        by_cases h8 : i < 8
        · have hx : b[i]? = some b[i] := List.getElem?_eq_getElem (by omega)
          rw [hx, hone _ (hall _ (List.getElem_mem (by omega))) (lenG_behind nz b i _ (by omega) hx), List.getElem?_replicate, if_pos (by omega)]
        · rw [List.getElem?_eq_none (l := b) (by omega), List.getElem?_eq_none (by rw [List.length_replicate]; omega)]
    · simp only [hlt, Int.toNat_natCast]

/-- A row of numbers: a clock, votes. -/
abbrev nzI (x : Int) : Bool := x != 0
def pRow (most : Int) : Prs (List Int) := pRowG 0 (pEntry most)
def fRow : List Int → List UInt8 := fRowG nzI fN
def okRow (most : Int) (b : List Int) : Prop := b.length = 8 ∧ ∀ x ∈ b, 0 ≤ x ∧ x ≤ most
theorem fits_rowI (most : Int) (hm : most ≤ mx63) (h0 : 0 ≤ most) : Fits (pRow most) fRow (okRow most) :=
  fits_row (fits_entry most hm) ⟨by omega, h0⟩ (by simp) (fun x _ h => by simpa using h)

/-- An operation as a message tells it: Kind, Replica, At, Char. -/
abbrev Pop := Int × Int × Int × Int
def pOp : Prs Pop := pSeq (pKind 3) fun k => pSeq (pNum 7) fun _ => pSeq (pNum mx63) fun _ => if k = 1 then pNum 1114111 else pPure 0
def fOp (o : Pop) : List UInt8 := UInt8.ofNat o.1.toNat :: (fN o.2.1 ++ (fN o.2.2.1 ++ if o.1 = 1 then fN o.2.2.2 else []))
def okOp (o : Pop) : Prop := (1 ≤ o.1 ∧ o.1 ≤ 3) ∧ (0 ≤ o.2.1 ∧ o.2.1 ≤ 7) ∧ (0 ≤ o.2.2.1 ∧ o.2.2.1 ≤ mx63) ∧ (0 ≤ o.2.2.2 ∧ o.2.2.2 ≤ if o.1 = 1 then 1114111 else 0)
theorem fits_op : Fits pOp fOp okOp := by
  have h := Fits.seq (fits_kind 3 (by decide)) (g := fun k (x : Int × Int × Int) => fN x.1 ++ (fN x.2.1 ++ if k = 1 then fN x.2.2 else [])) (okB := fun k x => (0 ≤ x.1 ∧ x.1 ≤ 7) ∧ (0 ≤ x.2.1 ∧ x.2.1 ≤ mx63) ∧ (0 ≤ x.2.2 ∧ x.2.2 ≤ if k = 1 then 1114111 else 0)) (q := fun k => pSeq (pNum 7) fun _ => pSeq (pNum mx63) fun _ => if k = 1 then pNum 1114111 else pPure 0) (fun k hk => ?_)
  · exact h.congr (fun a _ => rfl) (fun a => Iff.rfl)
  · refine Fits.seq (g := fun _ (x : Int × Int) => fN x.1 ++ if k = 1 then fN x.2 else []) (okB := fun _ (x : Int × Int) => (0 ≤ x.1 ∧ x.1 ≤ mx63) ∧ (0 ≤ x.2 ∧ x.2 ≤ if k = 1 then 1114111 else 0)) (fits_num 7 (by decide)) (fun _ _ => ?_)
    refine Fits.seq (g := fun _ x => if k = 1 then fN x else []) (okB := fun _ x => 0 ≤ x ∧ x ≤ if k = 1 then 1114111 else 0) (fits_num mx63 (Int.le_refl _)) (fun _ _ => ?_)
    by_cases h1 : k = 1
    · simp only [if_pos h1]; exact fits_num 1114111 (by decide)
    · simp only [if_neg h1]
      exact (fits_pure 0).congr (fun _ _ => rfl) (fun a => by omega)

/-- An act: its operation, Number, Clock. -/
abbrev Pac := Pop × Int × List Int
def pAct : Prs Pac := pSeq pOp fun _ => pSeq (pNz mx63) fun _ => pRow mx63
def fAct (a : Pac) : List UInt8 := fOp a.1 ++ (fN a.2.1 ++ fRow a.2.2)
def okAct (a : Pac) : Prop := okOp a.1 ∧ (0 < a.2.1 ∧ a.2.1 ≤ mx63) ∧ okRow mx63 a.2.2
theorem fits_act : Fits pAct fAct okAct :=
  Fits.seq fits_op fun _ _ => Fits.seq (fits_nz mx63 (Int.le_refl _)) fun _ _ => fits_rowI mx63 (Int.le_refl _) (by decide)

/-- A round: Number, Cut, Votes, Decision. -/
abbrev Prn := Int × List Int × List Int × Int
def zero8 : List Int := List.replicate 8 0
def zeroR : Prn := (0, zero8, zero8, 0)
def pRnd (last : Bool) : Prs Prn := pSeq (pEntry mx63 last) fun n => if n = 0 then pPure (zero8, zero8, 0) else pSeq (pRow mx63) fun _ => pSeq (pRow 2) fun _ => pNum 2
def fRnd (r : Prn) : List UInt8 := fN r.1 ++ if r.1 = 0 then [] else fRow r.2.1 ++ (fRow r.2.2.1 ++ fN r.2.2.2)
def okRnd (r : Prn) : Prop := (0 ≤ r.1 ∧ r.1 ≤ mx63) ∧ if r.1 = 0 then r.2 = (zero8, zero8, 0) else okRow mx63 r.2.1 ∧ okRow 2 r.2.2.1 ∧ (0 ≤ r.2.2.2 ∧ r.2.2.2 ≤ 2)
abbrev nzR (r : Prn) : Bool := r.1 != 0
theorem fits_rnd (last : Bool) : Fits (pRnd last) fRnd (fun r => okRnd r ∧ (last = true → nzR r = true)) := by
  have h := Fits.seq (fits_entry mx63 (Int.le_refl _) last) (q := fun n => if n = 0 then pPure (zero8, zero8, 0) else pSeq (pRow mx63) fun _ => pSeq (pRow 2) fun _ => pNum 2) (g := fun n (x : List Int × List Int × Int) => if n = 0 then [] else fRow x.1 ++ (fRow x.2.1 ++ fN x.2.2)) (okB := fun n x => if n = 0 then x = (zero8, zero8, 0) else okRow mx63 x.1 ∧ okRow 2 x.2.1 ∧ (0 ≤ x.2.2 ∧ x.2.2 ≤ 2)) (fun n _ => ?_)
  · exact h.congr (fun _ _ => rfl) (fun a => by unfold okRnd; constructor <;> (intro ⟨⟨h1, h2⟩, h3⟩; exact ⟨⟨h1, by first | exact h3 | exact h2⟩, by first | exact h2 | exact h3⟩))
  · by_cases h0 : n = 0
    · simp only [if_pos h0]; exact fits_pure _
    · simp only [if_neg h0]
      exact Fits.seq (fits_rowI mx63 (Int.le_refl _) (by decide)) fun _ _ => Fits.seq (fits_rowI 2 (by decide) (by decide)) fun _ _ => fits_num 2 (by decide)

def pRnds : Prs (List Prn) := pRowG zeroR pRnd
def fRnds : List Prn → List UInt8 := fRowG nzR fRnd
def okRnds (b : List Prn) : Prop := b.length = 8 ∧ ∀ r ∈ b, okRnd r
theorem fits_rnds : Fits pRnds fRnds okRnds :=
  fits_row fits_rnd (by simp [okRnd, zeroR, mx63]) (by simp [zeroR]) (fun x h h0 => by
    have h1 : x.1 = 0 := by simpa using h0
    unfold okRnd at h
    rw [if_pos h1] at h
    obtain ⟨a, b⟩ := x
    simp only at h h1
    rw [h1, h.2]
    rfl)

/-- Acts: how many, these. -/
def pCnt : Prs Int := fun bs pl => match cntR (bs.drop pl) 4 2147483647 with
  | .error c => .error (.wire nmCount pl c)
  | .ok (n, k) => .ok ((n : Int), pl + k)
def pTimes {α : Type} (p : Prs α) : Nat → Prs (List α)
  | 0 => pPure []
  | k + 1 => pMap (fun x => x.1 :: x.2) (pSeq p fun _ => pTimes p k)
theorem fits_times {α : Type} [Inhabited α] {p : Prs α} {f : α → List UInt8} {okA : α → Prop} (hp : Fits p f okA) :
    ∀ k, Fits (pTimes p k) (fun l => (l.map f).flatten) (fun l => l.length = k ∧ ∀ x ∈ l, okA x)
  | 0 => (fits_pure []).congr (fun a h => by subst h; rfl) (fun a => by
      constructor
      · rintro rfl; simp
      · intro h; exact List.length_eq_zero_iff.1 h.1)
  | k + 1 => by
    have hs := Fits.seq hp (fun _ _ => fits_times hp k)
    have hm := hs.map (fun x => x.1 :: x.2) (fun l => (l.headD default, l.tail)) (fun l => l.length = k + 1 ∧ ∀ x ∈ l, okA x) ?_ ?_
    · refine hm.congr (fun l hl => ?_) (fun _ => Iff.rfl)
      cases l with
      | nil => simp at hl
      | cons x r => simp
    · rintro ⟨a, l⟩ ⟨h1, h3, h4⟩
      exact ⟨rfl, by simp at h3 ⊢; exact h3, by simpa using ⟨h1, h4⟩⟩
    · intro l hl
      cases l with
      | nil => simp at hl
      | cons x r =>
        obtain ⟨h1, h2⟩ := hl
        exact ⟨rfl, h2 x (by simp), by simpa using h1, fun y hy => h2 y (by simp; exact .inr hy)⟩

def pActs : Prs (List Pac) := pMap (fun x => x.2) (pSeq pCnt fun n => pTimes pAct n.toNat)
def fActs (l : List Pac) : List UInt8 := formN l.length ++ (l.map fAct).flatten
def okActs (l : List Pac) : Prop := l.length ≤ 2147483647 ∧ ∀ a ∈ l, okAct a

theorem formN_pos (n : Nat) : 0 < (formN n).length := List.length_pos_iff.2 (form_ne n)
theorem fN_pos (x : Int) : 0 < (fN x).length := formN_pos _
theorem fAct_len (a : Pac) : 4 ≤ (fAct a).length := by
  have h1 := fN_pos a.1.2.1
  have h2 := fN_pos a.1.2.2.1
  have h3 := fN_pos a.2.1
  simp only [fAct, fOp, List.length_append, List.length_cons]
  omega
theorem flat_len : ∀ l : List Pac, 4 * l.length ≤ ((l.map fAct).flatten).length
  | [] => by simp
  | a :: r => by
    have h1 := fAct_len a
    have h2 := flat_len r
    simp only [List.map_cons, List.flatten_cons, List.length_append, List.length_cons]
    omega

theorem fits_acts : Fits pActs fActs okActs := by
  constructor
  · intro bs pl l q h
    unfold pActs at h
    cases hc : cntR (bs.drop pl) 4 2147483647 with
    | error c =>
      have h1 : pCnt bs pl = .error (.wire nmCount pl c) := by unfold pCnt; rw [hc]
      rw [pMap_err (pSeq_err h1)] at h
      cases h
    | ok y =>
      obtain ⟨n, k⟩ := y
      have h1 : pCnt bs pl = .ok ((n : Int), pl + k) := by unfold pCnt; rw [hc]
      have hn : numR (bs.drop pl) 2147483647 = .ok (n, k) := by
        unfold cntR at hc
        cases hn : numR (bs.drop pl) 2147483647 with
        | error c => rw [hn] at hc; cases hc
        | ok y =>
          rw [hn] at hc
          simp only at hc
          by_cases hlt : (((bs.drop pl).length - y.2 : Nat) : Int) / (if (4 : Int) < 1 then 1 else 4) < (y.1 : Int)
          · rw [if_pos hlt] at hc; cases hc
          · rw [if_neg hlt] at hc; obtain ⟨a, b⟩ := y; simpa using hc
      have h1' : pNum 2147483647 bs pl = .ok ((n : Int), pl + k) := by unfold pNum; rw [hn]
      obtain ⟨o1, d1, e1⟩ := (fits_num 2147483647 (by decide)).sound _ _ _ _ h1'
      cases h2 : pTimes pAct ((n : Int).toNat) bs (pl + k) with
      | error e => rw [pMap_err (pSeq_err2 h1 h2)] at h; cases h
      | ok y =>
        obtain ⟨m, k2⟩ := y
        obtain ⟨⟨o2, o3⟩, d2, e2⟩ := (fits_times fits_act _).sound _ _ _ _ h2
        rw [pMap_ok (pSeq_ok h1 h2)] at h
        simp only [Except.ok.injEq, Prod.mk.injEq] at h
        obtain ⟨rfl, rfl⟩ := h
        simp only [Int.toNat_natCast] at o2
        have hf : fN (n : Int) = formN m.length := by unfold fN; rw [o2]; rfl
        rw [hf] at d1 e1
        refine ⟨⟨by omega, o3⟩, ?_, ?_⟩
        · rw [d1, d2]; simp only [fActs, List.append_assoc]
        · simp only [fActs, List.length_append]; omega
  · intro bs pl l r ⟨ho, hall⟩ hd
    unfold pActs
    simp only [fActs, List.append_assoc] at hd
    have hn := numR_back (n := l.length) (most := 2147483647) ((l.map fAct).flatten ++ r) (by omega) (by omega)
    have hc : cntR (bs.drop pl) 4 2147483647 = .ok (l.length, (formN l.length).length) := by
      unfold cntR
      rw [hd, hn]
      simp only
      rw [if_neg]
      have hfl := flat_len l
      simp only [List.length_append]
      have e1 : (formN l.length).length + (((l.map fAct).flatten).length + r.length) - (formN l.length).length = ((l.map fAct).flatten).length + r.length := by omega
      rw [e1]
      simp only [show ¬ ((4 : Int) < 1) by decide, if_false]
      omega
    have h1 : pCnt bs pl = .ok ((l.length : Int), pl + (formN l.length).length) := by unfold pCnt; rw [hc]
    have h2 := (fits_times fits_act l.length).back bs (pl + (formN l.length).length) l r ⟨rfl, hall⟩ (drop_more hd)
    rw [pMap_ok (pSeq_ok h1 (by rw [Int.toNat_natCast]; exact h2))]
    simp only [fActs, List.length_append, Nat.add_assoc]

/-- A message: Kind, From, Epoch; Clock, Acts, Rounds. -/
abbrev Pms := Int × Int × Int × List Int × List Pac × List Prn
def zeroRs : List Prn := List.replicate 8 zeroR
def pBody (k : Int) : Prs (List Int × List Pac × List Prn) := pSeq (if k = 2 then pRow mx63 else pPure zero8) fun _ => pSeq (if k = 1 ∨ k = 3 then pActs else pPure []) fun _ => if k = 3 ∨ k = 4 then pRnds else pPure zeroRs
def pMsg : Prs Pms := pSeq (pKind 4) fun k => pSeq (pNum 7) fun _ => pSeq (pNum mx63) fun _ => pBody k
def fBody (k : Int) (x : List Int × List Pac × List Prn) : List UInt8 := (if k = 2 then fRow x.1 else []) ++ ((if k = 1 ∨ k = 3 then fActs x.2.1 else []) ++ if k = 3 ∨ k = 4 then fRnds x.2.2 else [])
def okBody (k : Int) (x : List Int × List Pac × List Prn) : Prop := (if k = 2 then okRow mx63 x.1 else x.1 = zero8) ∧ (if k = 1 ∨ k = 3 then okActs x.2.1 else x.2.1 = []) ∧ if k = 3 ∨ k = 4 then okRnds x.2.2 else x.2.2 = zeroRs
def fMsg (m : Pms) : List UInt8 := UInt8.ofNat m.1.toNat :: (fN m.2.1 ++ (fN m.2.2.1 ++ fBody m.1 m.2.2.2))
def okMsg (m : Pms) : Prop := (1 ≤ m.1 ∧ m.1 ≤ 4) ∧ (0 ≤ m.2.1 ∧ m.2.1 ≤ 7) ∧ (0 ≤ m.2.2.1 ∧ m.2.2.1 ≤ mx63) ∧ okBody m.1 m.2.2.2
theorem fits_if {α : Type} {c : Prop} [Decidable c] {p : Prs α} {f : α → List UInt8} {ok : α → Prop} (h : Fits p f ok) (z : α) : Fits (if c then p else pPure z) (fun a => if c then f a else []) (fun a => if c then ok a else a = z) := by
  by_cases hc : c
  · simp only [if_pos hc]; exact h
  · simp only [if_neg hc]; exact fits_pure z
theorem fits_body (k : Int) : Fits (pBody k) (fBody k) (okBody k) :=
  Fits.seq (fits_if (fits_rowI mx63 (Int.le_refl _) (by decide)) zero8) fun _ _ => Fits.seq (fits_if fits_acts []) fun _ _ => fits_if fits_rnds zeroRs
theorem fits_msg : Fits pMsg fMsg okMsg :=
  Fits.seq (fits_kind 4 (by decide)) fun k _ => Fits.seq (fits_num 7 (by decide)) fun _ _ => Fits.seq (fits_num mx63 (Int.le_refl _)) fun _ _ => fits_body k

/-- P9.2: a whole message. -/
def readM (bs : List UInt8) : Except Pe Pms := match pMsg bs 0 with
  | .error e => .error e
  | .ok (m, q) => match endR (bs.drop q) with
    | .error c => .error (.wire nmEnd q c)
    | .ok _ => .ok m
theorem readM_err {bs : List UInt8} {e : Pe} (h : pMsg bs 0 = .error e) : readM bs = .error e := by unfold readM; rw [h]
theorem readM_end {bs : List UInt8} {m : Pms} {q c : Nat} (h : pMsg bs 0 = .ok (m, q)) (h2 : endR (bs.drop q) = .error c) : readM bs = .error (.wire nmEnd q c) := by unfold readM; rw [h]; simp only [h2]
theorem readM_ok {bs : List UInt8} {m : Pms} {q : Nat} {u : Unit × Nat} (h : pMsg bs 0 = .ok (m, q)) (h2 : endR (bs.drop q) = .ok u) : readM bs = .ok m := by unfold readM; rw [h]; simp only [h2]

/-- P9.4: what is read is right, and its form is what was read. -/
theorem readM_one {bs : List UInt8} {m : Pms} (h : readM bs = .ok m) : okMsg m ∧ fMsg m = bs := by
  cases h1 : pMsg bs 0 with
  | error e => rw [readM_err h1] at h; cases h
  | ok y =>
    obtain ⟨m', q⟩ := y
    obtain ⟨o, d, _⟩ := fits_msg.sound _ _ _ _ h1
    cases hd : bs.drop q with
    | nil =>
      rw [readM_ok (u := ((), 0)) h1 (by rw [hd]; rfl)] at h
      cases h
      rw [hd] at d
      simp at d
      exact ⟨o, d.symm⟩
    | cons b r => rw [readM_end (c := 5) h1 (by rw [hd]; rfl)] at h; cases h
/-- P9.4: a right message's form is read as it. -/
theorem readM_back {m : Pms} (h : okMsg m) : readM (fMsg m) = .ok m := by
  have h1 := fits_msg.back (fMsg m) 0 m [] h (by simp)
  rw [Nat.zero_add] at h1
  exact readM_ok (u := ((), 0)) h1 (by simp [endR])
theorem readM_cut {m : Pms} (h : okMsg m) {k : Nat} (hk : k < (fMsg m).length) : ∃ e, readM ((fMsg m).take k) = .error e := by
  cases h1 : readM ((fMsg m).take k) with
  | error e => exact ⟨e, rfl⟩
  | ok m' =>
    exfalso
    obtain ⟨o, e⟩ := readM_one h1
    have h2 := fits_msg.back (fMsg m) 0 m' ((fMsg m).drop k) o (by rw [e]; simp)
    have h3 := fits_msg.back (fMsg m) 0 m [] h (by simp)
    rw [h3] at h2
    simp only [Except.ok.injEq, Prod.mk.injEq] at h2
    have h4 := congrArg List.length e
    rw [List.length_take] at h4
    omega
theorem readM_more {m : Pms} (h : okMsg m) (b : UInt8) : ∃ e, readM (fMsg m ++ [b]) = .error e := by
  have h3 := fits_msg.back (fMsg m ++ [b]) 0 m [b] h (by simp)
  exact ⟨_, readM_end (c := 5) h3 (by simp [endR])⟩
theorem fMsg_inj {a b : Pms} (ha : okMsg a) (hb : okMsg b) (h : fMsg a = fMsg b) : a = b := by
  have h1 := readM_back ha
  rw [h, readM_back hb] at h1
  simpa using h1.symm
end Go.Proofs.YteffpnjgchihpaaGreatDoor
