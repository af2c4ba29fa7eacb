
/-
  Acts that are one, made alike; delivering by an inbox: plain lists.
-/
import Derived.Test.YtlgdaaofpjpobaaDoorZca28
namespace Go.Proofs.YtlgdaaofpjpobaaDoor
open Go.RowKit
set_option maxRecDepth 100000

/-- Are two acts one? -/
def oneB (x y : Ac) : Bool := x.rep == y.rep && x.num == y.num
theorem oneB_iff {x y : Ac} : oneB x y = true ↔ x.one y := by unfold oneB Ac.one; simp
/-- The first one that is one with x. -/
def fstOne (l : List Ac) (x : Ac) : Ac := (l.find? (fun y => oneB y x)).getD x
/-- All made alike. -/
def alikeL (l : List Ac) : List Ac := l.map (fstOne l)
theorem fst_one (l : List Ac) (x : Ac) : (fstOne l x).one x := by
  unfold fstOne
  cases hf : l.find? (fun y => oneB y x) with
  | none => exact ⟨rfl, rfl⟩
  | some y =>
    have h1 : oneB y x = true := List.find?_some (p := fun y => oneB y x) hf
    exact oneB_iff.1 h1
theorem fst_mem {l : List Ac} {x : Ac} (hx : x ∈ l) : fstOne l x ∈ l := by
  unfold fstOne
  cases hf : l.find? (fun y => oneB y x) with
  | none => exact hx
  | some y => exact List.mem_of_find?_eq_some hf
theorem fst_congr {l : List Ac} {x y : Ac} (h : x.one y) (_hx : x ∈ l) (hy : y ∈ l) : fstOne l x = fstOne l y := by
  unfold fstOne
  have e : (fun z => oneB z x) = fun z => oneB z y := by
    funext z; unfold oneB; rw [h.1, h.2]
  rw [e]
  cases hf : l.find? (fun z => oneB z y) with
  | some z => rfl
  | none =>
    rw [List.find?_eq_none] at hf
    exact absurd (oneB_iff.2 ⟨rfl, rfl⟩) (hf y hy)
theorem alike_one {l : List Ac} {x y : Ac} (hx : x ∈ alikeL l) (hy : y ∈ alikeL l) (h : x.one y) : x = y := by
  obtain ⟨x', hx', rfl⟩ := List.mem_map.1 hx
  obtain ⟨y', hy', rfl⟩ := List.mem_map.1 hy
  have h1 := fst_one l x'
  have h2 := fst_one l y'
  exact fst_congr ⟨h1.1.symm.trans (h.1.trans h2.1), h1.2.symm.trans (h.2.trans h2.2)⟩ hx' hy'
theorem alike_mem {l : List Ac} {x : Ac} (hx : x ∈ alikeL l) : x ∈ l := by
  obtain ⟨x', hx', rfl⟩ := List.mem_map.1 hx
  exact fst_mem hx'
theorem fst_new {l : List Ac} {i : Nat} {x : Ac} (hx : l[i]? = some x) (hno : ∀ j z, j < i → l[j]? = some z → ¬ z.one x) : fstOne l x = x := by
  have hi := (List.getElem?_eq_some_iff.1 hx).1
  have hf : l.find? (fun y => oneB y x) = some x := by
    rw [List.find?_eq_some_iff_append]
    refine ⟨oneB_iff.2 ⟨rfl, rfl⟩, l.take i, l.drop (i + 1), ?_, fun z hz => ?_⟩
    · rw [show x = l[i] from (Option.some.inj ((List.getElem?_eq_getElem hi).symm.trans hx)).symm, List.getElem_cons_drop hi, List.take_append_drop]
    · obtain ⟨j, hj⟩ := List.getElem?_of_mem hz
      have hji : j < i := by
        have := (List.getElem?_eq_some_iff.1 hj).1
        rw [List.length_take] at this
        omega
      rw [List.getElem?_take, if_pos hji] at hj
      cases ho : oneB z x with
      | false => rfl
      | true => exact absurd (oneB_iff.1 ho) (hno j z hji hj)
  unfold fstOne
  rw [hf]
  rfl
theorem rdy_named {c : List Int} {x : Ac} (hr : rdyC c x = true) : x.named = true := by
  obtain ⟨r, h1, _, h8, h3, _⟩ := rdy_at hr
  unfold Ac.named
  simp only [Bool.and_eq_true, decide_eq_true_eq]
  omega
/-- How far delivering has come: of the first i acts. -/
structure DvI (h : List Int) (L : List Ac) (i : Nat) (s : List Ac) (c : List Int) (lost : Bool) (row : List Ac) : Prop where
  at' : c = dlv h s
  ok : okD h s
  sub : ∀ x ∈ s, x ∈ L
  len : s.length + row.length ≤ i
  rsub : ∀ x ∈ row, x ∈ L
  seen : lost = false → ∀ x ∈ L.take i, x.named = false ∨ hasA c x = true ∨ x ∈ row
  none' : ∀ y ∈ row, rdyC c y = false
/-- Within the inner loop: one is about to be delivered. -/
structure DvA (h : List Int) (L : List Ac) (i : Nat) (s : List Ac) (c : List Int) (lost : Bool) (row : List Ac) (a : Ac) : Prop where
  at' : c = dlv h s
  ok : okD h s
  sub : ∀ x ∈ s, x ∈ L
  len : s.length + row.length + 1 ≤ i
  rsub : ∀ x ∈ row, x ∈ L
  seen : lost = false → ∀ x ∈ L.take i, x.named = false ∨ hasA c x = true ∨ x ∈ row ∨ x = a
  rdy : rdyC c a = true
  mem : a ∈ L
theorem DvI.start (h : List Int) (L : List Ac) : DvI h L 0 [] h false [] :=
  ⟨rfl, trivial, (fun x hx => by cases hx), by simp, (fun x hx => by cases hx), (fun _ x hx => by simp at hx), fun x hx => by cases hx⟩
theorem take_next {L : List Ac} {i : Nat} {x : Ac} (hx : L[i]? = some x) : L.take (i + 1) = L.take i ++ [x] := by rw [List.take_add_one, hx]; rfl
theorem DvI.c8 {h : List Int} {L : List Ac} {i : Nat} {s : List Ac} {c : List Int} {lost : Bool} {row : List Ac} (I : DvI h L i s c lost row) (hl : h.length = 8) : c.length = 8 := by rw [I.at']; exact dlv_len hl s
/-- An act that is offered and not Ready. -/
theorem DvI.offer {h : List Int} {L : List Ac} {i : Nat} {s : List Ac} {c : List Int} {lost : Bool} {row : List Ac} (I : DvI h L i s c lost row) (ho : ∀ x y, x ∈ L → y ∈ L → x.one y → x = y) {m : Int} {x : Ac} (hx : L[i]? = some x) (hne : (offR c m row x).1 ≠ 1) :
    DvI h L (i + 1) s c (lost || decide ((offR c m row x).1 = 5)) (offR c m row x).2 := by
  have hxL := List.mem_of_getElem? hx
  have stay : ∀ (b : Bool), (b = false → x.named = false ∨ hasA c x = true ∨ x ∈ row) → DvI h L (i + 1) s c (lost || b) row := fun b hb => by
    refine ⟨I.at', I.ok, I.sub, by have := I.len; omega, I.rsub, fun hl y hy => ?_, I.none'⟩
    rw [Bool.or_eq_false_iff] at hl
    rw [take_next hx] at hy
    rcases List.mem_append.1 hy with hy | hy
    · exact I.seen hl.1 y hy
    · rw [List.mem_singleton] at hy; subst hy; exact hb hl.2
  by_cases h1 : x.named = false ∨ hasA c x = true
  · have e : offR c m row x = (2, row) := by unfold offR; rw [if_pos h1]
    rw [e]
    exact stay _ (fun _ => h1.elim .inl (fun q => .inr (.inl q)))
  · by_cases h2 : rdyC c x = true
    · have e : offR c m row x = (1, row) := by unfold offR; rw [if_neg h1, if_pos h2]
      rw [e] at hne
      exact absurd rfl hne
    · by_cases h3 : namesOf row x.rep x.num = true
      · have e : offR c m row x = (4, row) := by unfold offR; rw [if_neg h1, if_neg h2, if_pos h3]
        rw [e]
        refine stay _ (fun _ => .inr (.inr ?_))
        unfold namesOf at h3
        rw [List.any_eq_true] at h3
        obtain ⟨y, hy, hn⟩ := h3
        simp only [Bool.and_eq_true, decide_eq_true_eq] at hn
        have := ho y x (I.rsub y hy) hxL hn
        rw [← this]; exact hy
      · by_cases h4 : m ≤ (row.length : Int)
        · have e : offR c m row x = (5, row) := by unfold offR; rw [if_neg h1, if_neg h2, if_neg h3, if_pos h4]
          rw [e]
          exact stay _ (fun hb => by simp at hb)
        · have e : offR c m row x = (3, row ++ [x]) := by unfold offR; rw [if_neg h1, if_neg h2, if_neg h3, if_neg h4]
          rw [e]
          refine ⟨I.at', I.ok, I.sub, ?_, ?_, ?_, ?_⟩
          · have := I.len; simp only [List.length_append, List.length_singleton]; omega
          · intro y hy
            rcases List.mem_append.1 hy with hy | hy
            · exact I.rsub y hy
            · rw [List.mem_singleton] at hy; subst hy; exact hxL
          · intro hl y hy
            rw [Bool.or_eq_false_iff] at hl
            rw [take_next hx] at hy
            rcases List.mem_append.1 hy with hy | hy
            · rcases I.seen hl.1 y hy with q | q | q
              · exact .inl q
              · exact .inr (.inl q)
              · exact .inr (.inr (by simp [q]))
            · exact .inr (.inr (by simp at hy; simp [hy]))
          · intro y hy
            rcases List.mem_append.1 hy with hy | hy
            · exact I.none' y hy
            · rw [List.mem_singleton] at hy; subst hy; simpa using h2
/-- An act that is offered and Ready. -/
theorem DvI.ready {h : List Int} {L : List Ac} {i : Nat} {s : List Ac} {c : List Int} {lost : Bool} {row : List Ac} (I : DvI h L i s c lost row) {m : Int} {x : Ac} (hx : L[i]? = some x) (he : (offR c m row x).1 = 1) :
    (offR c m row x).2 = row ∧ DvA h L (i + 1) s c lost row x := by
  have hr : rdyC c x = true ∧ offR c m row x = (1, row) := by
    unfold offR at he ⊢
    by_cases h1 : x.named = false ∨ hasA c x = true
    · rw [if_pos h1] at he; simp at he
    · rw [if_neg h1] at he ⊢
      by_cases h2 : rdyC c x = true
      · rw [if_pos h2]; exact ⟨h2, rfl⟩
      · rw [if_neg h2] at he
        split at he
        · simp at he
        · split at he <;> simp at he
  refine ⟨by rw [hr.2], I.at', I.ok, I.sub, by have := I.len; omega, I.rsub, fun hl y hy => ?_, hr.1, List.mem_of_getElem? hx⟩
  rw [take_next hx] at hy
  rcases List.mem_append.1 hy with hy | hy
  · rcases I.seen hl y hy with q | q | q
    · exact .inl q
    · exact .inr (.inl q)
    · exact .inr (.inr (.inl q))
  · exact .inr (.inr (.inr (by simpa using hy)))
/-- It is delivered, and Next tells none. -/
theorem DvA.done {h : List Int} {L : List Ac} {i : Nat} {s : List Ac} {c : List Int} {lost : Bool} {row : List Ac} {a : Ac} (I : DvA h L i s c lost row a) (hl : h.length = 8) (hno : ∀ y ∈ row, rdyC (adv c a) y = false) : DvI h L i (s ++ [a]) (adv c a) lost row := by
  have hc : c.length = 8 := by rw [I.at']; exact dlv_len hl s
  refine ⟨by rw [dlv_app, ← I.at']; rfl, by rw [okD_app, ← I.at']; exact ⟨I.ok, I.rdy, trivial⟩, ?_, ?_, I.rsub, ?_, hno⟩
  · intro y hy
    rcases List.mem_append.1 hy with hy | hy
    · exact I.sub y hy
    · rw [List.mem_singleton] at hy; subst hy; exact I.mem
  · have := I.len; simp only [List.length_append, List.length_singleton]; omega
  · intro hlo y hy
    rcases I.seen hlo y hy with q | q | q | q
    · exact .inl q
    · exact .inr (.inl (has_mono (adv_le hc I.rdy) q))
    · exact .inr (.inr q)
    · subst q; exact .inr (.inl (rdy_has hc I.rdy))
/-- It is delivered, and Next tells another one. -/
theorem DvA.more {h : List Int} {L : List Ac} {i : Nat} {s : List Ac} {c : List Int} {lost : Bool} {row : List Ac} {a : Ac} (I : DvA h L i s c lost row a) (hl : h.length = 8) {j : Nat} {y : Ac} (hy : row[j]? = some y) (hr : rdyC (adv c a) y = true) : DvA h L i (s ++ [a]) (adv c a) lost (row.take j ++ row.drop (j + 1)) y := by
  have hc : c.length = 8 := by rw [I.at']; exact dlv_len hl s
  have hj := (List.getElem?_eq_some_iff.1 hy).1
  refine ⟨by rw [dlv_app, ← I.at']; rfl, by rw [okD_app, ← I.at']; exact ⟨I.ok, I.rdy, trivial⟩, ?_, ?_, ?_, ?_, hr, I.rsub y (List.mem_of_getElem? hy)⟩
  · intro z hz
    rcases List.mem_append.1 hz with hz | hz
    · exact I.sub z hz
    · rw [List.mem_singleton] at hz; subst hz; exact I.mem
  · have := I.len
    simp only [List.length_append, List.length_singleton, List.length_take, List.length_drop]
    omega
  · exact fun z hz => I.rsub z ((take_drop_sub row j).subset hz)
  · intro hlo z hz
    rcases I.seen hlo z hz with q | q | q | q
    · exact .inl q
    · exact .inr (.inl (has_mono (adv_le hc I.rdy) q))
    · have hsp : row = row.take j ++ y :: row.drop (j + 1) := by
        rw [show y = row[j] from (Option.some.inj ((List.getElem?_eq_getElem hj).symm.trans hy)).symm, List.getElem_cons_drop hj, List.take_append_drop]
      rw [hsp] at q
      rcases List.mem_append.1 q with q | q
      · exact .inr (.inr (.inl (by simp [q])))
      · rcases List.mem_cons.1 q with q | q
        · exact .inr (.inr (.inr q))
        · exact .inr (.inr (.inl (by simp [q])))
    · subst q; exact .inr (.inl (rdy_has hc I.rdy))
/-- In the end. -/
theorem DvI.all {h : List Int} {L : List Ac} {s : List Ac} {c : List Int} {row : List Ac} (I : DvI h L L.length s c false row) (hl : h.length = 8) : s.length = (ordL L h).length := by
  refine one_length hl I.ok (ordS_ok _ _).1 I.sub (ordS_ok _ _).2 ?_ (ordS_end _ _ hl (lack_len h L))
  intro x hx
  rw [← I.at']
  rcases I.seen rfl x (by rw [List.take_length]; exact hx) with q | q | q
  · cases hr : rdyC c x with
    | false => rfl
    | true => rw [rdy_named hr] at q; cases q
  · cases hr : rdyC c x with
    | false => rfl
    | true => rw [rdy_lack hr] at q; cases q
  · exact I.none' x q
end Go.Proofs.YtlgdaaofpjpobaaDoor
