
/-
  (*Reader).Number, Count, Text, Byte, End. A region that draws its order, walked by an invariant: whatever comes up yields its one value, and the world is told by what has come up.
-/
import Derived.Test.YteffpnjgchihpaaGreatDoorPB10
import Derived.Test.YteffpnjgchihpaaGreatDoorPB07
namespace Go.Proofs.YteffpnjgchihpaaGreatDoor
open Go.RowKit
set_option maxRecDepth 100000

/-- The refusal that a Reader keeps. -/
abbrev refv (f : Nat) : Value := .iface 85 (.pointer (some ⟨f, 0, none⟩))

/-- What a reading function leaves: 'z' is the zero that it answers beside a refusal. -/
def RdOut (ad : Nat → Addr) (rb g : Nat) (bs : List UInt8) (pl : Nat) (name : ByteArray) (w : World) (tup : Value → Value → Value) (z : Value) (res : Except Nat (Value × Nat)) (e : Ending) (w' : World) : Prop := Kept [rb] w w' ∧ match res with
  | .ok (v, k) => e = .returned (tup v .nilIface) ∧ RdAt rb g bs (pl + k) .nilIface w'
  | .error c => ∃ f, w.heap.size ≤ f ∧ e = .returned (tup z (refv f)) ∧ RdAt rb g bs pl (refv f) w' ∧ w'.heap[f]? = some (.cells #[.string ⟨#[119, 105, 114, 101]⟩, .string name, .int .i64 pl, rsn ad c] 87 (0, 0))

theorem rdPost_ok {ad : Nat → Addr} {rb g : Nat} {bs : List UInt8} {pl : Nat} {br : Value} {w : World} {res : Except Nat (Value × Nat)} {v : Value} {k : Nat} {e : Ending} {w' : World} (h : RdPost ad rb g bs pl br w res e w') (hr : res = .ok (v, k)) : Kept [rb] w w' ∧ e = .returned v ∧ RdAt rb g bs (pl + k) br w' := by
  subst hr; exact h
theorem rdPost_err {ad : Nat → Addr} {rb g : Nat} {bs : List UInt8} {pl : Nat} {br : Value} {w : World} {res : Except Nat (Value × Nat)} {c : Nat} {e : Ending} {w' : World} (h : RdPost ad rb g bs pl br w res e w') (hr : res = .error c) : Kept [rb] w w' ∧ e = gaveUp ad c ∧ ∃ q, RdAt rb g bs q br w' := by
  subst hr; exact h

theorem numC {ad : Nat → Addr} {rb g : Nat} {bs : List UInt8} {pl : Nat} {w : World} (L : Lw ad w) (h : RdAt rb g bs pl .nilIface w) (most : Int) (rv mv nv : Nat) (x : Value) (hrv : w.heap[rv]? = some (.cells #[.pointer (some ⟨rb, 0, none⟩)] 127 (0, 0))) (hmv : w.heap[mv]? = some (.cells #[.int .i64 most] 3 (0, 0))) (hnv : w.heap[nv]? = some (.cells #[x] 3 (0, 0))) (hn : ¬ nv = rb) (hg : ¬ nv = g) :
    Calls Tryz.prog 103 #[.pointer (some ⟨rv, 0, none⟩), .pointer (some ⟨mv, 0, none⟩), .pointer (some ⟨nv, 0, none⟩)] w fun e w' => Kept [rb, nv] w w' ∧ match numR (bs.drop pl) most with
      | .ok (n, k) => e = .returned (.tuple #[]) ∧ RdAt rb g bs (pl + k) .nilIface w' ∧ w'.heap[nv]? = some (.cells #[.int .i64 n] 3 (0, 0))
      | .error c => e = gaveUp ad c ∧ (∃ q, RdAt rb g bs q .nilIface w') ∧ w'.heap[nv]? = some (.cells #[x] 3 (0, 0)) := by
  have c1 : w.cell? ⟨rv, 0, none⟩ = some (.pointer (some ⟨rb, 0, none⟩)) := by rw [cellW_of hrv]; rfl
  have c2 : w.cell? ⟨mv, 0, none⟩ = some (.int .i64 most) := by rw [cellW_of hmv]; rfl
  have HA : Aside (Lw ad w ∧ RdAt rb g bs pl .nilIface w ∧ w.heap[nv]? = some (.cells #[x] 3 (0, 0))) := ⟨L, h, hnv⟩
  clear L h hrv hmv hnv
  cases hr : numR (bs.drop pl) most with
  | error c =>
    have HR : Aside (numR (bs.drop pl) most = .error c) := hr
    clear hr
    go_enter Tryz.func103, Tryz.ntmps103
    go_wp2_with (go_at_call 104; refine (number_any HA.out.1 HA.out.2.1 most).mono ?_; intro e w2 h2; obtain ⟨rfl, hk2, hr2⟩ := numPost_err h2 HR.out)
    exact ⟨rfl, hk2.mono (by simp), rfl, hr2, hk2.heap HA.out.2.2 (by simpa using hn)⟩
  | ok y =>
    obtain ⟨n, k⟩ := y
    have HR : Aside (numR (bs.drop pl) most = .ok (n, k)) := hr
    clear hr
    go_enter Tryz.func103, Tryz.ntmps103
    go_wp2_with (go_at_call 104; refine (number_any HA.out.1 HA.out.2.1 most).mono ?_; intro e w2 h2; obtain ⟨rfl, hr2, hk2, L2⟩ := numPost_ok HA.out.1 HA.out.2.1.lo h2 HR.out; have hn2 : w2.heap[nv]? = some (.cells #[x] 3 (0, 0)) := hk2.heap HA.out.2.2 (by simpa using hn); have d1 : w2.cell? ⟨nv, 0, none⟩ = some x := (by rw [cellW_of hn2]; rfl); have d2 := frozenW_of hn2 0)
    go_end0
    exact ⟨(hk2.mono (by simp)).set (p := ⟨nv, 0, none⟩) (.inl (by simp)) _, rfl, hr2.kept (S := [nv]) ((Kept.refl _ _).set (p := ⟨nv, 0, none⟩) (.inl (by simp)) _) (by simpa using fun e => hn e.symm) (by simpa using fun e => hg e.symm), by rw [heap_setCell_at hn2]; rfl⟩
theorem cntC {ad : Nat → Addr} {rb g : Nat} {bs : List UInt8} {pl : Nat} {w : World} (L : Lw ad w) (h : RdAt rb g bs pl .nilIface w) (least most : Int) (hl1 : -9223372036854775808 ≤ least) (hl2 : least ≤ 9223372036854775807) (rv lv mv nv : Nat) (x : Value) (hrv : w.heap[rv]? = some (.cells #[.pointer (some ⟨rb, 0, none⟩)] 127 (0, 0))) (hlv : w.heap[lv]? = some (.cells #[.int .i64 least] 3 (0, 0))) (hmv : w.heap[mv]? = some (.cells #[.int .i64 most] 3 (0, 0))) (hnv : w.heap[nv]? = some (.cells #[x] 3 (0, 0))) (hn : ¬ nv = rb) (hg : ¬ nv = g) :
    Calls Tryz.prog 111 #[.pointer (some ⟨rv, 0, none⟩), .pointer (some ⟨lv, 0, none⟩), .pointer (some ⟨mv, 0, none⟩), .pointer (some ⟨nv, 0, none⟩)] w fun e w' => Kept [rb, nv] w w' ∧ match cntR (bs.drop pl) least most with
      | .ok (n, k) => e = .returned (.tuple #[]) ∧ RdAt rb g bs (pl + k) .nilIface w' ∧ w'.heap[nv]? = some (.cells #[.int .i64 n] 3 (0, 0))
      | .error c => e = gaveUp ad c ∧ (∃ q, RdAt rb g bs q .nilIface w') ∧ w'.heap[nv]? = some (.cells #[x] 3 (0, 0)) := by
  have c1 : w.cell? ⟨rv, 0, none⟩ = some (.pointer (some ⟨rb, 0, none⟩)) := by rw [cellW_of hrv]; rfl
  have c3 : w.cell? ⟨lv, 0, none⟩ = some (.int .i64 least) := by rw [cellW_of hlv]; rfl
  have c2 : w.cell? ⟨mv, 0, none⟩ = some (.int .i64 most) := by rw [cellW_of hmv]; rfl
  have HA : Aside (Lw ad w ∧ RdAt rb g bs pl .nilIface w ∧ w.heap[nv]? = some (.cells #[x] 3 (0, 0))) := ⟨L, h, hnv⟩
  have HL : Aside (-9223372036854775808 ≤ least ∧ least ≤ 9223372036854775807) := ⟨hl1, hl2⟩
  clear L h hrv hmv hlv hnv hl1 hl2
  cases hr : cntR (bs.drop pl) least most with
  | error c =>
    have HR : Aside (cntR (bs.drop pl) least most = .error c) := hr
    clear hr
    go_enter Tryz.func111, Tryz.ntmps111
    go_wp2_with (go_at_call 112; refine (count_any HA.out.1 HA.out.2.1 least most HL.out.1 HL.out.2).mono ?_; intro e w2 h2; obtain ⟨hk2, rfl, hr2⟩ := rdPost_err (c := c) h2 (by rw [HR.out]; rfl))
    exact ⟨rfl, hk2.mono (by simp), rfl, hr2, hk2.heap HA.out.2.2 (by simpa using hn)⟩
  | ok y =>
    obtain ⟨n, k⟩ := y
    have HR : Aside (cntR (bs.drop pl) least most = .ok (n, k)) := hr
    clear hr
    go_enter Tryz.func111, Tryz.ntmps111
    go_wp2_with (go_at_call 112; refine (count_any HA.out.1 HA.out.2.1 least most HL.out.1 HL.out.2).mono ?_; intro e w2 h2; obtain ⟨hk2, rfl, hr2⟩ := rdPost_ok (v := .int .i64 n) (k := k) h2 (by rw [HR.out]; rfl); have hn2 : w2.heap[nv]? = some (.cells #[x] 3 (0, 0)) := hk2.heap HA.out.2.2 (by simpa using hn); have d1 : w2.cell? ⟨nv, 0, none⟩ = some x := (by rw [cellW_of hn2]; rfl); have d2 := frozenW_of hn2 0)
    go_end0
    exact ⟨(hk2.mono (by simp)).set (p := ⟨nv, 0, none⟩) (.inl (by simp)) _, rfl, hr2.kept (S := [nv]) ((Kept.refl _ _).set (p := ⟨nv, 0, none⟩) (.inl (by simp)) _) (by simpa using fun e => hn e.symm) (by simpa using fun e => hg e.symm), by rw [heap_setCell_at hn2]; rfl⟩
/-- P2.4: a byte. -/
def byteR : List UInt8 → Except Nat (Nat × Nat)
  | [] => .error 6
  | b :: _ => .ok (b.toNat, 1)

theorem byteC {ad : Nat → Addr} {rb g : Nat} {bs : List UInt8} {pl : Nat} {w : World} (L : Lw ad w) (h : RdAt rb g bs pl .nilIface w) (rv nv : Nat) (x : Value) (hrv : w.heap[rv]? = some (.cells #[.pointer (some ⟨rb, 0, none⟩)] 127 (0, 0))) (hnv : w.heap[nv]? = some (.cells #[x] 5 (0, 0))) (hn : ¬ nv = rb) (hg : ¬ nv = g) :
    Calls Tryz.prog 101 #[.pointer (some ⟨rv, 0, none⟩), .pointer (some ⟨nv, 0, none⟩)] w fun e w' => Kept [rb, nv] w w' ∧ match byteR (bs.drop pl) with
      | .ok (n, k) => e = .returned (.tuple #[]) ∧ RdAt rb g bs (pl + k) .nilIface w' ∧ w'.heap[nv]? = some (.cells #[.int .u8 n] 5 (0, 0))
      | .error c => e = gaveUp ad c ∧ (∃ q, RdAt rb g bs q .nilIface w') ∧ w'.heap[nv]? = some (.cells #[x] 5 (0, 0)) := by
  have c1 : w.cell? ⟨rv, 0, none⟩ = some (.pointer (some ⟨rb, 0, none⟩)) := by rw [cellW_of hrv]; rfl
  have HA : Aside (Lw ad w ∧ RdAt rb g bs pl .nilIface w ∧ w.heap[nv]? = some (.cells #[x] 5 (0, 0))) := ⟨L, h, hnv⟩
  have hle := h.le
  clear L h hrv hnv
  cases hd : bs.drop pl with
  | nil =>
    have hsh : ((bs.length - pl : Nat) : Int) < 1 := by have := congrArg List.length hd; simp at this; omega
    have HD : Aside (((bs.length - pl : Nat) : Int) < 1) := hsh
    clear hd
    simp only [byteR]
    go_enter Tryz.func101, Tryz.ntmps101
    go_wp2_with (go_at_call 102; refine (take_at_short HA.out.1 HA.out.2.1 1 HD.out).mono ?_; rintro e w2 ⟨rfl, hr2, hk2⟩)
    exact ⟨rfl, hk2.mono (by simp), rfl, ⟨_, hr2⟩, hk2.heap HA.out.2.2 (by simpa using hn)⟩
  | cons b r =>
    have hb : bs[pl]? = some b := by have := congrArg (fun l => l[0]?) hd; simpa using this
    have hlt : pl < bs.length := (List.getElem?_eq_some_iff.1 hb).1
    have HD : Aside (bs[pl]? = some b ∧ 1 ≤ bs.length - pl) := ⟨hb, by omega⟩
    clear hd hb
    simp only [byteR]
    go_enter Tryz.func101, Tryz.ntmps101
    go_wp2_with (go_at_call 102; refine (take_at_ok HA.out.1 HA.out.2.1 1 HD.out.2).mono ?_; rintro e w2 ⟨o, rfl, ho, hr2, hk2, L2⟩; have ho' := ho (by decide); clear ho; subst ho'; have cb := hr2.byte _ _ HD.out.1; have hn2 : w2.heap[nv]? = some (.cells #[x] 5 (0, 0)) := hk2.heap HA.out.2.2 (by simpa using hn); have d1 : w2.cell? ⟨nv, 0, none⟩ = some x := (by rw [cellW_of hn2]; rfl); have d2 := frozenW_of hn2 0)
    go_end0
    exact ⟨(hk2.mono (by simp)).set (p := ⟨nv, 0, none⟩) (.inl (by simp)) _, rfl, hr2.kept (S := [nv]) ((Kept.refl _ _).set (p := ⟨nv, 0, none⟩) (.inl (by simp)) _) (by simpa using fun e => hn e.symm) (by simpa using fun e => hg e.symm), by rw [heap_setCell_at hn2]; rfl⟩

/-- P2.4: the end. -/
def endR : List UInt8 → Except Nat (Unit × Nat)
  | [] => .ok ((), 0)
  | _ :: _ => .error 5

theorem endC {ad : Nat → Addr} {rb g : Nat} {bs : List UInt8} {pl : Nat} {w : World} (L : Lw ad w) (h : RdAt rb g bs pl .nilIface w) (rv : Nat) (hrv : w.heap[rv]? = some (.cells #[.pointer (some ⟨rb, 0, none⟩)] 127 (0, 0))) :
    Calls Tryz.prog 86 #[.pointer (some ⟨rv, 0, none⟩)] w fun e w' => Kept [rb] w w' ∧ match endR (bs.drop pl) with
      | .ok (_, k) => e = .returned (.tuple #[]) ∧ RdAt rb g bs (pl + k) .nilIface w'
      | .error c => e = gaveUp ad c ∧ (∃ q, RdAt rb g bs q .nilIface w') := by
  have c1 : w.cell? ⟨rv, 0, none⟩ = some (.pointer (some ⟨rb, 0, none⟩)) := by rw [cellW_of hrv]; rfl
  have h5 : w.cell? ⟨0, 0, none⟩ = some (rsn ad 5) := L.var 5 (by decide)
  have HA : Aside (RdAt rb g bs pl .nilIface w) := h
  have hle := h.le
  clear L h hrv
  cases hd : bs.drop pl with
  | nil =>
    have h0 : ¬ (0 : Int) < ((bs.length - pl : Nat) : Int) := by have := congrArg List.length hd; simp at this; omega
    clear hd
    simp only [endR]
    go_enter Tryz.func86, Tryz.ntmps86
    go_wp2_with (go_at_call 87; refine (left_any HA.out).mono ?_; rintro e w2 ⟨rfl, m, rfl⟩)
    go_end0
    exact ⟨(Kept.refl _ _).drewN m, rfl, HA.out.drewN m⟩
  | cons b r =>
    have h0 : (0 : Int) < ((bs.length - pl : Nat) : Int) := by have := congrArg List.length hd; simp at this; omega
    clear hd
    simp only [endR]
    go_enter Tryz.func86, Tryz.ntmps86
    go_wp2_with (first | (go_at_call 87; refine (left_any HA.out).mono ?_; rintro e w2 ⟨rfl, m, rfl⟩) | (go_at_call 88; refine (giveUp_any _ _).mono ?_; rintro e w3 ⟨rfl, rfl⟩))
    exact ⟨rfl, (Kept.refl _ _).drewN m, rfl, _, HA.out.drewN m⟩

end Go.Proofs.YteffpnjgchihpaaGreatDoor
namespace Go.Proofs.YteffpnjgchihpaaGreatDoor
open Go.RowKit
set_option maxRecDepth 100000

section
variable {P : Program} {ops : Array Oper} {Q : Exit → Act → World → Prop}

/-- How many have not come up yet. -/
def left (listed : Array Bool) : Nat := listed.toList.count false

theorem left_set {listed : Array Bool} {i : Nat} (h : listed.getD i true = false) : left (listed.setIfInBounds i true) + 1 = left listed := by
  obtain ⟨l⟩ := listed
  simp only [left, List.setIfInBounds_toArray]
  have hi : l[i]? = some false := by
    simp only [Array.getD_eq_getD_getElem?, List.getElem?_toArray] at h
    cases hx : l[i]? with
    | none => simp [hx] at h
    | some b => simp [hx] at h; rw [h]
  clear h
  induction l generalizing i with
  | nil => simp at hi
  | cons b l ih =>
    cases i with
    | zero => simp at hi; subst hi; simp
    | succ i =>
      have := ih (i := i) (by simpa using hi)
      cases b <;> simp_all

theorem wpAny_inv (I : Array Bool → Act → World → Prop)
    (step : ∀ listed a w i, I listed a w → i ∈ Region.ready .any ops listed → wpOp P ops Q i (I (listed.setIfInBounds i true)) a w)
    (done : ∀ listed a w, I listed a w → Region.ready .any ops listed = [] → Q .normal a w) :
    ∀ (fuel : Nat) (listed : Array Bool) (a : Act) (w : World), left listed ≤ fuel → I listed a w → wpAny P .any ops Q fuel listed a w
  | 0, listed, a, w, hl, h => by
    have h0 : Region.ready .any ops listed = [] := by
      rw [List.eq_nil_iff_forall_not_mem]
      intro i hi
      have := left_set (mem_ready.1 hi).1
      omega
    exact ⟨h0, done _ _ _ h h0⟩
  | fuel + 1, listed, a, w, hl, h => ⟨done _ _ _ h, fun i hi => wpOp_mono (fun a' w' h' => wpAny_inv I step done fuel _ a' w' (by have := left_set (mem_ready.1 hi).1; omega) h') (step _ _ _ _ h hi)⟩

theorem left_start (n : Nat) : left (Array.replicate n false) = n := by simp [left]

/-- The region: 'vals' what each operation yields, 'J' what the world is when so much has come up. -/
theorem wp_region_inv {id : Nat} {a : Act} {w : World} (hm : P.follows .mixedOrders = true) (hg : ∀ (i : Nat) (o : Oper), ops[i]? = some o → o.guard = none) (vals : Nat → Value) (J : Array Bool → World → Prop) (hJ : J (Array.replicate ops.size false) w.drew)
    (step : ∀ (i : Nat) (o : Oper), ops[i]? = some o → ∀ (listed : Array Bool) (b : Act) (x : World), J listed x → listed.size = ops.size → listed.getD i true = false → (∀ e ∈ o.after, Region.binds .any e = true → listed.getD e.on false = true) →
      b.tmps.size = a.tmps.size → b.defers = a.defers → (∀ (j : Nat) (oj : Oper) (d : Tmp), ops[j]? = some oj → oj.dst = some d → listed.getD j false = true → b.tmps[d]? = some (vals j)) → (∀ (d : Tmp), (∀ (j : Nat) (oj : Oper), ops[j]? = some oj → oj.dst ≠ some d) → b.tmps[d]? = a.tmps[d]?) →
      o.wp P b x (fun b' x' => b' = b.put o.dst (vals i) ∧ J (listed.setIfInBounds i true) x') Q)
    (inj : ∀ (i j : Nat) (oi oj : Oper) (d : Tmp), ops[i]? = some oi → ops[j]? = some oj → oi.dst = some d → oj.dst = some d → i = j) (bd : ∀ (i : Nat) (o : Oper) (d : Tmp), ops[i]? = some o → o.dst = some d → d < a.tmps.size)
    (acyc : ∀ listed : Array Bool, listed.size = ops.size → Region.ready .any ops listed = [] → ∀ i, i < ops.size → listed.getD i false = true)
    (done : ∀ (listed : Array Bool) (b : Act) (x : World), (∀ i, i < ops.size → listed.getD i false = true) → J listed x → b.tmps.size = a.tmps.size → b.defers = a.defers → (∀ (j : Nat) (oj : Oper) (d : Tmp), ops[j]? = some oj → oj.dst = some d → b.tmps[d]? = some (vals j)) → (∀ (d : Tmp), (∀ (j : Nat) (oj : Oper), ops[j]? = some oj → oj.dst ≠ some d) → b.tmps[d]? = a.tmps[d]?) → Q .normal b x) :
    (Code.region id ops true).wp P Q a w := by
  refine wp_region_any hm (wpAny_inv (fun listed b x => J listed x ∧ listed.size = ops.size ∧ b.tmps.size = a.tmps.size ∧ b.defers = a.defers ∧ (∀ (j : Nat) (oj : Oper) (d : Tmp), ops[j]? = some oj → oj.dst = some d → listed.getD j false = true → b.tmps[d]? = some (vals j)) ∧ (∀ (d : Tmp), (∀ (j : Nat) (oj : Oper), ops[j]? = some oj → oj.dst ≠ some d) → b.tmps[d]? = a.tmps[d]?)) ?_ ?_ _ _ _ _ (by rw [left_start]; exact Nat.le_refl _) ?_)
  · rintro listed b x i ⟨hj, hs, hz, hd, hv, hr⟩ hi
    obtain ⟨hun, o, ho, hall⟩ := mem_ready.1 hi
    have h := step i o ho listed b x hj hs hun hall hz hd hv hr
    unfold wpOp
    simp only [ho]
    have hw : Region.wanted o (yielded ops b.tmps) = true := by simp [Region.wanted, hg i o ho]
    rw [if_pos hw]
    refine .inl (Oper.wp_mono ?_ h)
    rintro b' x' ⟨rfl, hj'⟩
    refine ⟨hj', by simpa using hs, ?_, ?_, ?_, ?_⟩
    · cases hdst : o.dst with
      | none => exact hz
      | some d => simpa [Act.put] using hz
    · cases hdst : o.dst with
      | none => exact hd
      | some d => simpa [Act.put] using hd
    · intro j oj d hj hjd hl
      by_cases hij : i = j
      · subst hij
        obtain rfl := Option.some.inj (ho.symm.trans hj)
        rw [hjd]
        have hlt := bd i o d ho hjd
        simp [Act.put, hz, hlt]
      · have hl' : listed.getD j false = true := by rw [getD_set_ne false hij] at hl; exact hl
        have hold := hv j oj d hj hjd hl'
        cases hdst : o.dst with
        | none => simpa [Act.put] using hold
        | some d' =>
          have hne : d' ≠ d := fun e => hij (inj i j o oj d ho hj (by rw [hdst, e]) hjd)
          simp [Act.put, Array.getElem?_setIfInBounds_ne hne, hold]
    · intro d hnd
      have hold := hr d hnd
      cases hdst : o.dst with
      | none => simpa [Act.put] using hold
      | some d' =>
        have hne : d' ≠ d := fun e => hnd i o ho (by rw [hdst, e])
        simp [Act.put, Array.getElem?_setIfInBounds_ne hne, hold]
  · rintro listed b x ⟨hj, hs, hz, hd, hv, hr⟩ h0
    have hall := acyc listed hs h0
    exact done listed b x hall hj hz hd (fun j oj d h1 h2 => hv j oj d h1 h2 (hall j (Array.getElem?_eq_some_iff.1 h1).1)) hr
  · refine ⟨hJ, by simp, rfl, rfl, fun j oj d h1 h2 h3 => ?_, fun d _ => rfl⟩
    simp only [Array.getD_eq_getD_getElem?, Array.getElem?_replicate] at h3
    split at h3 <;> simp at h3

/-- No operation is guarded, each goes behind earlier ones alone, and no two write one slot. -/
def regOkB (ops : Array Oper) (n : Nat) : Bool := (List.range ops.size).all fun i => match ops[i]? with
  | none => true
  | some o => o.guard.isNone && o.after.all (fun e => decide (e.on < i)) && (match o.dst with
    | none => true
    | some d => decide (d < n) && (List.range i).all fun j => match ops[j]? with
      | some oj => oj.dst != some d
      | none => true)
/-- Is the slot written? -/
def writesB (ops : Array Oper) (d : Tmp) : Bool := ops.any fun o => o.dst == some d

theorem regOk_at {n : Nat} (h : regOkB ops n = true) (i : Nat) (o : Oper) (ho : ops[i]? = some o) :
    o.guard = none ∧ (∀ e ∈ o.after, e.on < i) ∧ ∀ d, o.dst = some d → d < n ∧ ∀ j oj, j < i → ops[j]? = some oj → oj.dst ≠ some d := by
  have hi : i < ops.size := (Array.getElem?_eq_some_iff.1 ho).1
  have := (List.all_eq_true.1 h) i (List.mem_range.2 hi)
  simp only [ho, Bool.and_eq_true] at this
  obtain ⟨⟨h1, h2⟩, h3⟩ := this
  refine ⟨by simpa using h1, fun e he => by simpa using (Array.all_eq_true_iff_forall_mem.1 h2) e he, fun d hd => ?_⟩
  rw [hd] at h3
  simp only [Bool.and_eq_true, decide_eq_true_eq] at h3
  refine ⟨h3.1, fun j oj hj hoj => ?_⟩
  have := (List.all_eq_true.1 h3.2) j (List.mem_range.2 hj)
  simp only [hoj] at this
  simpa using this

theorem wp_region_inv' {id : Nat} {a : Act} {w : World} (hm : P.follows .mixedOrders = true) (hok : regOkB ops a.tmps.size = true) (vals : Nat → Value) (J : Array Bool → World → Prop) (hJ : J (Array.replicate ops.size false) w.drew)
    (step : ∀ (i : Nat) (o : Oper), ops[i]? = some o → ∀ (listed : Array Bool) (b : Act) (x : World), J listed x → listed.size = ops.size → listed.getD i true = false → (∀ e ∈ o.after, Region.binds .any e = true → listed.getD e.on false = true) → b.defers = a.defers →
      (∀ (j : Nat) (oj : Oper) (d : Tmp), ops[j]? = some oj → oj.dst = some d → listed.getD j false = true → b.tmps[d]? = some (vals j)) → (∀ (d : Tmp), writesB ops d = false → b.tmps[d]? = a.tmps[d]?) →
      o.wp P b x (fun b' x' => b' = b.put o.dst (vals i) ∧ J (listed.setIfInBounds i true) x') Q)
    (done : ∀ (listed : Array Bool) (b : Act) (x : World), (∀ i, i < ops.size → listed.getD i false = true) → J listed x → b.tmps.size = a.tmps.size → b.defers = a.defers → (∀ (j : Nat) (oj : Oper) (d : Tmp), ops[j]? = some oj → oj.dst = some d → b.tmps[d]? = some (vals j)) → (∀ (d : Tmp), writesB ops d = false → b.tmps[d]? = a.tmps[d]?) → Q .normal b x) :
    (Code.region id ops true).wp P Q a w := by
  have wr : ∀ (b : Act), (∀ (d : Tmp), (∀ (j : Nat) (oj : Oper), ops[j]? = some oj → oj.dst ≠ some d) → b.tmps[d]? = a.tmps[d]?) → ∀ (d : Tmp), writesB ops d = false → b.tmps[d]? = a.tmps[d]? := fun b h d hd => h d fun j oj hj he => by
    have : writesB ops d = true := Array.any_eq_true'.2 ⟨oj, Array.mem_of_getElem? hj, by simp [he]⟩
    rw [this] at hd
    cases hd
  refine wp_region_inv hm (fun i o ho => (regOk_at hok i o ho).1) vals J hJ ?_ ?_ (fun i o d ho hd => ((regOk_at hok i o ho).2.2 d hd).1) ?_ ?_
  · intro i o ho listed b x h1 h2 h3 h4 _ h6 h7 h8
    exact step i o ho listed b x h1 h2 h3 h4 h6 h7 (wr b h8)
  · intro i j oi oj d hi hj hdi hdj
    rcases Nat.lt_trichotomy i j with h | h | h
    · exact absurd hdi (((regOk_at hok j oj hj).2.2 d hdj).2 i oi h hi)
    · exact h
    · exact absurd hdj (((regOk_at hok i oi hi).2.2 d hdi).2 j oj h hj)
  · intro listed hs h0 i
    induction i using Nat.strongRecOn with
    | _ i ih =>
      intro hi
      have ho : ops[i]? = some ops[i] := Array.getElem?_eq_getElem hi
      cases hl : listed.getD i false with
      | true => rfl
      | false =>
        exfalso
        have hmem : i ∈ Region.ready .any ops listed := mem_ready.2 ⟨by
          have hil : i < listed.size := by omega
          simp only [Array.getD_eq_getD_getElem?, Array.getElem?_eq_getElem hil, Option.getD_some] at hl ⊢
          exact hl, ops[i], ho, fun e he _ => by
          have hlt := (regOk_at hok i _ ho).2.1 e he
          exact ih e.on hlt (by omega)⟩
        rw [h0] at hmem
        cases hmem
  · intro listed b x h1 h2 h3 h4 h5 h6
    exact done listed b x h1 h2 h3 h4 h5 (wr b h6)
end
end Go.Proofs.YteffpnjgchihpaaGreatDoor
