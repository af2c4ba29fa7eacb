
/-
  barrowref05.UTF8: characters as a text.
-/
import Derived.Test.YtaimmjoekahleaaDoorZa28
namespace Go.Proofs.YtaimmjoekahleaaDoor
open Go.RowKit Go.Extern.Stop Go.Stop Go.Extern
set_option maxRecDepth 100000

/-- A row of bytes of one's own. -/
def RwB (v : Value) (bs : List UInt8) (w : World) : Prop := Rw 5 1 v bs.length (bs.map fun b => Value.int .u8 (b.toNat : Int)) w
theorem RwB.later {v : Value} {bs : List UInt8} {w w' : World} (h : RwB v bs w) (hb : Below w.heap.size w w') : RwB v bs w' := Rw.later h hb
theorem RwB.nil (w : World) : RwB (.slice none 0 0) [] w := Rw.nil _ _ _
theorem info_b : (Tryd.prog.info? 5).map (fun i => (i.zero, i.size, i.bytes)) = some (some (.int .u8 0), 1, 1) := by kernel_rfl
theorem wpL_appBy {ops : Array Oper} {rest : List Oper} {o : Oper} {A : Act} {w : World} {Q : Exit → Act → World → Prop} (hgd : o.guard = none) (s x : Operand) (ho : o.op = .call { callee := .builtin .append, args := #[s, x], argTypes := #[69, 69] })
    {u v : Value} {l m : List UInt8} (hs : A.eval s = v) (hx : A.eval x = u) (hv : RwB v l w) (hu : So 1 u m.length (m.map fun b => Value.int .u8 (b.toNat : Int)) w) (hl : l.length + m.length ≤ 4398046511104)
    (k : ∀ v' w', RwB v' (l ++ m) w' → w.grownBy w' v.ownBlock → At' w v v' → wpList Tryd.prog ops Q rest (A.put o.dst v') w') : wpList Tryd.prog ops Q (o :: rest) A w := by
  obtain ⟨i0, hi, h1, h2, h3⟩ := info_parts info_b
  refine wpL_app (P := Tryd.prog) hgd s x 69 ho 5 i0 _ 1 1 Tryd.underlying69 hi h1 h2 h3 rfl hs hx hv hu (fun u hu => by obtain ⟨z, _, rfl⟩ := List.mem_map.1 hu; rfl) (by unfold maxLen; omega) (by omega) fun v' w' q1 q2 q3 => k v' w' ?_ q2 q3
  unfold RwB
  rw [List.length_append, List.map_append]
  exact q1
theorem run_strB {w : World} {v : Value} {bs : List UInt8} (h : RwB v bs w) : (convert 69 9 v).run Tryd.prog w = .ok (.string ⟨bs.toArray⟩) w := by
  have h9 := h
  rcases h.2 with ⟨rfl, hn⟩ | ⟨g, cap, cur, rfl, hg, _⟩
  · have : bs = [] := List.eq_nil_of_length_eq_zero hn
    subst this
    rw [run_convert_bytes_string w 69 9 5 none 0 0 Tryd.underlying69 Tryd.underlying5 Tryd.underlying9]
    rfl
  · exact run_convert_bytes_back (P := Tryd.prog) w 69 9 5 ⟨g, 0, none⟩ cap bs Tryd.underlying69 Tryd.underlying5 Tryd.underlying9 (fun j hj => by
      rw [Addr.add_lit]
      exact Rw.cells (o := 0) h9 j _ (by rw [List.getElem?_map, List.getElem?_eq_getElem hj]; rfl))
/-- Some new bytes, as append takes them. -/
theorem so_bytes (w : World) (cs : Array Value) (m : List UInt8) (n : Nat) (hn : n = m.length) (hc : cs.toList = m.map fun b => Value.int .u8 (b.toNat : Int)) : So 1 (.slice (some ⟨w.heap.size, 0, none⟩) n n) m.length (m.map fun b => Value.int .u8 (b.toNat : Int)) (w.alloc (.cells cs 5)) := by
  subst hn
  refine ⟨by simp, .inr ⟨⟨w.heap.size, 0, none⟩, m.length, rfl, fun j x hx => ?_⟩⟩
  rw [Addr.add_lit, Nat.zero_add, (RowAt.new w cs 5).cell, ← Array.getElem?_toList, hc]
  exact hx
theorem wpL_strB {ops : Array Oper} {rest : List Oper} {o : Oper} {A : Act} {w : World} {Q : Exit → Act → World → Prop} (hgd : o.guard = none) (x : Operand) (ho : o.op = .convert 69 9 x) {v : Value} {bs : List UInt8} (hx : A.eval x = v) (h : RwB v bs w)
    (k : wpList Tryd.prog ops Q rest (A.put o.dst (.string ⟨bs.toArray⟩)) w) : wpList Tryd.prog ops Q (o :: rest) A w := by
  refine wpList_plain hgd fun _ hK => ?_
  unfold Oper.wp execOp
  simp only [ho, hx, Sem.run_bind, Result.andThen, run_strB h]
  exact hK _ _ k
theorem dbytes_of (c : Int) : ((Lib.encodeRune c).map fun b => Value.int .u8 (b.toNat : Int)) = (Lib.encodeRuneZ c).map fun x => Value.int .u8 x := Lib.byteCells_encodeRune c
set_option maxHeartbeats 8000000 in
theorem utf8_is {w : World} {v : Value} {xs : List Int} (h : RwR v xs w) (hr : ∀ r ∈ xs, Ru r) (hl : xs.length ≤ 100000000) :
    Calls Tryd.prog 15 #[v] w fun e w' => e = .returned (.string (tx xs)) ∧ Below w.heap.size w w' := by
  obtain ⟨oa, ca0, hva, _, _⟩ := h.form
  have H := hid_of' (And.intro h hr)
  obtain ⟨n, hn⟩ : ∃ n, n = xs.length := ⟨_, rfl⟩
  rw [← hn] at hva hl
  subst hva
  have HN := hid_of' hn
  clear h hr hn
  go_enter Tryd.func15, Tryd.ntmps15
  go_wp2
  go_loopw [3, 4] (fun ov kv wr => ∃ k : Nat, kv = .int .i64 (k : Int) ∧ k ≤ n ∧ RwB ov (enc (xs.take k)) wr ∧ (∀ g, ov.ownBlock = some g → w.heap.size ≤ g) ∧ Ch (fun _ => False) w wr) (fun _ kv _ => n - (intOf kv).toNat)
  case atStart => exact ⟨0, rfl, Nat.zero_le _, RwB.nil _, (fun g hg => by cases hg), Ch.refl _ _⟩
  case round =>
    obtain ⟨k, rfl, hk, hR, hO, hC⟩ := hrel
    obtain ⟨ov, oc, hov, _, _⟩ := Rw.form hR
    have hbw : Below w.heap.size w wr := hC.none (fun _ _ q => q)
    by_cases hkn : k < n
    · have hki : (k : Int) < (n : Int) := by omega
      obtain ⟨c, hc⟩ : ∃ c, xs[k]? = some c := ⟨_, List.getElem?_eq_getElem (by rw [← HN.out]; exact hkn)⟩
      obtain ⟨ga, cc, hva, _, hgl, hcz⟩ := (H.out.1.later hbw).at (by rintro rfl; simp at hc)
      rw [← HN.out] at hva
      cases hva
      have cx := hcz k c hc
      have hru := H.out.2 c (List.mem_of_getElem? hc)
      have hen : enc (xs.take (k + 1)) = enc (xs.take k) ++ Lib.encodeRune c := by rw [List.take_add_one, hc, enc_app]; simp [enc]
      have hle := enc_len (xs.take k)
      have hlt : (xs.take k).length ≤ k := by rw [List.length_take]; omega
      obtain ⟨on, hon⟩ : ∃ on, on = (enc (xs.take k)).length := ⟨_, rfl⟩
      rw [← hon] at hov
      subst hov
      have HR := hid_of' (And.intro hR (And.intro hO (And.intro hC (And.intro hen (And.intro hru (And.intro hle hlt))))))
      obtain ⟨hc0, hcs, hc1⟩ := hru
      clear hR hO hC hen hle hlt hcz hbw hc hon
      by_cases g1 : c < 128
      · skip
        have HS := hid_of' (And.intro (HR.out.1.later (below_one wr (.cells #[.int .u8 (c)] 5))) (so_bytes wr #[.int .u8 (c)] (Lib.encodeRune c) 1 (by rw [Lib.encodeRune, List.length_map, Lib.encodeRuneZ_one (by omega) (by omega)]; rfl) (by rw [dbytes_of, Lib.encodeRuneZ_one (by omega) (by omega)]; rfl)))
        have hm : (Lib.encodeRune c).length ≤ 4 := (encR_len c).2
        go_upto_region 4 with (at_builtin; refine wpL_appBy (m := Lib.encodeRune c) rfl _ _ rfl rfl rfl HS.out.1 HS.out.2 (by have := HR.out.2.2.2.2.2; omega) ?_; intro u6 w6 q1 q2 q3)
        have hC6 := (HR.out.2.2.1.later (below_one wr _)).own q2 HR.out.2.1
        have hO6 : ∀ g, u6.ownBlock = some g → w.heap.size ≤ g := fun g hg => (q3 g hg).elim (fun e => HR.out.2.1 g e) (fun e => by have h2 := HR.out.2.2.1.size; rw [World.size_alloc] at e; omega)
        rw [← HR.out.2.2.2.1] at q1
        have H6 := hid_of' (And.intro q1 (And.intro hO6 hC6))
        clear q1 q2 q3 hO6 hC6 HS cx
        go_wp2
        go_roundw
        case rel => exact ⟨k + 1, by go_num, by omega, H6.out.1, H6.out.2.1, H6.out.2.2⟩
        case measure => simp [intOf]; omega
      by_cases g2 : c < 2048
      · skip
        have HS := hid_of' (And.intro (HR.out.1.later (below_one wr (.cells #[.int .u8 (192 + c / 64), .int .u8 (128 + c % 64)] 5))) (so_bytes wr #[.int .u8 (192 + c / 64), .int .u8 (128 + c % 64)] (Lib.encodeRune c) 2 (by rw [Lib.encodeRune, List.length_map, Lib.encodeRuneZ_two (by omega) (by omega)]; rfl) (by rw [dbytes_of, Lib.encodeRuneZ_two (by omega) (by omega)]; rfl)))
        have hm : (Lib.encodeRune c).length ≤ 4 := (encR_len c).2
        go_upto_region 4 with (at_builtin; refine wpL_appBy (m := Lib.encodeRune c) rfl _ _ rfl rfl rfl HS.out.1 HS.out.2 (by have := HR.out.2.2.2.2.2; omega) ?_; intro u6 w6 q1 q2 q3)
        have hC6 := (HR.out.2.2.1.later (below_one wr _)).own q2 HR.out.2.1
        have hO6 : ∀ g, u6.ownBlock = some g → w.heap.size ≤ g := fun g hg => (q3 g hg).elim (fun e => HR.out.2.1 g e) (fun e => by have h2 := HR.out.2.2.1.size; rw [World.size_alloc] at e; omega)
        rw [← HR.out.2.2.2.1] at q1
        have H6 := hid_of' (And.intro q1 (And.intro hO6 hC6))
        clear q1 q2 q3 hO6 hC6 HS cx
        go_wp2
        go_roundw
        case rel => exact ⟨k + 1, by go_num, by omega, H6.out.1, H6.out.2.1, H6.out.2.2⟩
        case measure => simp [intOf]; omega
      by_cases g3 : c < 65536
      · skip
        have HS := hid_of' (And.intro (HR.out.1.later (below_one wr (.cells #[.int .u8 (224 + c / 4096), .int .u8 (128 + c / 64 % 64), .int .u8 (128 + c % 64)] 5))) (so_bytes wr #[.int .u8 (224 + c / 4096), .int .u8 (128 + c / 64 % 64), .int .u8 (128 + c % 64)] (Lib.encodeRune c) 3 (by rw [Lib.encodeRune, List.length_map, Lib.encodeRuneZ_three (by omega)]; rfl) (by rw [dbytes_of, Lib.encodeRuneZ_three (by omega)]; rfl)))
        have hm : (Lib.encodeRune c).length ≤ 4 := (encR_len c).2
        go_upto_region 4 with (at_builtin; refine wpL_appBy (m := Lib.encodeRune c) rfl _ _ rfl rfl rfl HS.out.1 HS.out.2 (by have := HR.out.2.2.2.2.2; omega) ?_; intro u6 w6 q1 q2 q3)
        have hC6 := (HR.out.2.2.1.later (below_one wr _)).own q2 HR.out.2.1
        have hO6 : ∀ g, u6.ownBlock = some g → w.heap.size ≤ g := fun g hg => (q3 g hg).elim (fun e => HR.out.2.1 g e) (fun e => by have h2 := HR.out.2.2.1.size; rw [World.size_alloc] at e; omega)
        rw [← HR.out.2.2.2.1] at q1
        have H6 := hid_of' (And.intro q1 (And.intro hO6 hC6))
        clear q1 q2 q3 hO6 hC6 HS cx
        go_wp2
        go_roundw
        case rel => exact ⟨k + 1, by go_num, by omega, H6.out.1, H6.out.2.1, H6.out.2.2⟩
        case measure => simp [intOf]; omega
      · skip
        have HS := hid_of' (And.intro (HR.out.1.later (below_one wr (.cells #[.int .u8 (240 + c / 262144), .int .u8 (128 + c / 4096 % 64), .int .u8 (128 + c / 64 % 64), .int .u8 (128 + c % 64)] 5))) (so_bytes wr #[.int .u8 (240 + c / 262144), .int .u8 (128 + c / 4096 % 64), .int .u8 (128 + c / 64 % 64), .int .u8 (128 + c % 64)] (Lib.encodeRune c) 4 (by rw [Lib.encodeRune, List.length_map, Lib.encodeRuneZ_four (by omega) (by omega)]; rfl) (by rw [dbytes_of, Lib.encodeRuneZ_four (by omega) (by omega)]; rfl)))
        have hm : (Lib.encodeRune c).length ≤ 4 := (encR_len c).2
        go_upto_region 4 with (at_builtin; refine wpL_appBy (m := Lib.encodeRune c) rfl _ _ rfl rfl rfl HS.out.1 HS.out.2 (by have := HR.out.2.2.2.2.2; omega) ?_; intro u6 w6 q1 q2 q3)
        have hC6 := (HR.out.2.2.1.later (below_one wr _)).own q2 HR.out.2.1
        have hO6 : ∀ g, u6.ownBlock = some g → w.heap.size ≤ g := fun g hg => (q3 g hg).elim (fun e => HR.out.2.1 g e) (fun e => by have h2 := HR.out.2.2.1.size; rw [World.size_alloc] at e; omega)
        rw [← HR.out.2.2.2.1] at q1
        have H6 := hid_of' (And.intro q1 (And.intro hO6 hC6))
        clear q1 q2 q3 hO6 hC6 HS cx
        go_wp2
        go_roundw
        case rel => exact ⟨k + 1, by go_num, by omega, H6.out.1, H6.out.2.1, H6.out.2.2⟩
        case measure => simp [intOf]; omega
    · have hki : ¬ (k : Int) < (n : Int) := by omega
      obtain rfl : k = n := by omega
      have e : enc (xs.take k) = enc xs := by rw [HN.out, List.take_length]
      rw [e] at hR
      have HR := hid_of' (And.intro hR hbw)
      clear hR hO hC hbw e hov
      go_wp2_with (refine wpL_strB rfl _ rfl rfl HR.out.1 ?_)
      go_ret
      exact ⟨rfl, HR.out.2⟩
end Go.Proofs.YtaimmjoekahleaaDoor
