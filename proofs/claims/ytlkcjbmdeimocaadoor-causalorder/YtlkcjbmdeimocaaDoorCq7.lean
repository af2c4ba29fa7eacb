
/-
  Package causal: Order.
-/
import Derived.Test.YtlkcjbmdeimocaaDoorCq6
namespace Go.Proofs.YtlkcjbmdeimocaaDoor
open Go.RowKit Go.Maps Go.MapKept
set_option maxRecDepth 100000

theorem misC_all {c : List Int} {m : Int} : ∀ (l acc : List Ac), (acc.length : Int) + (l.length : Int) ≤ m → misC c m acc l = acc ++ l.filter fun x => !hasA c x
  | [], acc, _ => by simp [misC]
  | x :: l, acc, hm => by
    have h1 : ¬ m ≤ (acc.length : Int) := by simp only [List.length_cons] at hm; omega
    rw [misC, if_neg h1]
    cases hx : hasA c x
    · rw [if_neg (by decide), misC_all l (acc ++ [x]) (by simp only [List.length_append, List.length_cons, List.length_nil] at hm ⊢; omega), List.filter_cons, hx]
      simp
    · rw [if_pos rfl, misC_all l acc (by simp only [List.length_cons] at hm; omega), List.filter_cons, hx]
      simp
theorem OwnA.obj {v : Value} {l : List Ac} {w : World} (h : OwnA v l w) : ∀ k, v.ownBlock = some k → ∃ cs, w.heap[k]? = some (.cells cs 48 (0, 0)) := fun k hk => by
  rcases h.1.2 with ⟨rfl, _⟩ | ⟨g, cap, cur, rfl, hg, _⟩
  · cases hk
  · cases hk
    exact ⟨_, hg⟩
/-- A row of acts is none of a queue's blocks. -/
theorem not_qS {u : Value} {s : List Ac} {q kb n base : Nat} {v : Value} {c : List Int} {f : List Nat} {g : Int → Int → List Nat} {w : World} (ho : OwnA u s w) (hq : QAt q v c kb f w) (hm : GpAt kb n base g w) : ∀ k, u.ownBlock = some k → ¬ qS kb q w k := fun k hk e => by
  obtain ⟨cs, hcs⟩ := ho.obj k hk
  have hq' : w.heap[q]? = some (.cells (qcv v c kb f) 86 (0, 0)) := hq
  rcases e with e | e | e
  · obtain ⟨es, cl, h1, _⟩ := hm
    rw [e, h1] at hcs
    cases hcs
  · rw [e, hq'] at hcs
    simp at hcs
  · obtain ⟨_, _, cs', hcs'⟩ := hm.rows e
    rw [hcs'] at hcs
    simp at hcs
/-- What holds while Order goes on. -/
structure OqI (h : List Int) (L : List Ac) (v : Value) (w : World) (B q kb : Nat) (s : List Ac) (c : List Int) (f : List Nat) (g : Int → Int → List Nat) (n : Nat) (u : Value) (wr : World) : Prop where
  at_ : QAt q v c kb f wr
  map : GpAt kb n B g wr
  qi : QI L c (fun _ => True) f g
  ck : Ck c
  own : OwnA u s wr
  new : NewB w u
  below : Below w.heap.size w wr
  ord : ordL L h = s ++ ordL L c
  dl : c = dlv h s
  len : s.length + lackN c L ≤ L.length
  cnt : n ≤ 400 * (s.length + 1)
def OrdQ (h : List Int) (L : List Ac) (w : World) (e : Ending) (w' : World) : Prop := ∃ r1 r2, e = .returned (.tuple #[r1, r2]) ∧ OwnA r1 (ordL L h) w' ∧ OwnA r2 (L.filter fun x => !hasA (dlv h (ordL L h)) x) w' ∧ NewB w r1 ∧ NewB w r2 ∧ (∀ k, r1.ownBlock = some k → ¬ r2.ownBlock = some k) ∧ Below w.heap.size w w'

set_option maxHeartbeats 8000000 in
theorem order_ok {w : World} {v : Value} {L : List Ac} (hv : SlC w v L) (hfit : AFit L) (hL : L.length ≤ 400) {h : List Int} (hh : Ck h) :
    Calls Tryd.prog 22 #[v, .agg (cv h)] w (OrdQ h L w) := by
  obtain ⟨a9, c9, rfl⟩ := hv.form
  have hb0 := below_one w (.cells (cv h) 44)
  have k1 := CkAt.new w hh.1
  have HQ := hid_of' (newQueue_ok (hv.later hb0) hfit (by omega) hh)
  have hsl : ∀ a n' k', Value.slice a9 L.length c9 = .slice (some a) n' k' → 0 < L.length → a.block < w.heap.size := fun a n' k' e hp => by
    obtain ⟨g2, o2, c2, h1, h2⟩ := hv.pos hp
    rw [h1] at e
    cases e
    exact h2
  have H := hid_of' (And.intro hv (And.intro hb0 hsl))
  clear hv hb0 hsl
  go_enter Tryd.func22, Tryd.ntmps22
  go_upto_region 2 with (first | (refine wpL_load rfl _ rfl rfl k1 ?_) | (go_at_call 46; refine HQ.out.mono ?_; rintro e w1 ⟨q, kb, f, g, rfl, hqa, hga, qi, hq0, hk0, hb1⟩; clear HQ))
  generalize w.alloc (.cells (cv h) 44) = W at H hga hq0 hk0 hb1 k1 ⊢
  have hWs := H.out.2.1.size
  have HN := hid_of' (next_is hqa hh.1 qi.fl (fun r hr => Nat.le_trans (qi.fle r hr) (by omega)))
  have HI : Hid (OqI h L (.slice a9 L.length c9) w W.heap.size q kb [] h f g L.length (.slice none 0 0) w1) := hid_of' ⟨hqa, hga, qi, hh, OwnA.nil _, newB_nil _, H.out.2.1.trans (hb1.mono hWs), rfl, rfl, by simpa using lack_len h L, by simp; omega⟩
  clear hqa hga qi hb1 k1
  go_upto_region 3 with (go_at_call 47; refine HN.out.mono ?_; rintro e w2 ⟨⟨m, hm, rfl⟩, hw⟩; obtain rfl := hw.symm; clear HN)
  go_loopg [4, 7] (lackN h L) (fun N u i wr => ∃ (s : List Ac) (c : List Int) (f : List Nat) (g : Int → Int → List Nat) (n m : Nat), i = .int .i64 (m : Int) ∧ N = lackN c L ∧ Least f m ∧ OqI h L (.slice a9 L.length c9) w W.heap.size q kb s c f g n u wr)
  case atStart => exact ⟨[], h, f, g, L.length, m, rfl, rfl, hm, HI.out⟩
  case round =>
    rename World => wr
    clear hm HI
    obtain ⟨s, c, f1, g1, n, m1, rfl, hN, hm1, I⟩ := hrel
    obtain ⟨ua, uc, hu, _⟩ := I.own.form
    subst hu
    have hsl : s.length ≤ 400 := by have := I.len; omega
    rcases I.qi.found hm1 with ⟨hlt, x, hx, hrd, hfind, hmf⟩ | ⟨hme, hfind⟩
    · have hmi : (m1 : Int) < (L.length : Int) := by omega
      clear hmf
      have hxf := hfit.at hx
      have hv' := H.out.1.later I.below
      obtain ⟨g0, o0, c2, hve, _⟩ := hv'.pos (by omega)
      simp only [Value.slice.injEq, true_and] at hve
      obtain ⟨rfl, rfl⟩ := hve
      have hin := hv'.in hfit hx
      have hln : s.length + [x].length ≤ 1000000 := by simp only [List.length_singleton]; omega
      have HX := hid_of' (And.intro I (And.intro hx (And.intro hrd hfind)))
      have hI9 := I.own
      clear I hm1 hrd hfind hv' hx
      go_upto_region 6 with (first | (refine wpL_loadA rfl _ rfl rfl hxf hin ?_) | (refine wpList_plain rfl fun _ hK => opw_oneA (p := x) _ rfl rfl hxf ?_; refine hK _ _ ?_) | (at_builtin; refine wpL_appA rfl _ _ rfl rfl rfl (hI9.later (below_one wr (.cells (acv x) 48))) (slC_new wr x 1) (AFit.one hxf) hln ?_; intro v5 w5 p1 p2 p3))
      have hb3 := below_one wr (.cells (acv x) 48)
      obtain ⟨I, hx, hrd, hfind⟩ := HX.out
      have hq3 := I.at_.later hb3
      have hm3 := I.map.later hb3
      have hnu := not_qS (I.own.later hb3) hq3 hm3
      have hgc := grown_ch p2
      have hq5 : QAt q (.slice (some ⟨g0, o0, none⟩) L.length c9) c kb f1 w5 := hq3.ch hgc (fun e => hnu q e (.inr (.inl rfl)))
      have hm5 := hm3.ch hgc (fun e => hnu kb e (.inl rfl)) (fun k hk e => hnu k e (.inr (.inr hk)))
      have hb5 : Below w.heap.size w w5 := newB_below I.new (bgo I.below hb3) p2
      have hn5 : NewB w v5 := newB_at I.new p3 (bgo I.below hb3).size
      have hsz5 := hb5.size
      have hbw : W.heap.size ≤ w5.heap.size := by have := (hm5.lt); omega
      have HD := hid_of' (deliver_ok hq5 hm5 I.qi (H.out.1.later hb5) hfit (by omega) I.ck hx hrd (by have := I.cnt; omega) hbw (fun a n' k' e hp => by have := H.out.2.2 a n' k' e hp; omega))
      have HZ := hid_of' (And.intro p1 (And.intro hq5 (And.intro hm5 (And.intro hb5 hn5))))
      have hin5 := ((H.out.1.later hb5).in hfit hx)
      clear I hx hrd hfind hq3 hm3 hnu hgc hq5 hm5 hb5 hn5 p1 p2 p3 hin
      go_upto_region 4 with (first | (refine wpL_loadA rfl _ rfl rfl hxf hin5 ?_) | (go_at_call 48; refine HD.out.mono ?_; rintro e w6 ⟨⟨z, rfl⟩, f6, g6, D⟩; clear HD))
      obtain ⟨I, hx, hrd, hfind⟩ := HX.out
      obtain ⟨p1, hq5, hm5, hb5, hn5⟩ := HZ.out
      have hnu := not_qS p1 hq5 hm5
      have hb6 : Below w.heap.size w w6 := hb5.trans (D.ch.below (fun s' hs e => by
        rcases e with e | e | e
        · omega
        · omega
        · have := (hm5.rows e).1; omega) hsz5)
      have hck6 := adv_ck I.ck hrd hxf
      have hlk := lack_adv I.ck.1 (List.mem_of_getElem? hx) hrd
      have I6 : OqI h L (.slice (some ⟨g0, o0, none⟩) L.length c9) w W.heap.size q kb (s ++ [x]) (adv c x) f6 g6 (n + L.length) v5 w6 := ⟨D.at_, D.map, D.qi, hck6, p1.ch D.ch hnu, hn5, hb6, by rw [I.ord, ordL_some I.ck.1 hfind]; simp, by rw [dlv_app, ← I.dl]; rfl, by have := I.len; simp only [List.length_append, List.length_singleton]; omega, by have := I.cnt; simp only [List.length_append, List.length_singleton]; omega⟩
      have HN6 := hid_of' (next_is I6.at_ hck6.1 I6.qi.fl (fun r hr => Nat.le_trans (I6.qi.fle r hr) (by omega)))
      have H6 := hid_of' (And.intro I6 hlk)
      clear I hx hrd hfind p1 hq5 hm5 hb5 hn5 hnu hb6 hck6 hlk I6 D hin5
      go_wp2_with (go_at_call 47; refine HN6.out.mono ?_; rintro e w7 ⟨⟨m7, hm7, rfl⟩, hw⟩; obtain rfl := hw.symm; clear HN6)
      go_roundg (lackN (adv c x) L)
      case rel => exact ⟨s ++ [x], adv c x, f6, g6, n + L.length, m7, rfl, rfl, hm7, H6.out.1⟩
      case measure => rw [hN]; exact H6.out.2
    · have hmi : ¬ (m1 : Int) < (L.length : Int) := by omega
      clear hme
      have hso : ordL L h = s := by rw [I.ord, ordL_none hfind, List.append_nil]
      have hckq : CsIn q 1 (cv c) wr := I.at_.in.sub 1 (fun j u hu => qcv_ck I.ck.1 j u hu)
      have HM := hid_of' (missing_any (H.out.1.later I.below) hfit I.ck (L.length : Int) (by omega))
      have hl8 := I.ck.1
      have HX := hid_of' (And.intro I (And.intro hso hN))
      clear I hfind hso hm1 hN
      go_wp2_with (first | (refine wpL_loadCkQ rfl _ rfl rfl hl8 hckq ?_) | (go_at_call 17; refine HM.out.mono ?_; rintro e w8 ⟨r8, rfl, ho8, hn8, hb8⟩; clear HM))
      go_ret2
      obtain ⟨I, hso, _⟩ := HX.out
      rw [misC_all L [] (by simp)] at ho8
      refine ⟨_, _, rfl, ?_, ?_, I.new, fun k hk => Nat.le_trans I.below.size (hn8 k hk), (fun k hk e => by have := I.own.lt k hk; have := hn8 k e; omega), bgo I.below hb8⟩
      · rw [hso]; exact I.own.later hb8
      · rw [hso, ← I.dl]; exact ho8
end Go.Proofs.YtlkcjbmdeimocaaDoor
