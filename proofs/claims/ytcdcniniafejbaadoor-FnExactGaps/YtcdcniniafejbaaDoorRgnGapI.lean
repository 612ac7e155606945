/- Contract of the program's Gaps: it answers, in a row of its own, the runs of days in no reign; nothing that was there turns. -/
import Derived.Test.YtcdcniniafejbaaDoorRgnIter
import Derived.Test.YtcdcniniafejbaaDoorRgnGapS
namespace Go.Proofs.YtcdcniniafejbaaDoor.ctr
open Go.RowKit Go.Shelf

attribute [local go_sem] Oper.semAt_some

theorem own_monoG {w : World} {b b' e size : Nat} {v : Value} {n : Nat} {xs : List Value} (h : w.ownsRow b e size v n xs) (hb : b' ≤ b) : w.ownsRow b' e size v n xs := by
  obtain ⟨h1, h | ⟨g, cap, cur, hv, hg, hr⟩⟩ := h
  · exact ⟨h1, .inl h⟩
  · exact ⟨h1, .inr ⟨g, cap, cur, hv, Nat.le_trans hb hg, hr⟩⟩
theorem own_typeG {w : World} {b e size : Nat} {v : Value} {n : Nat} {xs : List Value} (h : w.ownsRow b e size v n xs) : ∀ j, v.ownBlock = some j → b ≤ j ∧ ∃ cur, w.heap[j]? = some (.cells cur e) := by
  intro j hj
  rcases h.2 with ⟨rfl, _⟩ | ⟨g, cap, cur, rfl, hb, hh, _⟩
  · cases hj
  · cases hj
    exact ⟨hb, cur, hh⟩
theorem appendedR {W w2 : World} {n0 R : Nat} {v v' : Value} {k m : Nat} {xs ys : List Value} {tmp : Obj}
    (hv : Boxed W R 43 v) (hrow : W.ownsRow (R + 4) 77 2 v k xs) (hsz : R + 4 ≤ W.heap.size) (hn0 : n0 ≤ R)
    (hown' : w2.ownsRow (R + 4) 77 2 v' m ys) (hgrow : (W.alloc tmp).grownBy w2 v.ownBlock) :
    Boxed w2 R 43 v ∧ Boxed (w2.setCell ⟨R, 0, none⟩ v') R 43 v' ∧ (w2.setCell ⟨R, 0, none⟩ v').ownsRow (R + 4) 77 2 v' m ys ∧ KeepsOthers W (w2.setCell ⟨R, 0, none⟩ v') ∧ Below n0 W (w2.setCell ⟨R, 0, none⟩ v') ∧ KpR R W (w2.setCell ⟨R, 0, none⟩ v') := by
  obtain ⟨hv1, hv2, _, hk2, hb2⟩ := hv.appended (n₀ := n0) (by decide) (own_monoG hrow (by omega)) (by omega) hn0 (own_monoG hown' (by omega)) hgrow
  have hk : ∀ j, j < W.heap.size → j ≠ R → v.ownBlock ≠ some j → (w2.setCell ⟨R, 0, none⟩ v').heap[j]? = W.heap[j]? := by
    intro j hj hjB hne
    rw [Below.heap_setCell w2 _ _ j hjB, hgrow.block j (by rw [World.size_alloc]; omega) (fun e => hne e.symm), Below.heap_alloc W tmp j hj]
  refine ⟨hv1, hv2, hown'.kept (grownBy_setCell' w2 R v') (.inr (hv1.not_row (by decide) hown').symm), hk2, hb2, hb2.size, fun b h1 h2 => hk b (by omega) h1 (fun e => ?_), fun b cs fr e => hk b (Array.getElem?_eq_some_iff.1 e).1 (fun q => ?_) (fun q => ?_)⟩
  · have := (own_typeG hrow b e).1
    omega
  · subst q
    have := (show W.heap[b]? = _ from hv).symm.trans e
    simp at this
  · obtain ⟨_, cur, hc⟩ := own_typeG hrow b q
    rw [hc] at e
    simp at e

set_option maxRecDepth 100000 in
set_option maxHeartbeats 4000000 in
theorem gapsI_in (n : Nat) (hn : 6 ≤ n) (v : Value) (l : List Rgn) (F T : Int) (q : Addr) (w : World) (h : RRow w v l) (hok : reignsOk l = true) (hT : Tab w) (hS : Sent w q) :
    CallsIn Fence.wide n Tryd.prog 26 #[v, .int .i64 F, .int .i64 T] w fun e W' => ∃ o, e = .returned o ∧ PMov w W' o (gapsFrom T l F) ∧ Below w.heap.size w W' := by
  have h1 : 1 ≤ n := by omega
  have hgl := gaps_len (T := T) l F
  have hl30 := ok_len hok
  obtain ⟨i0, hi, hz0, hz1, hz2⟩ := info_parts info_pair
  have KO := implReignsOk v l q w h hT hS
  rw [hok] at KO
  obtain ⟨ad, cap, rfl, hlc, hm, hnm, hrow0⟩ := h
  refine callsIn_of_wp_marks Tryd.func26 rfl trivial ?_ rfl
  simp only [Tryd.ntmps26, List.size_toArray, List.length_cons, List.length_nil, Nat.reduceAdd, Nat.reduceSub, Array.replicate_succ, Array.replicate_zero, List.push_toArray, List.append_toArray, List.nil_append, List.cons_append]
  gi_wp2_with fail
  refine ⟨trivial, ?_⟩
  refine (callsIn_wide.2 KO).mono ?_
  rintro e w1 ⟨rfl, hb1⟩
  gi_wp2_with fail
  refine ⟨trivial, ?_⟩
  refine (gapsOf_in _ _ F T _ ⟨_, _, _, rfl⟩).mono ?_
  rintro e w' ⟨rfl, rfl⟩
  gi_wp2_with fail
  have bO := Boxed.new w1 43 (.slice none 0 0)
  have bL := Boxed.new (w1.alloc (.cells #[.slice none 0 0] 43)) 25 (.slice ad l.length cap)
  have bF := Boxed.new ((w1.alloc (.cells #[.slice none 0 0] 43)).alloc (.cells #[.slice ad l.length cap] 25)) 3 (.int .i64 F)
  have bT := Boxed.new (((w1.alloc (.cells #[.slice none 0 0] 43)).alloc (.cells #[.slice ad l.length cap] 25)).alloc (.cells #[.int .i64 F] 3)) 3 (.int .i64 T)
  simp only [World.size_alloc] at bL bF bT
  obtain ⟨W0, hW0⟩ : ∃ W0, (((w1.alloc (.cells #[.slice none 0 0] 43)).alloc (.cells #[.slice ad l.length cap] 25)).alloc (.cells #[.int .i64 F] 3)).alloc (.cells #[.int .i64 T] 3) = W0 := ⟨_, rfl⟩
  have bO' := ((bO.alloc (.cells #[.slice ad l.length cap] 25)).alloc (.cells #[.int .i64 F] 3)).alloc (.cells #[.int .i64 T] 3)
  have bL' := (bL.alloc (.cells #[.int .i64 F] 3)).alloc (.cells #[.int .i64 T] 3)
  have bF' := bF.alloc (.cells #[.int .i64 T] 3)
  have hB0 : Below w1.heap.size w1 W0 := by
    rw [← hW0]
    exact ((((Below.refl _ w1).alloc (Nat.le_refl _) _).alloc (by simp only [World.size_alloc]; omega) _).alloc (by simp only [World.size_alloc]; omega) _).alloc (by simp only [World.size_alloc]; omega) _
  have hz : W0.heap.size = w1.heap.size + 4 := by rw [← hW0]; simp only [World.size_alloc]
  have hBw : Below w.heap.size w W0 := hb1.trans (hB0.mono hb1.size)
  have hs1 := hb1.size
  have HR : ∀ k, k < l.length → ∃ g, ad = some ⟨g, 0, none⟩ ∧ g < w1.heap.size ∧ RAt W0 g k (rgA l k) := fun k hk => by
    obtain ⟨g, e, hg, x⟩ := hrow0 k hk
    exact ⟨g, e, Nat.lt_of_lt_of_le hg hs1, x.below hBw hg⟩
  rw [hW0] at bO' bL' bF' bT ⊢
  generalize hRR : w1.heap.size = R at *
  clear bO bL bF hW0
  refine wpIn_rangeFunc_ownH rfl h1 (gf := 78) (lb := #[.pointer (some ⟨R + 2, 0, none⟩), .pointer (some ⟨R + 1, 0, none⟩), .pointer (some ⟨R + 3, 0, none⟩)]) rfl trivial (enters_of Tryd.func78 (by kernel_rfl) rfl)
    (gaps_stops (n - 1) (by omega) R ad cap l F T hok W0 (by omega) HR bF'.cell bL'.cell bT.cell) KpR.trans (keepR_b (by omega)) (Below.refl _ _) (fun _ => rfl)
    (fun pre W => (∃ o, Boxed W R 43 o ∧ W.ownsRow (R + 4) 77 2 o pre.length ((flat pre).map (Value.int .i64)) ∧ (o = .slice none 0 0 ↔ pre = [])) ∧ Below w.heap.size w W ∧ R + 4 ≤ W.heap.size)
    (fun _ _ _ => False)
    (OwnFrom.and (Own.from (holdsRow_own (R + 4) R 43 77 2 (fun pre : List (Int × Int) => pre.length) (fun pre => (flat pre).map (Value.int .i64)) (fun pre v => v = .slice none 0 0 ↔ pre = [])) _) (OwnFrom.and (ownFrom_below (Nat.le_refl _) (by omega)) (fun s' A B row hs' hg _ => Nat.le_trans hs' hg.size)))
    (fun _ _ _ _ _ hs _ _ => hs)
    ⟨⟨_, bO', World.ownsRow_nil _ _ _ _, by simp⟩, hBw, by omega⟩
    (fun x a' W => ∃ Bx, R + 4 ≤ Bx ∧ Blk W Bx #[.int .i64 x.1, .int .i64 x.2] 77 ∧ a' = { tmps := #[.slice ad l.length cap, .int .i64 F, .int .i64 T, undef, undef, undef, .slice none 0 0, .pointer (some ⟨R, 0, none⟩), .pointer (some ⟨Bx, 0, none⟩), .slice ad l.length cap, .bool true, .bool false, .slice ad l.length cap, .int .i64 F, .int .i64 T, .func (.func 78) #[] #[.pointer (some ⟨R + 2, 0, none⟩), .pointer (some ⟨R + 1, 0, none⟩), .pointer (some ⟨R + 3, 0, none⟩)], .agg #[.int .i64 x.1, .int .i64 x.2], undef, undef, undef, undef, undef], defers := [] })
    (fun x a' s A B row hs hg hr => by
      obtain ⟨Bx, h1, h2, h3⟩ := hs
      refine ⟨Bx, h1, (hg.block Bx h2.lt (fun e => ?_)).trans h2, h3⟩
      obtain ⟨_, o, ho, hc⟩ := hr Bx e.symm
      rw [show A.heap[Bx]? = _ from h2] at ho
      cases ho
      cases hc) ?assign ?body ?done ?stop
  case assign =>
    rintro lp pre x W K ⟨⟨o, ho, hrow, hnil⟩, hB, hsz⟩ hK
    gi_wp2
    exact hK _ _ ((KeepsOthers.alloc _ _).from _) ((KpR.refl R W).alloc hsz _) ⟨⟨o, ho.alloc _, hrow.alloc _, hnil⟩, hB.alloc hB.size _, by rw [World.size_alloc]; omega⟩ ⟨W.heap.size, hsz, Blk.new W _ _, rfl⟩
  case body =>
    rintro lp pre x a' W hl ⟨r, hr⟩ ⟨⟨o, ho, hrow, hnil⟩, hB, hsz⟩ ⟨Bx, hBx, bX, rfl⟩ hlt
    have hc := ho.cell
    have x0 := bX.cell 0 rfl
    have x1 := bX.cell 1 rfl
    gi_wp2_with (gi_at_builtin; refine wpListIn_append_own _ rfl _ _ 43 rfl (R + 4) 77 i0 (.agg #[.int .i64 0, .int .i64 0]) 2 16 Tryd.underlying43 hi hz0 hz1 hz2 rfl (by decide) _ _ _ rfl (hrow.alloc _) ⟨W.heap.size, 0, none⟩ 1 1 [.int .i64 x.1, .int .i64 x.2] rfl rfl (cells_two _ _ _ _ rfl) (by simp [Value.oneCell']) (by unfold maxLen; omega) (by omega) (by rw [World.size_alloc]; omega) ?_; intro v' w2 hown' hgrow _; obtain ⟨g', cap', rfl⟩ := ownsRow_succ hown'; obtain ⟨hv1, hv2, hr2, hk2, hb2, hk3⟩ := appendedR (n0 := w.heap.size) ho hrow hsz (by omega) hown' hgrow; have hc1 := hv1.cell; have hf1 := hv1.frozen)
    exact ⟨hk2.from _, hk3, ⟨_, hv2, by simpa [flat_app, flat] using hr2, by simp⟩, hB.trans hb2, Nat.le_trans hsz hb2.size⟩
  case done =>
    rintro D ys W hD rfl ⟨⟨o, ho, hrow, hnil⟩, hB, hsz⟩ hK
    have hc := ho.cell
    gi_wp2
    refine ⟨by simp, .inl ⟨_, _, rfl, run_takeDeferred hK, ?_⟩⟩
    exact ⟨_, results_tmp rfl _ _ _, o, rfl, own_pairs (own_monoG (ownsRow_putObj hrow _ hK rfl) (by omega)), hB.trans (belowK_b (w := w) (Nat.le_refl _) W D _ _ (by omega) hK rfl rfl)⟩
  case stop =>
    rintro D c pre W _ _ h _
    exact h.elim

set_option maxHeartbeats 1000000 in
theorem implGaps (v : Value) (l : List Rgn) (F T : Int) (q : Addr) (w : World) (h : RRow w v l) (hT : Tab w) (hS : Sent w q) :
    Calls Tryd.prog 26 #[v, .int .i64 F, .int .i64 T] w fun e W' => ∃ o, e = .returned o ∧ PMov w W' o (gaps l F T) ∧ Below w.heap.size w W' := by
  cases hok : reignsOk l
  · have KO := implReignsOk v l q w h hT hS
    rw [hok] at KO
    have HR : Hid (gaps l F T = []) := by unfold Hid gaps; rw [hok]; rfl
    rw [HR.out]
    obtain ⟨ad, cap, rfl, hlc, hm, hnm, hrow0⟩ := h
    clear hrow0 hnm hT hS hok
    go_enter Tryd.func26, Tryd.ntmps26
    go_wp2_with fail
    refine KO.mono ?_
    rintro e w1 ⟨rfl, hb⟩
    have HB := hideP hb
    clear hb
    go_wp2
    go_ret
    exact ⟨_, rfl, pmov_nil _ _, HB.out⟩
  · have HR : Hid (gaps l F T = gapsFrom T l F) := by unfold Hid gaps; rw [hok]; rfl
    rw [HR.out]
    exact (callsIn_wide (n := 6)).1 (gapsI_in 6 (Nat.le_refl _) v l F T q w h hok hT hS)
end Go.Proofs.YtcdcniniafejbaaDoor.ctr
