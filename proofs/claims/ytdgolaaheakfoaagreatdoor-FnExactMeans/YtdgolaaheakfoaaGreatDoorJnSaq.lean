/- Contracts of the laws' own helpers over regimes: how long all is (szRegime), copies (toRegime), two alike are told alike (eqRegime). Contracts of the program's MonthDays: it answers its plain function at every argument, where its table holds its numbers. Contracts of the model's MonthDays and DateOk: each answers its plain function at every argument. -/
import Derived.Test.YtdgolaaheakfoaaGreatDoorRgmOpenS
import Derived.Test.YtdgolaaheakfoaaGreatDoorJnSal
import Derived.Test.YtdgolaaheakfoaaGreatDoorJnSaa
import Derived.Test.YtdgolaaheakfoaaGreatDoorJnSaj
import Derived.Deep.RegionWith
namespace Go.Proofs.YtdgolaaheakfoaaGreatDoor.ctr
open Go.RowKit
set_option maxHeartbeats 1000000 in
theorem szReignSL (a : Option Addr) (len cap : Nat) (l : List Rgn) (left : Int) (w : World) (h : RIn w a len cap l) (z1 : 0 ≤ left) (z2 : left ≤ 1048576) : Calls Tryz.prog 32 #[.slice a len cap, .int .i64 left] w fun e w' => ∃ z : Int, e = .returned (.int .i64 z) ∧ (z = -1 ∨ (0 ≤ z ∧ z ≤ 1048576 ∧ SizeOk l)) ∧ Below w.heap.size w w' := by
  have hcap := h.2.2.1
  have hlc := h.2.1
  have hn := hideP h.2.2.2.1
  have hL := hideP h.1
  have H := hideP h
  unfold maxLen at hcap
  clear h
  by_cases hbig : left < len
  · go_enter Tryz.func32, Tryz.ntmps32
    go_wp2
    go_ret
    exact ⟨_, rfl, .inl rfl, Below.refl _ _⟩
  go_enter Tryz.func32, Tryz.ntmps32
  go_wp2
  go_loopw [1, 5] (fun z i wr => ∃ (k : Nat) (q : Int), k ≤ len ∧ i = .int .i64 (k : Int) ∧ z = .int .i64 q ∧ 0 ≤ q ∧ q ≤ 1048576 ∧ Hid (∀ j, j < k → (rgA l j).name.size ≤ 1048576) ∧ Below w.heap.size w wr) (fun _ i _ => len - (intOf i).toNat)
  case atStart => exact ⟨0, left - (len : Int), Nat.zero_le _, rfl, by go_num, by omega, by omega, fun j hj => by omega, Below.refl _ _⟩
  case round =>
    obtain ⟨k, q, hk, rfl, rfl, q1, q2, HS, hB⟩ := hrel
    have HB := hideP hB
    clear hB
    by_cases hlt : k < len
    · obtain ⟨x, rfl, hx⟩ := H.out.at hlt
      obtain ⟨c0, c1, c2⟩ := hx ⟨wr, HB.out⟩
      have hnk := hn.out k hlt
      dsimp only at c0 c1 c2
      have HN := hideP (show szR (rgA l k).name.size q = -1 ∨ (0 ≤ szR (rgA l k).name.size q ∧ szR (rgA l k).name.size q ≤ 1048576 ∧ (rgA l k).name.size ≤ 1048576) by unfold szR; split <;> omega)
      have HK : Hid (∀ W, Calls Tryz.prog 68 #[.agg #[.string (rgA l k).name, .int .i64 (rgA l k).fr, .int .i64 (rgA l k).to], .int .i64 q] W fun e w' => e = .returned (.int .i64 (szR (rgA l k).name.size q)) ∧ Below W.heap.size W w') := fun W => szReign _ _ _ _ W hnk q1 q2
      have HJ : Hid ((rgA l k).name.size ≤ 1048576 → ∀ j, j < k + 1 → (rgA l j).name.size ≤ 1048576) := fun g j hj => by
        by_cases e : j = k
        · subst e; exact g
        · exact HS.out j (by omega)
      clear hx hnk
      generalize szR (rgA l k).name.size q = z at *
      generalize rgA l k = r at *
      go_wp2_with fail
      refine (HK.out _).mono ?_
      rintro e w1 ⟨rfl, hb⟩
      have HB1 : Hid (Below w.heap.size w w1) := HB.out.trans (hb.mono HB.out.size)
      clear hb c0 c1 c2
      rcases HN.out with rfl | ⟨z1, z2, z3⟩
      · go_wp2
        go_ret
        exact ⟨_, rfl, .inl rfl, HB1.out⟩
      · go_wp2
        exact ⟨⟨k + 1, z, by omega, by go_num, rfl, z1, z2, HJ.out z3, HB1.out⟩, by simp [intOf]; omega⟩
    · go_wp2
      go_ret
      exact ⟨_, rfl, .inr ⟨q1, q2, by rw [hL.out]; omega, by rw [hL.out]; exact fun j hj => HS.out j (by omega)⟩, HB.out⟩
theorem seven_box (w : World) (v0 v1 v2 v3 v4 v5 v6 : Value) (t : TypeId) : ∃ W0, W0 = w.alloc (.cells #[v0, v1, v2, v3, v4, v5, v6] t) ∧ (∀ x : Later W0, x.w.cell? ⟨w.heap.size, 0, none⟩ = some v0) ∧ (∀ x : Later W0, x.w.cell? ⟨w.heap.size, 1, none⟩ = some v1) ∧ (∀ x : Later W0, x.w.cell? ⟨w.heap.size, 2, none⟩ = some v2) ∧ (∀ x : Later W0, x.w.cell? ⟨w.heap.size, 3, none⟩ = some v3) ∧ (∀ x : Later W0, x.w.cell? ⟨w.heap.size, 4, none⟩ = some v4) ∧ (∀ x : Later W0, x.w.cell? ⟨w.heap.size, 5, none⟩ = some v5) ∧ (∀ x : Later W0, x.w.cell? ⟨w.heap.size, 6, none⟩ = some v6) ∧ ∀ x : Later W0, Below w.heap.size w x.w :=
  ⟨_, rfl, Later.new rfl 0 rfl, Later.new rfl 1 rfl, Later.new rfl 2 rfl, Later.new rfl 3 rfl, Later.new rfl 4 rfl, Later.new rfl 5 rfl, Later.new rfl 6 rfl, fun x => below_alloc x.below⟩
set_option maxHeartbeats 1000000 in
theorem szRegime (v : Value) (r : Rgm) (left : Int) (w : World) (h : GIn w v r) (z1 : 0 ≤ left) (z2 : left ≤ 1048576) : Calls Tryz.prog 7 #[v, .int .i64 left] w fun e w' => ∃ z : Int, e = .returned (.int .i64 z) ∧ (z = -1 ∨ (0 ≤ z ∧ z ≤ 1048576 ∧ GOk r)) ∧ Below w.heap.size w w' := by
  obtain ⟨a1, n1, c1, a2, n2, c2, a3, n3, c3, rfl, hn, h1, h2, h3⟩ := h
  obtain ⟨W0, hW0, d0, d1, d2, d3, d4, d5, d6, hBl⟩ := seven_box w (.string r.name) (.int .i64 r.fr) (.int .i64 r.to) (.slice a1 n1 c1) (.slice a2 n2 c2) (.slice a3 n3 c3) (.int .i64 r.rule) 26
  have HW0 := hideP hW0
  have HBl := hideP hBl
  have l1 := h1.1
  have l2 := h2.1
  have K1 : ∀ z W, 0 ≤ z → z ≤ 1048576 → Calls Tryz.prog 30 #[.slice a1 n1 c1, .int .i64 z] W fun e w' => e = .returned (.int .i64 (if z < n1 then -1 else z - n1)) ∧ Below W.heap.size W w' := fun z W g1 g2 => (szSegmentS _ _ _ _ W h1.2.1 h1.2.2.1 g1 g2).mono fun _ _ h => ⟨h.1, same_bel h.2⟩
  have K2 : ∀ z W, 0 ≤ z → z ≤ 1048576 → Calls Tryz.prog 31 #[.slice a2 n2 c2, .int .i64 z] W fun e w' => e = .returned (.int .i64 (if z < n2 then -1 else z - n2)) ∧ Below W.heap.size W w' := fun z W g1 g2 => (szPatchS _ _ _ _ W h2.2.1 h2.2.2.1 g1 g2).mono fun _ _ h => ⟨h.1, same_bel h.2⟩
  have K3 : Hid (∀ z (x : Later W0), 0 ≤ z → z ≤ 1048576 → Calls Tryz.prog 32 #[.slice a3 n3 c3, .int .i64 z] x.w fun e w' => ∃ y : Int, e = .returned (.int .i64 y) ∧ (y = -1 ∨ (0 ≤ y ∧ y ≤ 1048576 ∧ SizeOk r.rgns)) ∧ Below x.w.heap.size x.w w') := fun z x g1 g2 => szReignSL _ _ _ _ z _ (h3.below (hBl x)) g1 g2
  clear hW0 hBl h1 h2 h3
  unfold maxLen at hn
  by_cases g0 : left < r.name.size
  · go_enter Tryz.func7, Tryz.ntmps7
    go_wp2_with fail
    go_ret
    exact ⟨_, rfl, .inl rfl, (Below.refl _ _).alloc (Nat.le_refl _) _⟩
  obtain ⟨q0, hq0⟩ : ∃ q : Int, q = left - r.name.size := ⟨_, rfl⟩
  have e0 : wrap64 (left - (r.name.size : Int)) = q0 := by unfold wrap64; omega
  have p0 : 0 ≤ q0 := by omega
  have p1 : q0 ≤ 1048576 := by omega
  have hnm : r.name.size ≤ 1048576 := by omega
  go_enter Tryz.func7, Tryz.ntmps7
  go_wp2_with fail
  try rw [show left - (r.name.size : Int) = q0 from hq0.symm]
  rw [← HW0.out]
  refine (K1 q0 _ p0 p1).mono ?_
  rintro e w1 ⟨rfl, hb⟩
  obtain ⟨x1, rfl⟩ := Later.of hb
  clear hb
  by_cases g1 : q0 < n1
  · rw [if_pos g1]
    go_wp2_with fail
    go_ret
    exact ⟨_, rfl, .inl rfl, HBl.out x1⟩
  rw [if_neg g1]
  obtain ⟨q1, hq1⟩ : ∃ q : Int, q = q0 - n1 := ⟨_, rfl⟩
  rw [← hq1]
  have p2 : 0 ≤ q1 := by omega
  have p3 : q1 ≤ 1048576 := by omega
  have hs1 : r.segs.length ≤ 1048576 := by omega
  clear hq1 g1 l1
  go_wp2_with fail
  refine (K2 q1 _ p2 p3).mono ?_
  rintro e w2 ⟨rfl, hb⟩
  obtain ⟨x2, rfl⟩ := x1.next hb
  clear hb
  by_cases g2 : q1 < n2
  · rw [if_pos g2]
    go_wp2_with fail
    go_ret
    exact ⟨_, rfl, .inl rfl, HBl.out x2⟩
  rw [if_neg g2]
  obtain ⟨q2, hq2⟩ : ∃ q : Int, q = q1 - n2 := ⟨_, rfl⟩
  rw [← hq2]
  have p4 : 0 ≤ q2 := by omega
  have p5 : q2 ≤ 1048576 := by omega
  have hs2 : r.pats.length ≤ 1048576 := by omega
  clear hq2 g2 l2
  go_wp2_with fail
  refine (K3.out q2 _ p4 p5).mono ?_
  rintro e w3 ⟨y, rfl, hy, hb⟩
  obtain ⟨x3, rfl⟩ := x2.next hb
  have HY := hideP hy
  clear hb hy
  rcases HY.out with rfl | ⟨y1, y2, y3⟩
  · go_wp2_with fail
    go_ret
    exact ⟨_, rfl, .inl rfl, HBl.out x3⟩
  · go_wp2_with fail
    go_ret
    exact ⟨_, rfl, .inr ⟨y1, y2, hnm, hs1, hs2, y3⟩, HBl.out x3⟩
def gmZero : Array Value := #[.string ⟨#[]⟩, .int .i64 0, .int .i64 0, .slice none 0 0, .slice none 0 0, .slice none 0 0, .int .i64 0]
structure TR (w : World) (bx : Array Value) (t : TypeId) (W : World) (vs : Array Value) : Prop where
  box : Blk W w.heap.size bx t
  res : Blk W (w.heap.size + 1) gmZero 40
  out : Blk W (w.heap.size + 1 + 1) vs 40
  below : Below w.heap.size w W
theorem TR.set {w : World} {bx : Array Value} {t : TypeId} {W : World} {vs : Array Value} (h : TR w bx t W vs) (j : Nat) (v : Value) : TR w bx t (W.setCell ⟨w.heap.size + 1 + 1, j, none⟩ v) (vs.setIfInBounds j v) :=
  ⟨h.box.other (by omega), h.res.other (by omega), h.out.set j v, below_store h.below v (by omega)⟩
theorem TR.next {w : World} {bx : Array Value} {t : TypeId} {W W' : World} {vs : Array Value} (h : TR w bx t W vs) (hb : Below W.heap.size W W') : TR w bx t W' vs :=
  ⟨h.box.below hb h.box.lt, h.res.below hb h.res.lt, h.out.below hb h.out.lt, h.below.trans (hb.mono h.below.size)⟩
theorem TR.start (w : World) (bx : Array Value) (t : TypeId) (vs : Array Value) : TR w bx t (((w.alloc (.cells bx t)).alloc (.cells gmZero 40)).alloc (.cells vs 40)) vs :=
  ⟨((Blk.new w bx t).alloc _).alloc _, by have := (Blk.new (w.alloc (.cells bx t)) gmZero 40).alloc (.cells vs 40); rw [World.size_alloc] at this; exact this,
   by have := Blk.new ((w.alloc (.cells bx t)).alloc (.cells gmZero 40)) vs 40; rw [World.size_alloc, World.size_alloc] at this; exact this,
   (((Below.refl w.heap.size w).alloc (Nat.le_refl _) _).alloc (by rw [World.size_alloc]; omega) _).alloc (by rw [World.size_alloc, World.size_alloc]; omega) _⟩
theorem INew.store {α : Type} {K : IK α} {w w' : World} {v : Value} {l : List α} (h : INew K w w' v l) {b i : Nat} (x : Value) (hb : b < w.heap.size) : INew K w (w'.setCell ⟨b, i, none⟩ x) v l := by
  obtain ⟨g, t, e1, e2, e3⟩ := h
  exact ⟨g, t, e1, e2, e3.other (by omega)⟩
theorem INew.mono {α : Type} {K : IK α} {w w0 w' : World} {v : Value} {l : List α} (h : INew K w w' v l) (hb : w0.heap.size ≤ w.heap.size) : INew K w0 w' v l := by
  obtain ⟨g, t, e1, e2, e3⟩ := h
  exact ⟨g, t, e1, Nat.le_trans hb e2, e3⟩
theorem RNew.store {w w' : World} {v : Value} {l : List Rgn} (h : RNew w w' v l) {b i : Nat} (x : Value) (hb : b < w.heap.size) : RNew w (w'.setCell ⟨b, i, none⟩ x) v l := by
  obtain ⟨g, t, e1, e2, e3⟩ := h
  exact ⟨g, t, e1, e2, e3.other (by omega)⟩
theorem RNew.mono {w w0 w' : World} {v : Value} {l : List Rgn} (h : RNew w w' v l) (hb : w0.heap.size ≤ w.heap.size) : RNew w0 w' v l := by
  obtain ⟨g, t, e1, e2, e3⟩ := h
  exact ⟨g, t, e1, Nat.le_trans hb e2, e3⟩
set_option maxHeartbeats 4000000 in
theorem toRegime (v : Value) (r : Rgm) (w : World) (h : GIn w v r) (ho : GOk r) : Calls Tryz.prog 10 #[v] w fun e w' => ∃ o, e = .returned o ∧ GNew w w' o r ∧ Below w.heap.size w w' := by
  obtain ⟨a1, n1, c1, a2, n2, c2, a3, n3, c3, rfl, hn, h1, h2, h3⟩ := h
  obtain ⟨o1, o2, o3, o4⟩ := ho
  obtain ⟨W1, hW1⟩ : ∃ W1, W1 = (((w.alloc (.cells #[.string r.name, .int .i64 r.fr, .int .i64 r.to, .slice a1 n1 c1, .slice a2 n2 c2, .slice a3 n3 c3, .int .i64 r.rule] 26)).alloc (.cells gmZero 40)).alloc (.cells #[.string r.name, .int .i64 r.fr, .int .i64 r.to, .slice none 0 0, .slice none 0 0, .slice none 0 0, .int .i64 0] 40)) := ⟨_, rfl⟩
  have S1 := TR.start w #[.string r.name, .int .i64 r.fr, .int .i64 r.to, .slice a1 n1 c1, .slice a2 n2 c2, .slice a3 n3 c3, .int .i64 r.rule] 26 #[.string r.name, .int .i64 r.fr, .int .i64 r.to, .slice none 0 0, .slice none 0 0, .slice none 0 0, .int .i64 0]
  rw [← hW1] at S1
  have z1 : W1.heap.size = w.heap.size + 1 + 1 + 1 := by rw [hW1, World.size_alloc, World.size_alloc, World.size_alloc]
  have HS1 := hideP S1
  have HW1 := hideP hW1
  have HZ1 := hideP z1
  have K1 : Hid (∀ W, Below w.heap.size w W → Calls Tryz.prog 37 #[.slice a1 n1 c1] W fun e w' => ∃ v, e = .returned v ∧ INew segK W w' v r.segs ∧ Below W.heap.size W w') := fun W hb => toSegmentS _ _ _ _ W (h1.below hb) o2
  have K2 : Hid (∀ W, Below w.heap.size w W → Calls Tryz.prog 38 #[.slice a2 n2 c2] W fun e w' => ∃ v, e = .returned v ∧ INew patK W w' v r.pats ∧ Below W.heap.size W w') := fun W hb => toPatchS _ _ _ _ W (h2.below hb) o3
  have K3 : Hid (∀ W, Below w.heap.size w W → Calls Tryz.prog 39 #[.slice a3 n3 c3] W fun e w' => ∃ v, e = .returned v ∧ RNew W w' v r.rgns ∧ Below W.heap.size W w') := fun W hb => toReignS _ _ _ _ W (h3.below hb) o4
  clear h1 h2 h3 S1 hW1 z1 o1 o2 o3 o4 hn
  go_enter Tryz.func10, Tryz.ntmps10
  go_wp2_with fail
  rw [show ((w.alloc (.cells #[.string r.name, .int .i64 r.fr, .int .i64 r.to, .slice a1 n1 c1, .slice a2 n2 c2, .slice a3 n3 c3, .int .i64 r.rule] 26)).alloc (.cells #[.string ⟨#[]⟩, .int .i64 0, .int .i64 0, .slice none 0 0, .slice none 0 0, .slice none 0 0, .int .i64 0] 40)).alloc (.cells #[.string r.name, .int .i64 r.fr, .int .i64 r.to, .slice none 0 0, .slice none 0 0, .slice none 0 0, .int .i64 0] 40) = W1 from HW1.out.symm]
  refine (K1.out _ HS1.out.below).mono ?_
  rintro e w1 ⟨u1, rfl, ⟨g1, t1', rfl, hg1, hB1⟩, hb⟩
  have hu1 : INew segK _ w1 (.slice (some ⟨g1, 0, none⟩) r.segs.length r.segs.length) r.segs := ⟨g1, t1', rfl, hg1, hB1⟩
  clear hg1 hB1
  have S2 := hideP (HS1.out.next hb)
  have U1 := hideP hu1
  have LE1 : Hid (W1.heap.size ≤ w1.heap.size) := hb.size
  clear hu1 hb
  have b4 := S2.out.box.cell 4 rfl
  have d3 := S2.out.out.cell 3 rfl
  have t3 := S2.out.out.thaw 3
  go_wp2_with fail
  have S3 := hideP (S2.out.set 3 (.slice (some ⟨g1, 0, none⟩) r.segs.length r.segs.length))
  have U3 := hideP (U1.out.store (i := 3) (.slice (some ⟨g1, 0, none⟩) r.segs.length r.segs.length) (show w.heap.size + 1 + 1 < W1.heap.size by rw [HZ1.out]; omega))
  refine (K2.out _ S3.out.below).mono ?_
  rintro e w2 ⟨u2, rfl, ⟨g2, t2', rfl, hg2, hB2⟩, hb⟩
  have hu2 : INew patK _ w2 (.slice (some ⟨g2, 0, none⟩) r.pats.length r.pats.length) r.pats := ⟨g2, t2', rfl, hg2, hB2⟩
  clear hg2 hB2
  have S4 := hideP (S3.out.next hb)
  have U4 := hideP (U3.out.below hb)
  have B2 := hideP (show W1.heap.size ≤ (w1.setCell ⟨w.heap.size + 1 + 1, 3, none⟩ (.slice (some ⟨g1, 0, none⟩) r.segs.length r.segs.length)).heap.size from Nat.le_trans LE1.out (by rw [World.size_setCell]; exact Nat.le_refl _))
  have V4 := hideP (hu2.mono B2.out)
  have LE2 : Hid (W1.heap.size ≤ w2.heap.size) := Nat.le_trans B2.out hb.size
  clear hu2 hb
  have b5 := S4.out.box.cell 5 rfl
  have d4 := S4.out.out.cell 4 rfl
  have t4 := S4.out.out.thaw 4
  clear b4 d3 t3
  go_wp2_with fail
  have S5 := hideP (S4.out.set 4 (.slice (some ⟨g2, 0, none⟩) r.pats.length r.pats.length))
  have U5 := hideP (U4.out.store (i := 4) (.slice (some ⟨g2, 0, none⟩) r.pats.length r.pats.length) (show w.heap.size + 1 + 1 < W1.heap.size by rw [HZ1.out]; omega))
  have V5 := hideP (V4.out.store (i := 4) (.slice (some ⟨g2, 0, none⟩) r.pats.length r.pats.length) (show w.heap.size + 1 + 1 < W1.heap.size by rw [HZ1.out]; omega))
  refine (K3.out _ S5.out.below).mono ?_
  rintro e w3 ⟨u3, rfl, ⟨g3, t3', rfl, hg3, hB3⟩, hb⟩
  have hu3 : RNew _ w3 (.slice (some ⟨g3, 0, none⟩) r.rgns.length r.rgns.length) r.rgns := ⟨g3, t3', rfl, hg3, hB3⟩
  clear hg3 hB3
  have S6 := hideP (S5.out.next hb)
  have U6 := hideP (U5.out.below hb)
  have V6 := hideP (V5.out.below hb)
  have B3 := hideP (show W1.heap.size ≤ (w2.setCell ⟨w.heap.size + 1 + 1, 4, none⟩ (.slice (some ⟨g2, 0, none⟩) r.pats.length r.pats.length)).heap.size from Nat.le_trans LE2.out (by rw [World.size_setCell]; exact Nat.le_refl _))
  have X6 := hideP (hu3.mono B3.out)
  clear hu3 hb b5 d4 t4
  have b6 := S6.out.box.cell 6 rfl
  have d0 := S6.out.out.cell 0 rfl
  have d1 := S6.out.out.cell 1 rfl
  have d2 := S6.out.out.cell 2 rfl
  have d3 := S6.out.out.cell 3 rfl
  have d4 := S6.out.out.cell 4 rfl
  have d5 := S6.out.out.cell 5 rfl
  have d6 := S6.out.out.cell 6 rfl
  have t5 := S6.out.out.thaw 5
  have t6 := S6.out.out.thaw 6
  have q0 := S6.out.res.cell 0 rfl
  have q1 := S6.out.res.cell 1 rfl
  have q2 := S6.out.res.cell 2 rfl
  have q3 := S6.out.res.cell 3 rfl
  have q4 := S6.out.res.cell 4 rfl
  have q5 := S6.out.res.cell 5 rfl
  have q6 := S6.out.res.cell 6 rfl
  have r0 := S6.out.res.thaw 0
  have r1 := S6.out.res.thaw 1
  have r2 := S6.out.res.thaw 2
  have r3 := S6.out.res.thaw 3
  have r4 := S6.out.res.thaw 4
  have r5 := S6.out.res.thaw 5
  have r6 := S6.out.res.thaw 6
  go_wp2_with fail
  have S7 := hideP ((S6.out.set 5 (.slice (some ⟨g3, 0, none⟩) r.rgns.length r.rgns.length)).set 6 (.int .i64 r.rule))
  have ltb : w.heap.size + 1 + 1 < W1.heap.size := by rw [HZ1.out]; omega
  have lta : w.heap.size + 1 < W1.heap.size := by rw [HZ1.out]; omega
  obtain ⟨W8, e8⟩ : ∃ W8, W8 = (w3.setCell ⟨w.heap.size + 1 + 1, 5, none⟩ (.slice (some ⟨g3, 0, none⟩) r.rgns.length r.rgns.length)).setCell ⟨w.heap.size + 1 + 1, 6, none⟩ (.int .i64 r.rule) := ⟨_, rfl⟩
  obtain ⟨W9, e9⟩ : ∃ W9, W9 = ((((((W8.setCell ⟨w.heap.size + 1, 0, none⟩ (.string r.name)).setCell ⟨w.heap.size + 1, 1, none⟩ (.int .i64 r.fr)).setCell ⟨w.heap.size + 1, 2, none⟩ (.int .i64 r.to)).setCell ⟨w.heap.size + 1, 3, none⟩ (.slice (some ⟨g1, 0, none⟩) r.segs.length r.segs.length)).setCell ⟨w.heap.size + 1, 4, none⟩ (.slice (some ⟨g2, 0, none⟩) r.pats.length r.pats.length)).setCell ⟨w.heap.size + 1, 5, none⟩ (.slice (some ⟨g3, 0, none⟩) r.rgns.length r.rgns.length)).setCell ⟨w.heap.size + 1, 6, none⟩ (.int .i64 r.rule) := ⟨_, rfl⟩
  rw [← e8, ← e9]
  have S8 := S7.out
  rw [← e8] at S8
  have Z9 : Blk W9 (w.heap.size + 1) #[.string r.name, .int .i64 r.fr, .int .i64 r.to, (.slice (some ⟨g1, 0, none⟩) r.segs.length r.segs.length), (.slice (some ⟨g2, 0, none⟩) r.pats.length r.pats.length), (.slice (some ⟨g3, 0, none⟩) r.rgns.length r.rgns.length), .int .i64 r.rule] 40 := by rw [e9]; exact ((((((S8.res.set 0 _).set 1 _).set 2 _).set 3 _).set 4 _).set 5 _).set 6 _
  have B9 : Below w.heap.size w W9 := by rw [e9]; exact below_store (below_store (below_store (below_store (below_store (below_store (below_store S8.below _ (by omega)) _ (by omega)) _ (by omega)) _ (by omega)) _ (by omega)) _ (by omega)) _ (by omega)
  have N1 : INew segK w W9 (.slice (some ⟨g1, 0, none⟩) r.segs.length r.segs.length) r.segs := by
    rw [e9, e8]
    exact ((((((((((U6.out.store _ ltb).store _ ltb).store _ lta).store _ lta).store _ lta).store _ lta).store _ lta).store _ lta).store _ lta)).mono (by rw [HZ1.out]; omega)
  have N2 : INew patK w W9 (.slice (some ⟨g2, 0, none⟩) r.pats.length r.pats.length) r.pats := by
    rw [e9, e8]
    exact ((((((((((V6.out.store _ ltb).store _ ltb).store _ lta).store _ lta).store _ lta).store _ lta).store _ lta).store _ lta).store _ lta)).mono (by rw [HZ1.out]; omega)
  have N3 : RNew w W9 (.slice (some ⟨g3, 0, none⟩) r.rgns.length r.rgns.length) r.rgns := by
    rw [e9, e8]
    exact ((((((((((X6.out.store _ ltb).store _ ltb).store _ lta).store _ lta).store _ lta).store _ lta).store _ lta).store _ lta).store _ lta)).mono (by rw [HZ1.out]; omega)
  clear e8 e9
  have z0 := Z9.cell 0 rfl
  have z1 := Z9.cell 1 rfl
  have z2 := Z9.cell 2 rfl
  have z3 := Z9.cell 3 rfl
  have z4 := Z9.cell 4 rfl
  have z5 := Z9.cell 5 rfl
  have z6 := Z9.cell 6 rfl
  exact bodyPost_ret (by simp [results, Tryz.results10, go_sem, z0, z1, z2, z3, z4, z5, z6]; try rfl) rfl ⟨_, rfl, ⟨(.slice (some ⟨g1, 0, none⟩) r.segs.length r.segs.length), (.slice (some ⟨g2, 0, none⟩) r.pats.length r.pats.length), (.slice (some ⟨g3, 0, none⟩) r.rgns.length r.rgns.length), rfl, N1, N2, N3⟩, B9⟩
set_option maxHeartbeats 1000000 in
theorem eqRegime (v1 v2 : Value) (r : Rgm) (w : World) (h1 : GRow w v1 r) (h2 : GRow w v2 r) : Calls Tryz.prog 13 #[v1, v2] w fun e w' => e = .returned (.bool true) ∧ Below w.heap.size w w' := by
  obtain ⟨p1, p2, p3, rfl, hn, x1, x2, x3⟩ := h1
  obtain ⟨q1, q2, q3, rfl, _, y1, y2, y3⟩ := h2
  have KX : ∀ W, Below w.heap.size w W → Calls Tryz.prog 44 #[p1, q1] W fun e w' => e = .returned (.bool true) ∧ Below W.heap.size W w' := fun W hb => eqSegmentS _ _ _ W (x1.below hb) (y1.below hb)
  have KY : ∀ W, Below w.heap.size w W → Calls Tryz.prog 45 #[p2, q2] W fun e w' => e = .returned (.bool true) ∧ Below W.heap.size W w' := fun W hb => eqPatchS _ _ _ W (x2.below hb) (y2.below hb)
  have KZ : ∀ W, Below w.heap.size w W → Calls Tryz.prog 46 #[p3, q3] W fun e w' => e = .returned (.bool true) ∧ Below W.heap.size W w' := fun W hb => eqReignS _ _ _ W (x3.below hb) (y3.below hb)
  obtain ⟨a11, c11, rfl, _⟩ := x1
  obtain ⟨a12, c12, rfl, _⟩ := x2
  obtain ⟨a13, c13, rfl, _⟩ := x3
  obtain ⟨a21, c21, rfl, _⟩ := y1
  obtain ⟨a22, c22, rfl, _⟩ := y2
  obtain ⟨a23, c23, rfl, _⟩ := y3
  have HKX := hideP KX
  have HKY := hideP KY
  have HKZ := hideP KZ
  obtain ⟨W0, hW0⟩ : ∃ W0, W0 = (w.alloc (.cells #[.string r.name, .int .i64 r.fr, .int .i64 r.to, .slice a11 r.segs.length c11, .slice a12 r.pats.length c12, .slice a13 r.rgns.length c13, .int .i64 r.rule] 40)).alloc (.cells #[.string r.name, .int .i64 r.fr, .int .i64 r.to, .slice a21 r.segs.length c21, .slice a22 r.pats.length c22, .slice a23 r.rgns.length c23, .int .i64 r.rule] 40) := ⟨_, rfl⟩
  have hX1 : Blk W0 w.heap.size #[.string r.name, .int .i64 r.fr, .int .i64 r.to, .slice a11 r.segs.length c11, .slice a12 r.pats.length c12, .slice a13 r.rgns.length c13, .int .i64 r.rule] 40 := by rw [hW0]; exact (Blk.new w _ _).alloc _
  have hX2 : Blk W0 (w.heap.size + 1) #[.string r.name, .int .i64 r.fr, .int .i64 r.to, .slice a21 r.segs.length c21, .slice a22 r.pats.length c22, .slice a23 r.rgns.length c23, .int .i64 r.rule] 40 := by rw [hW0]; have := Blk.new (w.alloc (.cells #[.string r.name, .int .i64 r.fr, .int .i64 r.to, .slice a11 r.segs.length c11, .slice a12 r.pats.length c12, .slice a13 r.rgns.length c13, .int .i64 r.rule] 40)) #[.string r.name, .int .i64 r.fr, .int .i64 r.to, .slice a21 r.segs.length c21, .slice a22 r.pats.length c22, .slice a23 r.rgns.length c23, .int .i64 r.rule] 40; rw [World.size_alloc] at this; exact this
  have hW : Below w.heap.size w W0 := by rw [hW0]; exact ((Below.refl _ _).alloc (Nat.le_refl _) _).alloc (by rw [World.size_alloc]; omega) _
  have hBl : ∀ x : Later W0, Below w.heap.size w x.w := fun x => hW.trans (x.below.mono hW.size)
  have HX1 := hideP hX1
  have HX2 := hideP hX2
  have HBl := hideP hBl
  have HW0 := hideP hW0
  clear hX1 hX2 hBl hW0 hW KX KY KZ hn
  have d0 : ∀ x : Later W0, x.w.cell? ⟨w.heap.size, 0, none⟩ = some (.string r.name) := fun x => (HX1.out.later x).cell 0 rfl
  have d1 : ∀ x : Later W0, x.w.cell? ⟨w.heap.size, 1, none⟩ = some (.int .i64 r.fr) := fun x => (HX1.out.later x).cell 1 rfl
  have d2 : ∀ x : Later W0, x.w.cell? ⟨w.heap.size, 2, none⟩ = some (.int .i64 r.to) := fun x => (HX1.out.later x).cell 2 rfl
  have d3 : ∀ x : Later W0, x.w.cell? ⟨w.heap.size, 3, none⟩ = some (.slice a11 r.segs.length c11) := fun x => (HX1.out.later x).cell 3 rfl
  have d4 : ∀ x : Later W0, x.w.cell? ⟨w.heap.size, 4, none⟩ = some (.slice a12 r.pats.length c12) := fun x => (HX1.out.later x).cell 4 rfl
  have d5 : ∀ x : Later W0, x.w.cell? ⟨w.heap.size, 5, none⟩ = some (.slice a13 r.rgns.length c13) := fun x => (HX1.out.later x).cell 5 rfl
  have d6 : ∀ x : Later W0, x.w.cell? ⟨w.heap.size, 6, none⟩ = some (.int .i64 r.rule) := fun x => (HX1.out.later x).cell 6 rfl
  have f0 : ∀ x : Later W0, x.w.cell? ⟨w.heap.size + 1, 0, none⟩ = some (.string r.name) := fun x => (HX2.out.later x).cell 0 rfl
  have f1 : ∀ x : Later W0, x.w.cell? ⟨w.heap.size + 1, 1, none⟩ = some (.int .i64 r.fr) := fun x => (HX2.out.later x).cell 1 rfl
  have f2 : ∀ x : Later W0, x.w.cell? ⟨w.heap.size + 1, 2, none⟩ = some (.int .i64 r.to) := fun x => (HX2.out.later x).cell 2 rfl
  have f3 : ∀ x : Later W0, x.w.cell? ⟨w.heap.size + 1, 3, none⟩ = some (.slice a21 r.segs.length c21) := fun x => (HX2.out.later x).cell 3 rfl
  have f4 : ∀ x : Later W0, x.w.cell? ⟨w.heap.size + 1, 4, none⟩ = some (.slice a22 r.pats.length c22) := fun x => (HX2.out.later x).cell 4 rfl
  have f5 : ∀ x : Later W0, x.w.cell? ⟨w.heap.size + 1, 5, none⟩ = some (.slice a23 r.rgns.length c23) := fun x => (HX2.out.later x).cell 5 rfl
  have f6 : ∀ x : Later W0, x.w.cell? ⟨w.heap.size + 1, 6, none⟩ = some (.int .i64 r.rule) := fun x => (HX2.out.later x).cell 6 rfl
  clear d0 d1 d2 d6 f0 f1 f2 f6
  have g6 : ∀ x : Later W0, x.w.cell? ⟨w.heap.size, 6, none⟩ = some (.int .i64 r.rule) := fun x => (HX1.out.later x).cell 6 rfl
  have k6 : ∀ x : Later W0, x.w.cell? ⟨w.heap.size + 1, 6, none⟩ = some (.int .i64 r.rule) := fun x => (HX2.out.later x).cell 6 rfl
  go_enter Tryz.func13, Tryz.ntmps13
  go_wp2_with fail
  rw [← HW0.out]
  refine (HKX.out _ (HBl.out ⟨W0, Below.refl _ _⟩)).mono ?_
  rintro e w1 ⟨rfl, hb⟩
  obtain ⟨x1, rfl⟩ := Later.of hb
  clear hb
  go_wp2_with fail
  refine (HKY.out _ (HBl.out x1)).mono ?_
  rintro e w2 ⟨rfl, hb⟩
  obtain ⟨x2, rfl⟩ := x1.next hb
  clear hb
  go_wp2_with fail
  refine (HKZ.out _ (HBl.out x2)).mono ?_
  rintro e w3 ⟨rfl, hb⟩
  obtain ⟨x3, rfl⟩ := x2.next hb
  clear hb
  go_wp2_with fail
  go_ret
  exact ⟨rfl, HBl.out x3⟩
end Go.Proofs.YtdgolaaheakfoaaGreatDoor.ctr
namespace Go.Proofs.YtdgolaaheakfoaaGreatDoor.ctr
open Go.RowKit
def calT (c : Int) : TypeId := if c = 0 then 164 else 165
theorem implCal (c : Int) (h : c = 0 ∨ c = 1) (w : World) : Calls Tryz.prog 84 #[.int .i64 c] w fun e w' => e = .returned (.iface (calT c) (.agg #[])) ∧ w' = w := by
  rcases h with rfl | rfl
  · exact implCal0 w
  · exact implCal1 w
abbrev Tab (w : World) : Prop := Lib.TabIs Tryz.prog w "loop.example/g00638/impl.monthLengths" .i64 tab12
theorem tabCell {w : World} (h : Tab w) (i : Nat) (hi : i < 12) : w.cell? ⟨1, i, none⟩ = some (.int .i64 (tab12.getD i 0)) :=
  h.cell (by kernel_rfl) i hi
theorem Tab.later {w w1 : World} (h : Tab w) (hb : Below w.heap.size w w1) : Tab w1 := kit.tab_below h hb (g := 1) (by kernel_rfl)
set_option maxHeartbeats 2000000 in
theorem implMonthDays (c y m : Int) (w : World) (hT : Tab w) : Calls Tryz.prog 130 #[.int .i64 c, .int .i64 y, .int .i64 m] w fun e w' => e = .returned (.int .i64 (monthDays c y m)) ∧ Below w.heap.size w w' := by
  by_cases hc : c = 0 ∨ c = 1
  · have KC := fun W => implCal c hc W
    by_cases h1 : m < 1
    · rw [monthDays_no (by omega)]
      clear hT hc
      go_enter Tryz.func130, Tryz.ntmps130
      go_wp2_with (go_at_call 84; refine (KC _).mono ?_; rintro e w1 ⟨rfl, rfl⟩)
      go_ret
      exact ⟨rfl, Below.refl _ _⟩
    by_cases h2 : 12 < m
    · rw [monthDays_no (by omega)]
      clear hT hc
      go_enter Tryz.func130, Tryz.ntmps130
      go_wp2_with (go_at_call 84; refine (KC _).mono ?_; rintro e w1 ⟨rfl, rfl⟩)
      go_ret
      exact ⟨rfl, Below.refl _ _⟩
    by_cases hm : m = 2
    · subst hm
      have hL : ∀ W, Calls Tryz.prog 156 #[.int .i64 c, .int .i64 y] W fun e w' => e = .returned (.bool (leapB c y)) ∧ Below W.heap.size W w' := implLeap c y
      have c1 : ∀ x : Later w, x.w.cell? ⟨1, 1, none⟩ = some (.int .i64 28) := Later.at (tabCell hT 1 (by omega))
      by_cases hl : leapP c y
      · rw [leapB_true hl] at hL
        rw [monthDays_leap hc hl]
        clear hT hc hl
        go_enter Tryz.func130, Tryz.ntmps130
        go_wp2_with (first | (go_at_call 84; refine (KC _).mono ?_; rintro e w1 ⟨rfl, rfl⟩) | (go_at_call 156; refine (hL _).mono ?_; rintro e w2 ⟨rfl, hb⟩; obtain ⟨x, rfl⟩ := Later.of hb))
        go_ret
        exact ⟨rfl, x.below⟩
      · rw [leapB_false hl] at hL
        rw [monthDays_plain hc (by omega) (by omega) (fun h => hl h.2)]
        clear hT hc hl
        go_enter Tryz.func130, Tryz.ntmps130
        go_wp2_with (first | (go_at_call 84; refine (KC _).mono ?_; rintro e w1 ⟨rfl, rfl⟩) | (go_at_call 156; refine (hL _).mono ?_; rintro e w2 ⟨rfl, hb⟩; obtain ⟨x, rfl⟩ := Later.of hb))
        go_ret
        exact ⟨rfl, x.below⟩
    rw [monthDays_plain hc (by omega) (by omega) (fun h => hm h.1)]
    clear hc
    rcases month_cases (m := m) (by omega) (by omega) with rfl | rfl | rfl | rfl | rfl | rfl | rfl | rfl | rfl | rfl | rfl | rfl
    · have c1 := tabCell hT 0 (by omega)
      clear hT h1 h2 hm
      go_enter Tryz.func130, Tryz.ntmps130
      go_wp2_with (go_at_call 84; refine (KC _).mono ?_; rintro e w1 ⟨rfl, rfl⟩)
      go_ret
      exact ⟨rfl, Below.refl _ _⟩
    · exact absurd rfl hm
    · have c1 := tabCell hT 2 (by omega)
      clear hT h1 h2 hm
      go_enter Tryz.func130, Tryz.ntmps130
      go_wp2_with (go_at_call 84; refine (KC _).mono ?_; rintro e w1 ⟨rfl, rfl⟩)
      go_ret
      exact ⟨rfl, Below.refl _ _⟩
    · have c1 := tabCell hT 3 (by omega)
      clear hT h1 h2 hm
      go_enter Tryz.func130, Tryz.ntmps130
      go_wp2_with (go_at_call 84; refine (KC _).mono ?_; rintro e w1 ⟨rfl, rfl⟩)
      go_ret
      exact ⟨rfl, Below.refl _ _⟩
    · have c1 := tabCell hT 4 (by omega)
      clear hT h1 h2 hm
      go_enter Tryz.func130, Tryz.ntmps130
      go_wp2_with (go_at_call 84; refine (KC _).mono ?_; rintro e w1 ⟨rfl, rfl⟩)
      go_ret
      exact ⟨rfl, Below.refl _ _⟩
    · have c1 := tabCell hT 5 (by omega)
      clear hT h1 h2 hm
      go_enter Tryz.func130, Tryz.ntmps130
      go_wp2_with (go_at_call 84; refine (KC _).mono ?_; rintro e w1 ⟨rfl, rfl⟩)
      go_ret
      exact ⟨rfl, Below.refl _ _⟩
    · have c1 := tabCell hT 6 (by omega)
      clear hT h1 h2 hm
      go_enter Tryz.func130, Tryz.ntmps130
      go_wp2_with (go_at_call 84; refine (KC _).mono ?_; rintro e w1 ⟨rfl, rfl⟩)
      go_ret
      exact ⟨rfl, Below.refl _ _⟩
    · have c1 := tabCell hT 7 (by omega)
      clear hT h1 h2 hm
      go_enter Tryz.func130, Tryz.ntmps130
      go_wp2_with (go_at_call 84; refine (KC _).mono ?_; rintro e w1 ⟨rfl, rfl⟩)
      go_ret
      exact ⟨rfl, Below.refl _ _⟩
    · have c1 := tabCell hT 8 (by omega)
      clear hT h1 h2 hm
      go_enter Tryz.func130, Tryz.ntmps130
      go_wp2_with (go_at_call 84; refine (KC _).mono ?_; rintro e w1 ⟨rfl, rfl⟩)
      go_ret
      exact ⟨rfl, Below.refl _ _⟩
    · have c1 := tabCell hT 9 (by omega)
      clear hT h1 h2 hm
      go_enter Tryz.func130, Tryz.ntmps130
      go_wp2_with (go_at_call 84; refine (KC _).mono ?_; rintro e w1 ⟨rfl, rfl⟩)
      go_ret
      exact ⟨rfl, Below.refl _ _⟩
    · have c1 := tabCell hT 10 (by omega)
      clear hT h1 h2 hm
      go_enter Tryz.func130, Tryz.ntmps130
      go_wp2_with (go_at_call 84; refine (KC _).mono ?_; rintro e w1 ⟨rfl, rfl⟩)
      go_ret
      exact ⟨rfl, Below.refl _ _⟩
    · have c1 := tabCell hT 11 (by omega)
      clear hT h1 h2 hm
      go_enter Tryz.func130, Tryz.ntmps130
      go_wp2_with (go_at_call 84; refine (KC _).mono ?_; rintro e w1 ⟨rfl, rfl⟩)
      go_ret
      exact ⟨rfl, Below.refl _ _⟩
  rw [monthDays_no (fun h => hc h.1)]
  clear hT
  go_enter Tryz.func130, Tryz.ntmps130
  go_wp2_with (go_at_call 84; refine (implCalNo c (by omega) (by omega) _).mono ?_; rintro e w1 ⟨rfl, rfl⟩)
  go_ret
  exact ⟨rfl, Below.refl _ _⟩
end Go.Proofs.YtdgolaaheakfoaaGreatDoor.ctr
namespace Go.Proofs.YtdgolaaheakfoaaGreatDoor.ctr
open Go.RowKit
set_option maxHeartbeats 2000000 in
theorem specMonthDays (c y m : Int) (w : World) : Calls Tryz.prog 103 #[.int .i64 c, .int .i64 y, .int .i64 m] w fun e w' => e = .returned (.int .i64 (monthDays c y m)) ∧ Below w.heap.size w w' := by
  by_cases hc : c = 0 ∨ c = 1
  · have hC : calB c = true := calB_iff.2 hc
    by_cases hm : 1 ≤ m ∧ m ≤ 12
    · have hI : inB m 1 12 = true := inB_true hm.1 hm.2
      by_cases h2 : m = 2
      · subst h2
        by_cases hl : leapP c y
        · rw [monthDays_leap hc hl]
          have hL := leapB_true hl
          clear hl hc hm
          go_enter Tryz.func103, Tryz.ntmps103
          go_wp2_with fail
          refine (specCal _ _).mono ?_
          rintro e w1 ⟨rfl, rfl⟩
          rw [hC]
          go_wp2_with fail
          refine (l01In _ _ _ _).mono ?_
          rintro e w1 ⟨rfl, rfl⟩
          rw [hI]
          go_wp2_with fail
          refine (specLeap _ _ _).mono ?_
          rintro e w1 ⟨rfl, rfl⟩
          rw [hL]
          go_wp2
          go_ret
          exact ⟨rfl, Below.refl _ _⟩
        · have hL := leapB_false hl
          rw [monthDays_plain hc hm.1 hm.2 (fun h => hl h.2)]
          clear hl hc hm
          go_enter Tryz.func103, Tryz.ntmps103
          go_wp2_with fail
          refine (specCal _ _).mono ?_
          rintro e w1 ⟨rfl, rfl⟩
          rw [hC]
          go_wp2_with fail
          refine (l01In _ _ _ _).mono ?_
          rintro e w1 ⟨rfl, rfl⟩
          rw [hI]
          go_wp2_with fail
          refine (specLeap _ _ _).mono ?_
          rintro e w1 ⟨rfl, rfl⟩
          rw [hL]
          go_wp2
          go_ret
          exact ⟨rfl, (Below.refl _ _).alloc (Nat.le_refl _) _⟩
      · rw [monthDays_plain hc hm.1 hm.2 (fun h => h2 h.1)]
        have hm1 := hm.1
        have hm2 := hm.2
        clear hm hc
        rcases month_cases hm1 hm2 with rfl | rfl | rfl | rfl | rfl | rfl | rfl | rfl | rfl | rfl | rfl | rfl
        all_goals first
          | exact absurd rfl h2
          | (clear hm1 hm2 h2
             go_enter Tryz.func103, Tryz.ntmps103
             go_wp2_with fail
             refine (specCal _ _).mono ?_
             rintro e w1 ⟨rfl, rfl⟩
             rw [hC]
             go_wp2_with fail
             refine (l01In _ _ _ _).mono ?_
             rintro e w1 ⟨rfl, rfl⟩
             rw [hI]
             go_wp2
             go_ret
             exact ⟨rfl, (Below.refl _ _).alloc (Nat.le_refl _) _⟩)
    · have hI : inB m 1 12 = false := inB_false (by omega)
      rw [monthDays_no (fun h => hm h.2)]
      go_enter Tryz.func103, Tryz.ntmps103
      go_wp2_with fail
      refine (specCal _ _).mono ?_
      rintro e w1 ⟨rfl, rfl⟩
      rw [hC]
      go_wp2_with fail
      refine (l01In _ _ _ _).mono ?_
      rintro e w1 ⟨rfl, rfl⟩
      rw [hI]
      go_wp2
      go_ret
      exact ⟨rfl, Below.refl _ _⟩
  · have hC : calB c = false := calB_no hc
    rw [monthDays_no (fun h => hc h.1)]
    go_enter Tryz.func103, Tryz.ntmps103
    go_wp2_with fail
    refine (specCal _ _).mono ?_
    rintro e w1 ⟨rfl, rfl⟩
    rw [hC]
    go_wp2
    go_ret
    exact ⟨rfl, Below.refl _ _⟩
end Go.Proofs.YtdgolaaheakfoaaGreatDoor.ctr
