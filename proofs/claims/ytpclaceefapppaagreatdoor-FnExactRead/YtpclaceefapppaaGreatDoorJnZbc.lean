/- Contracts of the laws' own helpers over regimes: how long all is (szRegime), copies (toRegime), two alike are ; and what else the law reaches. -/
import Derived.Test.YtpclaceefapppaaGreatDoorJnZad
import Derived.Test.YtpclaceefapppaaGreatDoorRgmOpenZ
import Derived.Test.YtpclaceefapppaaGreatDoorJnZas
import Derived.Test.YtpclaceefapppaaGreatDoorJnZak
import Derived.Test.YtpclaceefapppaaGreatDoorJnZar
import Derived.Test.YtpclaceefapppaaGreatDoorJnZay
import Derived.Deep.LoopGhost
set_option maxRecDepth 100000
set_option maxHeartbeats 4000000
namespace Go.Proofs.YtpclaceefapppaaGreatDoor.ctr
open Go.RowKit
theorem szReignSL (a : Option Addr) (len cap : Nat) (l : List Rgn) (left : Int) (w : World) (h : RIn w a len cap l) (z1 : 0 ≤ left) (z2 : left ≤ 1048576) : Calls Tryz.prog 27 #[.slice a len cap, .int .i64 left] w fun e w' => ∃ z : Int, e = .returned (.int .i64 z) ∧ (z = -1 ∨ (0 ≤ z ∧ z ≤ 1048576 ∧ SizeOk l)) ∧ Below w.heap.size w w' := by
 have hcap := h.2.2.1
 have hlc := h.2.1
 have hn := hideP h.2.2.2.1
 have hL := hideP h.1
 have H := hideP h
 unfold maxLen at hcap
 clear h
 by_cases hbig : left < len
 · go_enter Tryz.func27, Tryz.ntmps27
   go_wp2
   go_ret
   exact ⟨_, rfl, .inl rfl, Below.refl _ _⟩
 go_enter Tryz.func27, Tryz.ntmps27
 go_wp2
 go_loopw [1, 5] (fun z i wr => ∃ (k : Nat) (q : Int), k ≤ len ∧ i = .int .i64 (k : Int) ∧ z = .int .i64 q ∧ 0 ≤ q ∧ q ≤ 1048576 ∧ Hid (∀ j, j < k → (rgA l j).name.size ≤ 1048576) ∧ Below w.heap.size w wr) (fun _ i _ => len - (intOf i).toNat)
 case atStart => exact ⟨0, left - (len : Int), Nat.zero_le _, rfl, by go_num, by omega, by omega, fun j hj => by omega, Below.refl _ _⟩
 case round =>
  obtain ⟨k, q, hk, rfl, rfl, q1, q2, HS, hB⟩ := hrel
  have HB := hideP hB
  clear hB
  by_cases hlt : k < len
  · obtain ⟨x, rfl, hx⟩ := H.out.at hlt
    obtain ⟨c0, c1, c2⟩ := hx ⟨wr, HB.out⟩
    have hnk := hn.out k hlt
    dsimp only at c0 c1 c2
    have HN := hideP (show szR (rgA l k).name.size q = -1 ∨ (0 ≤ szR (rgA l k).name.size q ∧ szR (rgA l k).name.size q ≤ 1048576 ∧ (rgA l k).name.size ≤ 1048576) by unfold szR; split <;> omega)
    have HK : Hid (∀ W, CR 50 #[.agg #[.string (rgA l k).name, .int .i64 (rgA l k).fr, .int .i64 (rgA l k).to], .int .i64 q] W (.int .i64 (szR (rgA l k).name.size q))) := fun W => szReign _ _ _ _ W hnk q1 q2
    have HJ : Hid ((rgA l k).name.size ≤ 1048576 → ∀ j, j < k + 1 → (rgA l j).name.size ≤ 1048576) := fun g j hj => by
     by_cases e : j = k
     · subst e; exact g
     · exact HS.out j (by omega)
    clear hx hnk
    generalize szR (rgA l k).name.size q = z at *
    generalize rgA l k = r at *
    go_wp2_with fail
    refine (HK.out _).mono ?_
    rintro e w1 ⟨rfl, hb⟩
    have HB1 : Hid (Below w.heap.size w w1) := HB.out.trans (hb.mono HB.out.size)
    clear hb c0 c1 c2
    rcases HN.out with rfl | ⟨z1, z2, z3⟩
    · go_wp2
      go_ret
      exact ⟨_, rfl, .inl rfl, HB1.out⟩
    · go_wp2
      exact ⟨⟨k + 1, z, by omega, by go_num, rfl, z1, z2, HJ.out z3, HB1.out⟩, by simp [intOf]; omega⟩
  · go_wp2
    go_ret
    exact ⟨_, rfl, .inr ⟨q1, q2, by rw [hL.out]; omega, by rw [hL.out]; exact fun j hj => HS.out j (by omega)⟩, HB.out⟩
theorem seven_box (w : World) (v0 v1 v2 v3 v4 v5 v6 : Value) (t : TypeId) : ∃ W0, W0 = w.alloc (.cells #[v0, v1, v2, v3, v4, v5, v6] t) ∧ (∀ x : Later W0, x.w.cell? ⟨w.heap.size, 0, none⟩ = some v0) ∧ (∀ x : Later W0, x.w.cell? ⟨w.heap.size, 1, none⟩ = some v1) ∧ (∀ x : Later W0, x.w.cell? ⟨w.heap.size, 2, none⟩ = some v2) ∧ (∀ x : Later W0, x.w.cell? ⟨w.heap.size, 3, none⟩ = some v3) ∧ (∀ x : Later W0, x.w.cell? ⟨w.heap.size, 4, none⟩ = some v4) ∧ (∀ x : Later W0, x.w.cell? ⟨w.heap.size, 5, none⟩ = some v5) ∧ (∀ x : Later W0, x.w.cell? ⟨w.heap.size, 6, none⟩ = some v6) ∧ ∀ x : Later W0, Below w.heap.size w x.w :=
 ⟨_, rfl, Later.new rfl 0 rfl, Later.new rfl 1 rfl, Later.new rfl 2 rfl, Later.new rfl 3 rfl, Later.new rfl 4 rfl, Later.new rfl 5 rfl, Later.new rfl 6 rfl, fun x => below_alloc x.below⟩
theorem szRegime (v : Value) (r : Rgm) (left : Int) (w : World) (h : GIn w v r) (z1 : 0 ≤ left) (z2 : left ≤ 1048576) : Calls Tryz.prog 7 #[v, .int .i64 left] w fun e w' => ∃ z : Int, e = .returned (.int .i64 z) ∧ (z = -1 ∨ (0 ≤ z ∧ z ≤ 1048576 ∧ GOk r)) ∧ Below w.heap.size w w' := by
 obtain ⟨a1, n1, c1, a2, n2, c2, a3, n3, c3, rfl, hn, h1, h2, h3⟩ := h
 obtain ⟨W0, hW0, d0, d1, d2, d3, d4, d5, d6, hBl⟩ := seven_box w (.string r.name) (.int .i64 r.fr) (.int .i64 r.to) (.slice a1 n1 c1) (.slice a2 n2 c2) (.slice a3 n3 c3) (.int .i64 r.rule) 26
 have HW0 := hideP hW0
 have HBl := hideP hBl
 have l1 := h1.1
 have l2 := h2.1
 have K1 : ∀ z W, 0 ≤ z → z ≤ 1048576 → CR 25 #[.slice a1 n1 c1, .int .i64 z] W (.int .i64 (if z < n1 then -1 else z - n1)) := fun z W g1 g2 => (szSegmentS _ _ _ _ W h1.2.1 h1.2.2.1 g1 g2).mono fun _ _ h => ⟨h.1, same_bel h.2⟩
 have K2 : ∀ z W, 0 ≤ z → z ≤ 1048576 → CR 26 #[.slice a2 n2 c2, .int .i64 z] W (.int .i64 (if z < n2 then -1 else z - n2)) := fun z W g1 g2 => (szPatchS _ _ _ _ W h2.2.1 h2.2.2.1 g1 g2).mono fun _ _ h => ⟨h.1, same_bel h.2⟩
 have K3 : Hid (∀ z (x : Later W0), 0 ≤ z → z ≤ 1048576 → Calls Tryz.prog 27 #[.slice a3 n3 c3, .int .i64 z] x.w fun e w' => ∃ y : Int, e = .returned (.int .i64 y) ∧ (y = -1 ∨ (0 ≤ y ∧ y ≤ 1048576 ∧ SizeOk r.rgns)) ∧ Below x.w.heap.size x.w w') := fun z x g1 g2 => szReignSL _ _ _ _ z _ (h3.below (hBl x)) g1 g2
 clear hW0 hBl h1 h2 h3
 unfold maxLen at hn
 by_cases g0 : left < r.name.size
 · go_enter Tryz.func7, Tryz.ntmps7
   go_wp2_with fail
   go_ret
   exact ⟨_, rfl, .inl rfl, (Below.refl _ _).alloc (Nat.le_refl _) _⟩
 obtain ⟨q0, hq0⟩ : ∃ q : Int, q = left - r.name.size := ⟨_, rfl⟩
 have e0 : wrap64 (left - (r.name.size : Int)) = q0 := by unfold wrap64; omega
 have p0 : 0 ≤ q0 := by omega
 have p1 : q0 ≤ 1048576 := by omega
 have hnm : r.name.size ≤ 1048576 := by omega
 go_enter Tryz.func7, Tryz.ntmps7
 go_wp2_with fail
 try rw [show left - (r.name.size : Int) = q0 from hq0.symm]
 rw [← HW0.out]
 refine latO (K1 q0 _ p0 p1) fun x1 => ?_
 by_cases g1 : q0 < n1
 · rw [if_pos g1]
   go_wp2_with fail
   go_ret
   exact ⟨_, rfl, .inl rfl, HBl.out x1⟩
 rw [if_neg g1]
 obtain ⟨q1, hq1⟩ : ∃ q : Int, q = q0 - n1 := ⟨_, rfl⟩
 rw [← hq1]
 have p2 : 0 ≤ q1 := by omega
 have p3 : q1 ≤ 1048576 := by omega
 have hs1 : r.segs.length ≤ 1048576 := by omega
 clear hq1 g1 l1
 go_wp2_with fail
 refine lat (K2 q1 _ p2 p3) fun x2 => ?_
 by_cases g2 : q1 < n2
 · rw [if_pos g2]
   go_wp2_with fail
   go_ret
   exact ⟨_, rfl, .inl rfl, HBl.out x2⟩
 rw [if_neg g2]
 obtain ⟨q2, hq2⟩ : ∃ q : Int, q = q1 - n2 := ⟨_, rfl⟩
 rw [← hq2]
 have p4 : 0 ≤ q2 := by omega
 have p5 : q2 ≤ 1048576 := by omega
 have hs2 : r.pats.length ≤ 1048576 := by omega
 clear hq2 g2 l2
 go_wp2_with fail
 refine (K3.out q2 _ p4 p5).mono ?_
 rintro e w3 ⟨y, rfl, hy, hb⟩
 obtain ⟨x3, rfl⟩ := x2.next hb
 have HY := hideP hy
 clear hb hy
 rcases HY.out with rfl | ⟨y1, y2, y3⟩
 · go_wp2_with fail
   go_ret
   exact ⟨_, rfl, .inl rfl, HBl.out x3⟩
 · go_wp2_with fail
   go_ret
   exact ⟨_, rfl, .inr ⟨y1, y2, hnm, hs1, hs2, y3⟩, HBl.out x3⟩
def gmZero : Array Value := #[.string ⟨#[]⟩, .int .i64 0, .int .i64 0, .slice none 0 0, .slice none 0 0, .slice none 0 0, .int .i64 0]
structure TR (w : World) (bx : Array Value) (t : TypeId) (W : World) (vs : Array Value) : Prop where
 box : Blk W w.heap.size bx t
 res : Blk W (w.heap.size + 1) gmZero 35
 out : Blk W (w.heap.size + 1 + 1) vs 35
 below : Below w.heap.size w W
theorem TR.set {w : World} {bx : Array Value} {t : TypeId} {W : World} {vs : Array Value} (h : TR w bx t W vs) (j : Nat) (v : Value) : TR w bx t (W.setCell ⟨w.heap.size + 1 + 1, j, none⟩ v) (vs.setIfInBounds j v) :=
 ⟨h.box.other (by omega), h.res.other (by omega), h.out.set j v, below_store h.below v (by omega)⟩
theorem TR.next {w : World} {bx : Array Value} {t : TypeId} {W W' : World} {vs : Array Value} (h : TR w bx t W vs) (hb : Below W.heap.size W W') : TR w bx t W' vs :=
 ⟨h.box.below hb h.box.lt, h.res.below hb h.res.lt, h.out.below hb h.out.lt, h.below.trans (hb.mono h.below.size)⟩
theorem TR.start (w : World) (bx : Array Value) (t : TypeId) (vs : Array Value) : TR w bx t (((w.alloc (.cells bx t)).alloc (.cells gmZero 35)).alloc (.cells vs 35)) vs :=
 ⟨((Blk.new w bx t).alloc _).alloc _, by have := (Blk.new (w.alloc (.cells bx t)) gmZero 35).alloc (.cells vs 35); rw [World.size_alloc] at this; exact this,
  by have := Blk.new ((w.alloc (.cells bx t)).alloc (.cells gmZero 35)) vs 35; rw [World.size_alloc, World.size_alloc] at this; exact this,
  (((Below.refl w.heap.size w).alloc (Nat.le_refl _) _).alloc (by rw [World.size_alloc]; omega) _).alloc (by rw [World.size_alloc, World.size_alloc]; omega) _⟩
theorem INew.store {α : Type} {K : IK α} {w w' : World} {v : Value} {l : List α} (h : INew K w w' v l) {b i : Nat} (x : Value) (hb : b < w.heap.size) : INew K w (w'.setCell ⟨b, i, none⟩ x) v l := by
 obtain ⟨g, t, e1, e2, e3⟩ := h
 exact ⟨g, t, e1, e2, e3.other (by omega)⟩
theorem INew.mono {α : Type} {K : IK α} {w w0 w' : World} {v : Value} {l : List α} (h : INew K w w' v l) (hb : w0.heap.size ≤ w.heap.size) : INew K w0 w' v l := by
 obtain ⟨g, t, e1, e2, e3⟩ := h
 exact ⟨g, t, e1, Nat.le_trans hb e2, e3⟩
theorem RNew.store {w w' : World} {v : Value} {l : List Rgn} (h : RNew w w' v l) {b i : Nat} (x : Value) (hb : b < w.heap.size) : RNew w (w'.setCell ⟨b, i, none⟩ x) v l := by
 obtain ⟨g, t, e1, e2, e3⟩ := h
 exact ⟨g, t, e1, e2, e3.other (by omega)⟩
theorem RNew.mono {w w0 w' : World} {v : Value} {l : List Rgn} (h : RNew w w' v l) (hb : w0.heap.size ≤ w.heap.size) : RNew w0 w' v l := by
 obtain ⟨g, t, e1, e2, e3⟩ := h
 exact ⟨g, t, e1, Nat.le_trans hb e2, e3⟩
theorem toRegime (v : Value) (r : Rgm) (w : World) (h : GIn w v r) (ho : GOk r) : Calls Tryz.prog 9 #[v] w fun e w' => ∃ o, e = .returned o ∧ GNew w w' o r ∧ Below w.heap.size w w' := by
 obtain ⟨a1, n1, c1, a2, n2, c2, a3, n3, c3, rfl, hn, h1, h2, h3⟩ := h
 obtain ⟨o1, o2, o3, o4⟩ := ho
 obtain ⟨W1, hW1⟩ : ∃ W1, W1 = (((w.alloc (.cells #[.string r.name, .int .i64 r.fr, .int .i64 r.to, .slice a1 n1 c1, .slice a2 n2 c2, .slice a3 n3 c3, .int .i64 r.rule] 26)).alloc (.cells gmZero 35)).alloc (.cells #[.string r.name, .int .i64 r.fr, .int .i64 r.to, .slice none 0 0, .slice none 0 0, .slice none 0 0, .int .i64 0] 35)) := ⟨_, rfl⟩
 have S1 := TR.start w #[.string r.name, .int .i64 r.fr, .int .i64 r.to, .slice a1 n1 c1, .slice a2 n2 c2, .slice a3 n3 c3, .int .i64 r.rule] 26 #[.string r.name, .int .i64 r.fr, .int .i64 r.to, .slice none 0 0, .slice none 0 0, .slice none 0 0, .int .i64 0]
 rw [← hW1] at S1
 have z1 : W1.heap.size = w.heap.size + 1 + 1 + 1 := by rw [hW1, World.size_alloc, World.size_alloc, World.size_alloc]
 have HS1 := hideP S1
 have HW1 := hideP hW1
 have HZ1 := hideP z1
 have K1 : Hid (∀ W, Below w.heap.size w W → Calls Tryz.prog 31 #[.slice a1 n1 c1] W fun e w' => ∃ v, e = .returned v ∧ INew segK W w' v r.segs ∧ Below W.heap.size W w') := fun W hb => toSegmentS _ _ _ _ W (h1.below hb) o2
 have K2 : Hid (∀ W, Below w.heap.size w W → Calls Tryz.prog 32 #[.slice a2 n2 c2] W fun e w' => ∃ v, e = .returned v ∧ INew patK W w' v r.pats ∧ Below W.heap.size W w') := fun W hb => toPatchS _ _ _ _ W (h2.below hb) o3
 have K3 : Hid (∀ W, Below w.heap.size w W → Calls Tryz.prog 33 #[.slice a3 n3 c3] W fun e w' => ∃ v, e = .returned v ∧ RNew W w' v r.rgns ∧ Below W.heap.size W w') := fun W hb => toReignS _ _ _ _ W (h3.below hb) o4
 clear h1 h2 h3 S1 hW1 z1 o1 o2 o3 o4 hn
 go_enter Tryz.func9, Tryz.ntmps9
 go_wp2_with fail
 rw [show ((w.alloc (.cells #[.string r.name, .int .i64 r.fr, .int .i64 r.to, .slice a1 n1 c1, .slice a2 n2 c2, .slice a3 n3 c3, .int .i64 r.rule] 26)).alloc (.cells #[.string ⟨#[]⟩, .int .i64 0, .int .i64 0, .slice none 0 0, .slice none 0 0, .slice none 0 0, .int .i64 0] 35)).alloc (.cells #[.string r.name, .int .i64 r.fr, .int .i64 r.to, .slice none 0 0, .slice none 0 0, .slice none 0 0, .int .i64 0] 35) = W1 from HW1.out.symm]
 refine (K1.out _ HS1.out.below).mono ?_
 rintro e w1 ⟨u1, rfl, ⟨g1, t1', rfl, hg1, hB1⟩, hb⟩
 have hu1 : INew segK _ w1 (.slice (some ⟨g1, 0, none⟩) r.segs.length r.segs.length) r.segs := ⟨g1, t1', rfl, hg1, hB1⟩
 clear hg1 hB1
 have S2 := hideP (HS1.out.next hb)
 have U1 := hideP hu1
 have LE1 : Hid (W1.heap.size ≤ w1.heap.size) := hb.size
 clear hu1 hb
 have b4 := S2.out.box.cell 4 rfl
 have d3 := S2.out.out.cell 3 rfl
 have t3 := S2.out.out.thaw 3
 go_wp2_with fail
 have S3 := hideP (S2.out.set 3 (.slice (some ⟨g1, 0, none⟩) r.segs.length r.segs.length))
 have U3 := hideP (U1.out.store (i := 3) (.slice (some ⟨g1, 0, none⟩) r.segs.length r.segs.length) (show w.heap.size + 1 + 1 < W1.heap.size by rw [HZ1.out]; omega))
 refine (K2.out _ S3.out.below).mono ?_
 rintro e w2 ⟨u2, rfl, ⟨g2, t2', rfl, hg2, hB2⟩, hb⟩
 have hu2 : INew patK _ w2 (.slice (some ⟨g2, 0, none⟩) r.pats.length r.pats.length) r.pats := ⟨g2, t2', rfl, hg2, hB2⟩
 clear hg2 hB2
 have S4 := hideP (S3.out.next hb)
 have U4 := hideP (U3.out.below hb)
 have B2 := hideP (show W1.heap.size ≤ (w1.setCell ⟨w.heap.size + 1 + 1, 3, none⟩ (.slice (some ⟨g1, 0, none⟩) r.segs.length r.segs.length)).heap.size from Nat.le_trans LE1.out (by rw [World.size_setCell]; exact Nat.le_refl _))
 have V4 := hideP (hu2.mono B2.out)
 have LE2 : Hid (W1.heap.size ≤ w2.heap.size) := Nat.le_trans B2.out hb.size
 clear hu2 hb
 have b5 := S4.out.box.cell 5 rfl
 have d4 := S4.out.out.cell 4 rfl
 have t4 := S4.out.out.thaw 4
 clear b4 d3 t3
 go_wp2_with fail
 have S5 := hideP (S4.out.set 4 (.slice (some ⟨g2, 0, none⟩) r.pats.length r.pats.length))
 have U5 := hideP (U4.out.store (i := 4) (.slice (some ⟨g2, 0, none⟩) r.pats.length r.pats.length) (show w.heap.size + 1 + 1 < W1.heap.size by rw [HZ1.out]; omega))
 have V5 := hideP (V4.out.store (i := 4) (.slice (some ⟨g2, 0, none⟩) r.pats.length r.pats.length) (show w.heap.size + 1 + 1 < W1.heap.size by rw [HZ1.out]; omega))
 refine (K3.out _ S5.out.below).mono ?_
 rintro e w3 ⟨u3, rfl, ⟨g3, t3', rfl, hg3, hB3⟩, hb⟩
 have hu3 : RNew _ w3 (.slice (some ⟨g3, 0, none⟩) r.rgns.length r.rgns.length) r.rgns := ⟨g3, t3', rfl, hg3, hB3⟩
 clear hg3 hB3
 have S6 := hideP (S5.out.next hb)
 have U6 := hideP (U5.out.below hb)
 have V6 := hideP (V5.out.below hb)
 have B3 := hideP (show W1.heap.size ≤ (w2.setCell ⟨w.heap.size + 1 + 1, 4, none⟩ (.slice (some ⟨g2, 0, none⟩) r.pats.length r.pats.length)).heap.size from Nat.le_trans LE2.out (by rw [World.size_setCell]; exact Nat.le_refl _))
 have X6 := hideP (hu3.mono B3.out)
 clear hu3 hb b5 d4 t4
 have b6 := S6.out.box.cell 6 rfl
 have d0 := S6.out.out.cell 0 rfl
 have d1 := S6.out.out.cell 1 rfl
 have d2 := S6.out.out.cell 2 rfl
 have d3 := S6.out.out.cell 3 rfl
 have d4 := S6.out.out.cell 4 rfl
 have d5 := S6.out.out.cell 5 rfl
 have d6 := S6.out.out.cell 6 rfl
 have t5 := S6.out.out.thaw 5
 have t6 := S6.out.out.thaw 6
 have q0 := S6.out.res.cell 0 rfl
 have q1 := S6.out.res.cell 1 rfl
 have q2 := S6.out.res.cell 2 rfl
 have q3 := S6.out.res.cell 3 rfl
 have q4 := S6.out.res.cell 4 rfl
 have q5 := S6.out.res.cell 5 rfl
 have q6 := S6.out.res.cell 6 rfl
 have r0 := S6.out.res.thaw 0
 have r1 := S6.out.res.thaw 1
 have r2 := S6.out.res.thaw 2
 have r3 := S6.out.res.thaw 3
 have r4 := S6.out.res.thaw 4
 have r5 := S6.out.res.thaw 5
 have r6 := S6.out.res.thaw 6
 go_wp2_with fail
 have S7 := hideP ((S6.out.set 5 (.slice (some ⟨g3, 0, none⟩) r.rgns.length r.rgns.length)).set 6 (.int .i64 r.rule))
 have ltb : w.heap.size + 1 + 1 < W1.heap.size := by rw [HZ1.out]; omega
 have lta : w.heap.size + 1 < W1.heap.size := by rw [HZ1.out]; omega
 obtain ⟨W8, e8⟩ : ∃ W8, W8 = (w3.setCell ⟨w.heap.size + 1 + 1, 5, none⟩ (.slice (some ⟨g3, 0, none⟩) r.rgns.length r.rgns.length)).setCell ⟨w.heap.size + 1 + 1, 6, none⟩ (.int .i64 r.rule) := ⟨_, rfl⟩
 obtain ⟨W9, e9⟩ : ∃ W9, W9 = ((((((W8.setCell ⟨w.heap.size + 1, 0, none⟩ (.string r.name)).setCell ⟨w.heap.size + 1, 1, none⟩ (.int .i64 r.fr)).setCell ⟨w.heap.size + 1, 2, none⟩ (.int .i64 r.to)).setCell ⟨w.heap.size + 1, 3, none⟩ (.slice (some ⟨g1, 0, none⟩) r.segs.length r.segs.length)).setCell ⟨w.heap.size + 1, 4, none⟩ (.slice (some ⟨g2, 0, none⟩) r.pats.length r.pats.length)).setCell ⟨w.heap.size + 1, 5, none⟩ (.slice (some ⟨g3, 0, none⟩) r.rgns.length r.rgns.length)).setCell ⟨w.heap.size + 1, 6, none⟩ (.int .i64 r.rule) := ⟨_, rfl⟩
 rw [← e8, ← e9]
 have S8 := S7.out
 rw [← e8] at S8
 have Z9 : Blk W9 (w.heap.size + 1) #[.string r.name, .int .i64 r.fr, .int .i64 r.to, (.slice (some ⟨g1, 0, none⟩) r.segs.length r.segs.length), (.slice (some ⟨g2, 0, none⟩) r.pats.length r.pats.length), (.slice (some ⟨g3, 0, none⟩) r.rgns.length r.rgns.length), .int .i64 r.rule] 35 := by rw [e9]; exact ((((((S8.res.set 0 _).set 1 _).set 2 _).set 3 _).set 4 _).set 5 _).set 6 _
 have B9 : Below w.heap.size w W9 := by rw [e9]; exact below_store (below_store (below_store (below_store (below_store (below_store (below_store S8.below _ (by omega)) _ (by omega)) _ (by omega)) _ (by omega)) _ (by omega)) _ (by omega)) _ (by omega)
 have N1 : INew segK w W9 (.slice (some ⟨g1, 0, none⟩) r.segs.length r.segs.length) r.segs := by
  rw [e9, e8]
  exact ((((((((((U6.out.store _ ltb).store _ ltb).store _ lta).store _ lta).store _ lta).store _ lta).store _ lta).store _ lta).store _ lta)).mono (by rw [HZ1.out]; omega)
 have N2 : INew patK w W9 (.slice (some ⟨g2, 0, none⟩) r.pats.length r.pats.length) r.pats := by
  rw [e9, e8]
  exact ((((((((((V6.out.store _ ltb).store _ ltb).store _ lta).store _ lta).store _ lta).store _ lta).store _ lta).store _ lta).store _ lta)).mono (by rw [HZ1.out]; omega)
 have N3 : RNew w W9 (.slice (some ⟨g3, 0, none⟩) r.rgns.length r.rgns.length) r.rgns := by
  rw [e9, e8]
  exact ((((((((((X6.out.store _ ltb).store _ ltb).store _ lta).store _ lta).store _ lta).store _ lta).store _ lta).store _ lta).store _ lta)).mono (by rw [HZ1.out]; omega)
 clear e8 e9
 obtain ⟨z0, z1, z2, z3, z4, z5, z6⟩ := Z9.cells7
 exact bodyPost_ret (by simp [results, Tryz.results9, go_sem, z0, z1, z2, z3, z4, z5, z6]; try rfl) rfl ⟨_, rfl, ⟨(.slice (some ⟨g1, 0, none⟩) r.segs.length r.segs.length), (.slice (some ⟨g2, 0, none⟩) r.pats.length r.pats.length), (.slice (some ⟨g3, 0, none⟩) r.rgns.length r.rgns.length), rfl, N1, N2, N3⟩, B9⟩
theorem eqRegime (v1 v2 : Value) (r : Rgm) (w : World) (h1 : GRow w v1 r) (h2 : GRow w v2 r) : CR 12 #[v1, v2] w (.bool true) := by
 obtain ⟨p1, p2, p3, rfl, hn, x1, x2, x3⟩ := h1
 obtain ⟨q1, q2, q3, rfl, _, y1, y2, y3⟩ := h2
 have KX : ∀ W, Below w.heap.size w W → CR 37 #[p1, q1] W (.bool true) := fun W hb => eqSegmentS _ _ _ W (x1.below hb) (y1.below hb)
 have KY : ∀ W, Below w.heap.size w W → CR 38 #[p2, q2] W (.bool true) := fun W hb => eqPatchS _ _ _ W (x2.below hb) (y2.below hb)
 have KZ : ∀ W, Below w.heap.size w W → CR 39 #[p3, q3] W (.bool true) := fun W hb => eqReignS _ _ _ W (x3.below hb) (y3.below hb)
 obtain ⟨a11, c11, rfl, _⟩ := x1
 obtain ⟨a12, c12, rfl, _⟩ := x2
 obtain ⟨a13, c13, rfl, _⟩ := x3
 obtain ⟨a21, c21, rfl, _⟩ := y1
 obtain ⟨a22, c22, rfl, _⟩ := y2
 obtain ⟨a23, c23, rfl, _⟩ := y3
 have HKX := hideP KX
 have HKY := hideP KY
 have HKZ := hideP KZ
 obtain ⟨W0, hW0⟩ : ∃ W0, W0 = (w.alloc (.cells #[.string r.name, .int .i64 r.fr, .int .i64 r.to, .slice a11 r.segs.length c11, .slice a12 r.pats.length c12, .slice a13 r.rgns.length c13, .int .i64 r.rule] 35)).alloc (.cells #[.string r.name, .int .i64 r.fr, .int .i64 r.to, .slice a21 r.segs.length c21, .slice a22 r.pats.length c22, .slice a23 r.rgns.length c23, .int .i64 r.rule] 35) := ⟨_, rfl⟩
 have hX1 : Blk W0 w.heap.size #[.string r.name, .int .i64 r.fr, .int .i64 r.to, .slice a11 r.segs.length c11, .slice a12 r.pats.length c12, .slice a13 r.rgns.length c13, .int .i64 r.rule] 35 := by rw [hW0]; exact (Blk.new w _ _).alloc _
 have hX2 : Blk W0 (w.heap.size + 1) #[.string r.name, .int .i64 r.fr, .int .i64 r.to, .slice a21 r.segs.length c21, .slice a22 r.pats.length c22, .slice a23 r.rgns.length c23, .int .i64 r.rule] 35 := by rw [hW0]; have := Blk.new (w.alloc (.cells #[.string r.name, .int .i64 r.fr, .int .i64 r.to, .slice a11 r.segs.length c11, .slice a12 r.pats.length c12, .slice a13 r.rgns.length c13, .int .i64 r.rule] 35)) #[.string r.name, .int .i64 r.fr, .int .i64 r.to, .slice a21 r.segs.length c21, .slice a22 r.pats.length c22, .slice a23 r.rgns.length c23, .int .i64 r.rule] 35; rw [World.size_alloc] at this; exact this
 have hW : Below w.heap.size w W0 := by rw [hW0]; exact ((Below.refl _ _).alloc (Nat.le_refl _) _).alloc (by rw [World.size_alloc]; omega) _
 have hBl : ∀ x : Later W0, Below w.heap.size w x.w := fun x => hW.trans (x.below.mono hW.size)
 have HX1 := hideP hX1
 have HX2 := hideP hX2
 have HBl := hideP hBl
 have HW0 := hideP hW0
 clear hX1 hX2 hBl hW0 hW KX KY KZ hn
 obtain ⟨d0, d1, d2, d3, d4, d5, d6⟩ := cells7 HX1.out.later
 obtain ⟨f0, f1, f2, f3, f4, f5, f6⟩ := cells7 HX2.out.later
 clear d0 d1 d2 d6 f0 f1 f2 f6
 have g6 : ∀ x : Later W0, x.w.cell? ⟨w.heap.size, 6, none⟩ = some (.int .i64 r.rule) := fun x => (HX1.out.later x).cell 6 rfl
 have k6 : ∀ x : Later W0, x.w.cell? ⟨w.heap.size + 1, 6, none⟩ = some (.int .i64 r.rule) := fun x => (HX2.out.later x).cell 6 rfl
 go_enter Tryz.func12, Tryz.ntmps12
 go_wp2_with fail
 rw [← HW0.out]
 refine latO (HKX.out _ (HBl.out ⟨W0, Below.refl _ _⟩)) fun x1 => ?_
 go_wp2_with fail
 refine lat (HKY.out _ (HBl.out x1)) fun x2 => ?_
 go_wp2_with fail
 refine lat (HKZ.out _ (HBl.out x2)) fun x3 => ?_
 go_wp2_with fail
 go_ret
 exact ⟨rfl, HBl.out x3⟩
def allTo (p : Nat → Bool) (k : Nat) : Bool := (List.range k).all p
theorem allTo_next {p : Nat → Bool} {k : Nat} (h : allTo p k = true) (hk : p k = true) : allTo p (k + 1) = true := by
 unfold allTo at *
 rw [List.range_succ, List.all_append, h]
 simp [hk]
theorem allTo_bad {p : Nat → Bool} {k n : Nat} (hk : p k = false) (h : k < n) : allTo p n = false := by
 unfold allTo
 rw [List.all_eq_false]
 exact ⟨k, List.mem_range.2 h, by rw [hk]; simp⟩
theorem allTo_at {p : Nat → Bool} {k n : Nat} (h : allTo p n = true) (hk : k < n) : p k = true := by
 unfold allTo at h
 exact List.all_eq_true.1 h k (List.mem_range.2 hk)
def segFit (f t : Int) (l : List Seg) (k : Nat) : Bool := segOkB (atK segK l k) && (decide (f ≤ (atK segK l k).fr) && (decide ((atK segK l k).to ≤ t) && (decide (k = 0) || decide ((atK segK l (k - 1)).fr < (atK segK l k).fr))))
noncomputable def segsB (f t : Int) (l : List Seg) : Bool := inB l.length 1 20 && (allTo (segFit f t l) l.length && decide (tilesZ f t l = 0))
theorem segs_short {f t : Int} {l : List Seg} (h : inB l.length 1 20 = false) : segsB f t l = false := by unfold segsB; rw [h, Bool.false_and]
theorem segs_bad {f t : Int} {l : List Seg} {k : Nat} (h : segFit f t l k = false) (hk : k < l.length) : segsB f t l = false := by unfold segsB; rw [allTo_bad h hk, Bool.false_and, Bool.and_false]
theorem segs_end {f t : Int} {l : List Seg} (h : inB l.length 1 20 = true) (ha : allTo (segFit f t l) l.length = true) : segsB f t l = decide (tilesZ f t l = 0) := by unfold segsB; rw [h, ha, Bool.true_and, Bool.true_and]
theorem segFit_ok {f t : Int} {l : List Seg} {k : Nat} (h : segFit f t l k = true) : segOkB (atK segK l k) = true ∧ f ≤ (atK segK l k).fr ∧ (atK segK l k).to ≤ t := by
 unfold segFit at h
 simp only [Bool.and_eq_true, decide_eq_true_eq] at h
 exact ⟨h.1, h.2.1, h.2.2.1⟩
theorem segOk_days {s : Seg} (h : segOkB s = true) : s.fr ≤ s.to ∧ 400 ≤ s.to := by
 unfold segOkB at h
 simp only [Bool.and_eq_true, decide_eq_true_eq] at h
 refine ⟨h.2.2.1, ?_⟩
 by_cases hs : 400 ≤ s.to
 · exact hs
 · have := h.2.1; unfold dayB at this; rw [inB_false (.inl (by omega))] at this; cases this
theorem segs_days {f t : Int} {l : List Seg} (ha : allTo (segFit f t l) l.length = true) : ∀ s ∈ l, -9223372036854775808 ≤ s.to := by
 intro s hs
 obtain ⟨i, hi, rfl⟩ := List.mem_iff_getElem.1 hs
 have h := (segOk_days (segFit_ok (allTo_at ha hi)).1).2
 rw [atK_eq hi] at h
 omega
theorem segs_order {f t : Int} {l : List Seg} (h : ¬ f ≤ t) : segsB f t l = false := by
 cases hb : inB l.length 1 20
 · exact segs_short hb
 have hl : 0 < l.length := by
  by_cases hl : 0 < l.length
  · exact hl
  · rw [inB_false (.inl (by omega))] at hb; cases hb
 cases hs : segFit f t l 0
 · exact segs_bad hs hl
 · have := segFit_ok hs; have := segOk_days this.1; omega
theorem segFit_zero {f t : Int} {l : List Seg} : segFit f t l 0 = (segOkB (atK segK l 0) && (decide (f ≤ (atK segK l 0).fr) && (decide ((atK segK l 0).to ≤ t) && true))) := rfl
theorem segFit_succ {f t : Int} {l : List Seg} {j : Nat} : segFit f t l (j + 1) = (segOkB (atK segK l (j + 1)) && (decide (f ≤ (atK segK l (j + 1)).fr) && (decide ((atK segK l (j + 1)).to ≤ t) && decide ((atK segK l j).fr < (atK segK l (j + 1)).fr)))) := by
 unfold segFit
 rw [decide_eq_false (p := j + 1 = 0) (by omega), Bool.false_or]
 rfl
def patB (p : Pat) : Bool := inB p.mon 1 12 && inB p.dom 1 31
def patFit (f t : Int) (l : List Pat) (k : Nat) : Bool := patB (atK patK l k) && (inB (atK patK l k).day f t && (decide (k = 0) || decide ((atK patK l (k - 1)).day < (atK patK l k).day)))
def patsB (f t : Int) (l : List Pat) : Bool := decide ((l.length : Int) ≤ 8) && allTo (patFit f t l) l.length
theorem pats_bad {f t : Int} {l : List Pat} {k : Nat} (h : patFit f t l k = false) (hk : k < l.length) : patsB f t l = false := by unfold patsB; rw [allTo_bad h hk, Bool.and_false]
theorem pats_end {f t : Int} {l : List Pat} (ha : allTo (patFit f t l) l.length = true) : patsB f t l = decide ((l.length : Int) ≤ 8) := by unfold patsB; rw [ha, Bool.and_true]
theorem patFit_zero {f t : Int} {l : List Pat} : patFit f t l 0 = (patB (atK patK l 0) && (inB (atK patK l 0).day f t && true)) := rfl
theorem patFit_succ {f t : Int} {l : List Pat} {j : Nat} : patFit f t l (j + 1) = (patB (atK patK l (j + 1)) && (inB (atK patK l (j + 1)).day f t && decide ((atK patK l j).day < (atK patK l (j + 1)).day))) := by
 unfold patFit
 rw [decide_eq_false (p := j + 1 = 0) (by omega), Bool.false_or]
 rfl
theorem fit_no1 {f t : Int} {l : List Seg} {k : Nat} (h : segOkB (atK segK l k) = false) : segFit f t l k = false := by unfold segFit; rw [h, Bool.false_and]
theorem fit_no2 {f t : Int} {l : List Seg} {k : Nat} (h : (atK segK l k).fr < f) : segFit f t l k = false := by unfold segFit; rw [decide_eq_false (by omega : ¬ f ≤ (atK segK l k).fr), Bool.false_and, Bool.and_false]
theorem fit_no3 {f t : Int} {l : List Seg} {k : Nat} (h : t < (atK segK l k).to) : segFit f t l k = false := by unfold segFit; rw [decide_eq_false (by omega : ¬ (atK segK l k).to ≤ t), Bool.false_and, Bool.and_false, Bool.and_false]
theorem fit_no4 {f t : Int} {l : List Seg} {k j : Nat} (e : k = j + 1) (h : (atK segK l k).fr ≤ (atK segK l j).fr) : segFit f t l k = false := by subst e; rw [segFit_succ, decide_eq_false (by omega : ¬ (atK segK l j).fr < (atK segK l (j + 1)).fr), Bool.and_false, Bool.and_false, Bool.and_false]
theorem fit_yes {f t : Int} {l : List Seg} {k : Nat} (h1 : segOkB (atK segK l k) = true) (h2 : f ≤ (atK segK l k).fr) (h3 : (atK segK l k).to ≤ t) (h4 : ∀ j, k = j + 1 → (atK segK l j).fr < (atK segK l k).fr) : segFit f t l k = true := by
 cases k with
 | zero => rw [segFit_zero, h1, decide_eq_true h2, decide_eq_true h3]; rfl
 | succ j => rw [segFit_succ, h1, decide_eq_true h2, decide_eq_true h3, decide_eq_true (h4 j rfl)]; rfl
theorem pfit_no1 {f t : Int} {l : List Pat} {k : Nat} (h : patB (atK patK l k) = false) : patFit f t l k = false := by unfold patFit; rw [h, Bool.false_and]
theorem pfit_no2 {f t : Int} {l : List Pat} {k : Nat} (h : inB (atK patK l k).day f t = false) : patFit f t l k = false := by unfold patFit; rw [h, Bool.false_and, Bool.and_false]
theorem pfit_no4 {f t : Int} {l : List Pat} {k j : Nat} (e : k = j + 1) (h : (atK patK l k).day ≤ (atK patK l j).day) : patFit f t l k = false := by subst e; rw [patFit_succ, decide_eq_false (by omega : ¬ (atK patK l j).day < (atK patK l (j + 1)).day), Bool.and_false, Bool.and_false]
theorem pfit_yes {f t : Int} {l : List Pat} {k : Nat} (h1 : patB (atK patK l k) = true) (h2 : inB (atK patK l k).day f t = true) (h4 : ∀ j, k = j + 1 → (atK patK l j).day < (atK patK l k).day) : patFit f t l k = true := by
 cases k with
 | zero => rw [patFit_zero, h1, h2]; rfl
 | succ j => rw [patFit_succ, h1, h2, decide_eq_true (h4 j rfl)]; rfl
def ruleB (z : Int) : Bool := decide (z = 0) || decide (z = 1)
noncomputable def regimeB (r : Rgm) : Bool := nameOk r.name && (dayB r.fr && (dayB r.to && (segsB r.fr r.to r.segs && (patsB r.fr r.to r.pats && (reignsOk r.rgns && ruleB r.rule)))))
theorem pat_box (w : World) (a b c : Int) (t : TypeId) : ∃ W0, W0 = w.alloc (.cells #[.int .i64 a, .int .i64 b, .int .i64 c] t) ∧ (∀ x : Later W0, x.w.cell? ⟨w.heap.size, 0, none⟩ = some (.int .i64 a)) ∧ (∀ x : Later W0, x.w.cell? ⟨w.heap.size, 1, none⟩ = some (.int .i64 b)) ∧ (∀ x : Later W0, x.w.cell? ⟨w.heap.size, 2, none⟩ = some (.int .i64 c)) ∧ ∀ x : Later W0, Below w.heap.size w x.w :=
 ⟨_, rfl, Later.new rfl 0 rfl, Later.new rfl 1 rfl, Later.new rfl 2 rfl, fun x => below_alloc x.below⟩
theorem implPatchOk (s : Pat) (w : World) : CR 127 #[.agg #[.int .i64 s.day, .int .i64 s.mon, .int .i64 s.dom]] w (.bool (patB s)) := by
 unfold patB
 by_cases h1 : 1 ≤ s.mon
 case neg =>
  rw [inB_false (.inl (by omega)), Bool.false_and]
  have hd : decide (1 ≤ s.mon) = false := decide_eq_false h1
  go_enter Tryz.func127, Tryz.ntmps127
  go_wp2
  go_ret
  exact ⟨rfl, (Below.refl _ _).alloc (Nat.le_refl _) _⟩
 by_cases h2 : s.mon ≤ 12
 case neg =>
  rw [inB_false (.inr (by omega)), Bool.false_and]
  have hd : decide (s.mon ≤ 12) = false := decide_eq_false h2
  go_enter Tryz.func127, Tryz.ntmps127
  go_wp2
  go_ret
  exact ⟨rfl, (Below.refl _ _).alloc (Nat.le_refl _) _⟩
 rw [inB_true h1 h2, Bool.true_and]
 by_cases h3 : 1 ≤ s.dom
 case neg =>
  rw [inB_false (.inl (by omega))]
  have hd : decide (1 ≤ s.dom) = false := decide_eq_false h3
  go_enter Tryz.func127, Tryz.ntmps127
  go_wp2
  go_ret
  exact ⟨rfl, (Below.refl _ _).alloc (Nat.le_refl _) _⟩
 by_cases h4 : s.dom ≤ 31
 case neg =>
  rw [inB_false (.inr (by omega))]
  have hd : decide (s.dom ≤ 31) = false := decide_eq_false h4
  go_enter Tryz.func127, Tryz.ntmps127
  go_wp2
  go_ret
  exact ⟨rfl, (Below.refl _ _).alloc (Nat.le_refl _) _⟩
 rw [inB_true h3 h4]
 go_enter Tryz.func127, Tryz.ntmps127
 go_wp2
 go_ret
 exact ⟨rfl, (Below.refl _ _).alloc (Nat.le_refl _) _⟩
theorem implRuleOk (z : Int) (w : World) : CS 78 #[.int .i64 z] w (.bool (ruleB z)) := by
 unfold ruleB
 by_cases h0 : z = 0
 · subst h0
   go_enter Tryz.func78, Tryz.ntmps78
   go_wp2
   go_ret
   exact ⟨rfl, rfl⟩
 by_cases h1 : z = 1
 · subst h1
   go_enter Tryz.func78, Tryz.ntmps78
   go_wp2
   go_ret
   exact ⟨rfl, rfl⟩
 rw [decide_eq_false h0, decide_eq_false h1]
 have hd : (z == 0) = false := by simp [h0]
 have hd' : (z == 1) = false := by simp [h1]
 go_enter Tryz.func78, Tryz.ntmps78
 go_wp2
 go_ret
 exact ⟨rfl, rfl⟩
theorem implSegsOk (v : Value) (r : Rgm) (w : World) (h : GRow w v r) (ht : r.to ≤ 9223372036854775807) (hE : ErrT w) : CR 75 #[v] w (.bool (segsB r.fr r.to r.segs)) := by
 obtain ⟨nm, f, t, l, ps, rs, ru⟩ := r
 obtain ⟨v1, v2, v3, rfl, _, x1, x2, x3⟩ := h
 dsimp only at x1 x2 x3
 obtain ⟨W0, hW0, d0, d1, d2, d3, d4, d5, d6, hBl⟩ := seven_box w (.string nm) (.int .i64 f) (.int .i64 t) v1 v2 v3 (.int .i64 ru) 35
 have hrow := x1.below (hBl ⟨W0, Below.refl _ _⟩)
 have KT : Hid (∀ y : Later W0, l.length ≤ 1048576 → (∀ s ∈ l, -9223372036854775808 ≤ s.to) → CR 126 #[.int .i64 f, .int .i64 t, v1] y.w (.int .i64 (tilesZ f t l))) := fun y h1 h2 => implTiles f t v1 l y.w (hrow.below y.below) h1 ht h2 (hE.below (hBl y))
 obtain ⟨a1, c1, rfl, _⟩ := x1
 obtain ⟨a2, c2, rfl, _⟩ := x2
 obtain ⟨a3, c3, rfl, _⟩ := x3
 obtain ⟨a, c, ev, hl, hm, H⟩ := hrow
 cases ev
 have HK := hideP H
 have HW0 := hideP hW0
 have HBl := hideP hBl
 unfold maxLen at hm
 dsimp only
 clear H hW0 hBl
 clear ht hE
 by_cases n1 : l.length < 1
 · have HR := hideP (segs_short (f := f) (t := t) (inB_false (x := (l.length : Int)) (a := 1) (b := 20) (.inl (by omega))))
   have q1 : (l.length : Int) < 1 := by omega
   go_enter Tryz.func75, Tryz.ntmps75
   go_wp2
   rw [← HW0.out]
   go_ret
   exact ⟨ret_bool HR.out.symm, HBl.out ⟨W0, Below.refl _ _⟩⟩
 have q1 : decide ((l.length : Int) < 1) = false := decide_eq_false (by omega)
 by_cases n2 : 20 < l.length
 · have HR := hideP (segs_short (f := f) (t := t) (inB_false (x := (l.length : Int)) (a := 1) (b := 20) (.inr (by omega))))
   have q2 : (20 : Int) < (l.length : Int) := by omega
   go_enter Tryz.func75, Tryz.ntmps75
   go_wp2
   rw [← HW0.out]
   go_ret
   exact ⟨ret_bool HR.out.symm, HBl.out ⟨W0, Below.refl _ _⟩⟩
 have q2 : decide ((20 : Int) < (l.length : Int)) = false := decide_eq_false (by omega)
 have HI : Hid (inB l.length 1 20 = true) := inB_true (by omega) (by omega)
 have hst : Hid (Below W0.heap.size W0 W0) := Below.refl _ _
 go_enter Tryz.func75, Tryz.ntmps75
 go_wp2
 rw [← HW0.out]
 go_loopw [18] (fun i wr => ∃ k : Nat, k ≤ l.length ∧ i = .int .i64 (k : Int) ∧ Hid (allTo (segFit f t l) k = true) ∧ ∃ y : Later W0, wr = y.w) (fun i _ => l.length - (intOf i).toNat)
 case atStart => exact ⟨0, Nat.zero_le _, rfl, rfl, ⟨W0, hst.out⟩, rfl⟩
 case round =>
  obtain ⟨k, hk, rfl, HF, y, rfl⟩ := hrel
  by_cases hlt : k < l.length
  · obtain ⟨g, rfl, hg, x⟩ := HK.out k hlt
    obtain ⟨e0, e1, e2, e3, e4⟩ := (x.below y.below hg).seg
    obtain ⟨W1, hW1, c10, c11, c12, c13, c14, hBl1⟩ := seg_box y.w (atK segK l k).fr (atK segK l k).to (atK segK l k).cal (atK segK l k).sty (atK segK l k).off 91
    have hY : ∀ z : Later W1, Below W0.heap.size W0 z.w := fun z => y.on (hBl1 z)
    have D1 : ∀ z : Later W1, z.w.cell? ⟨w.heap.size, 1, none⟩ = some (.int .i64 f) := fun z => d1 ⟨z.w, hY z⟩
    have D2 : ∀ z : Later W1, z.w.cell? ⟨w.heap.size, 2, none⟩ = some (.int .i64 t) := fun z => d2 ⟨z.w, hY z⟩
    have D3 : ∀ z : Later W1, z.w.cell? ⟨w.heap.size, 3, none⟩ = some (.slice (some ⟨g, 0, none⟩) l.length c1) := fun z => d3 ⟨z.w, hY z⟩
    have HP : Hid (∀ j, k = j + 1 → ∀ z : Later W1, z.w.cell? ⟨g, j * 5, none⟩ = some (.int .i64 (atK segK l j).fr)) := fun j e z => by
     obtain ⟨g', e', hg', x'⟩ := HK.out j (by omega)
     cases e'
     exact ((x'.below (hY z) hg').seg).1
    have F1 := hideP (fun h => segs_bad (f := f) (t := t) (k := k) (fit_no1 h) hlt)
    have F2 := hideP (fun h => segs_bad (f := f) (t := t) (k := k) (fit_no2 h) hlt)
    have F3 := hideP (fun h => segs_bad (f := f) (t := t) (k := k) (fit_no3 h) hlt)
    have F4 := hideP (fun (j : Nat) (e : k = j + 1) h => segs_bad (f := f) (t := t) (k := k) (fit_no4 e h) hlt)
    have F5 := hideP (fun h1 h2 h3 h4 => allTo_next HF.out (fit_yes (f := f) (t := t) (k := k) h1 h2 h3 h4))
    have HW1 := hideP hW1
    have HY := hideP hY
    clear x hW1 hBl1 hY
    generalize atK segK l k = s at *
    have KO : Hid (∀ W, CR 125 #[.agg #[.int .i64 s.fr, .int .i64 s.to, .int .i64 s.cal, .int .i64 s.sty, .int .i64 s.off]] W (.bool (segOkB s))) := fun W => implSegOk s W
    generalize segOkB s = b1 at *
    go_wp2_with fail
    rw [← HW1.out]
    refine latO (KO.out _) fun z => ?_
    clear e0 e1 e2 e3 e4
    cases b1
    · have HR := hideP (F1.out rfl)
      go_wp2
      go_ret
      exact ⟨ret_bool HR.out.symm, HBl.out ⟨z.w, HY.out z⟩⟩
    by_cases h2 : f ≤ s.fr
    case neg =>
     have HR := hideP (F2.out (by omega))
     have q3 : s.fr < f := by omega
     go_wp2
     go_ret
     exact ⟨ret_bool HR.out.symm, HBl.out ⟨z.w, HY.out z⟩⟩
    have q3 : decide (s.fr < f) = false := decide_eq_false (by omega)
    by_cases h3 : s.to ≤ t
    case neg =>
     have HR := hideP (F3.out (by omega))
     have q4 : t < s.to := by omega
     go_wp2
     go_ret
     exact ⟨ret_bool HR.out.symm, HBl.out ⟨z.w, HY.out z⟩⟩
    have q4 : decide (t < s.to) = false := decide_eq_false (by omega)
    obtain rfl | ⟨j, rfl⟩ : k = 0 ∨ ∃ j, k = j + 1 := by cases k with | zero => exact .inl rfl | succ j => exact .inr ⟨j, rfl⟩
    · have HN := hideP (F5.out rfl h2 h3 (fun j e => by omega))
      go_wp2_with fail
      refine wp_region_later (W := W1) z.below (by kernel_rfl) (by kernel_rfl) ?_
      repeat (go_big_quiet_step (fail))
      refine quietE fun u => ?_
      go_wp2
      exact ⟨⟨0 + 1, by omega, by go_num, HN.out, ⟨u.w, HY.out u⟩, rfl⟩, by simp [intOf]; omega⟩
    · have e5 := HP.out j rfl
      have G4 := hideP (F4.out j rfl)
      have G5 := hideP (fun (h4 : (atK segK l j).fr < s.fr) => F5.out rfl h2 h3 (fun i e => (show i = j from by omega) ▸ h4))
      have hj0 : decide ((0 : Int) < (j : Int) + 1) = true := decide_eq_true (by omega)
      clear HP F1 F2 F3 F4 F5
      generalize (atK segK l j).fr = P at *
      by_cases h4 : P < s.fr
      case neg =>
       have HR := hideP (G4.out (by omega))
       have q5 : decide (s.fr ≤ P) = true := decide_eq_true (by omega)
       go_wp2_with fail
       refine wp_region_later (W := W1) z.below (by kernel_rfl) (by kernel_rfl) ?_
       repeat (go_big_quiet_step (fail))
       refine quietE fun u => ?_
       go_wp2
       go_ret
       exact ⟨ret_bool HR.out.symm, HBl.out ⟨u.w, HY.out u⟩⟩
      have HN := hideP (G5.out h4)
      have q5 : decide (s.fr ≤ P) = false := decide_eq_false (by omega)
      go_wp2_with fail
      refine wp_region_later (W := W1) z.below (by kernel_rfl) (by kernel_rfl) ?_
      repeat (go_big_quiet_step (fail))
      refine quietE fun u => ?_
      go_wp2
      exact ⟨⟨j + 1 + 1, by omega, by go_num, HN.out, ⟨u.w, HY.out u⟩, rfl⟩, by simp [intOf]; omega⟩
  · have hkn : k = l.length := by omega
    have HA : Hid (allTo (segFit f t l) l.length = true) := by rw [← hkn]; exact HF
    have HR := hideP (segs_end HI.out HA.out)
    have KC := hideP (KT.out y (by omega) (segs_days HA.out))
    clear KT HF
    subst hkn
    generalize tilesZ f t l = Z at *
    go_wp2_with fail
    refine KC.out.mono ?_
    rintro e w2 ⟨rfl, hb⟩
    have HB2 : Hid (Below w.heap.size w w2) := HBl.out ⟨w2, y.on hb⟩
    clear hb
    by_cases hz : Z = 0
    · subst hz
      go_wp2
      go_ret
      exact ⟨ret_bool (by rw [HR.out]; rfl), HB2.out⟩
    · have hz' : (Z == 0) = false := by simp [hz]
      have HR2 : Hid (segsB f t l = false) := by unfold Hid; rw [HR.out]; exact decide_eq_false hz
      go_wp2
      go_ret
      exact ⟨ret_bool HR2.out.symm, HB2.out⟩
theorem implPatchesOk (v : Value) (r : Rgm) (w : World) (h : GRow w v r) : CR 76 #[v] w (.bool (patsB r.fr r.to r.pats)) := by
 obtain ⟨nm, f, t, ss, l, rs, ru⟩ := r
 obtain ⟨v1, v2, v3, rfl, _, x1, x2, x3⟩ := h
 dsimp only at x1 x2 x3
 obtain ⟨W0, hW0, d0, d1, d2, d3, d4, d5, d6, hBl⟩ := seven_box w (.string nm) (.int .i64 f) (.int .i64 t) v1 v2 v3 (.int .i64 ru) 35
 have hrow := x2.below (hBl ⟨W0, Below.refl _ _⟩)
 obtain ⟨a1, c1, rfl, _⟩ := x1
 obtain ⟨a2, c2, rfl, _⟩ := x2
 obtain ⟨a3, c3, rfl, _⟩ := x3
 obtain ⟨a, c, ev, hl, hm, H⟩ := hrow
 cases ev
 have HK := hideP H
 have HW0 := hideP hW0
 have HBl := hideP hBl
 unfold maxLen at hm
 dsimp only
 clear H hW0 hBl
 by_cases n2 : 8 < l.length
 · have HR : Hid (patsB f t l = false) := by unfold Hid patsB; rw [decide_eq_false (by omega), Bool.false_and]
   have q2 : (8 : Int) < (l.length : Int) := by omega
   go_enter Tryz.func76, Tryz.ntmps76
   go_wp2
   rw [← HW0.out]
   go_ret
   exact ⟨ret_bool HR.out.symm, HBl.out ⟨W0, Below.refl _ _⟩⟩
 have q2 : decide ((8 : Int) < (l.length : Int)) = false := decide_eq_false (by omega)
 have HI : Hid (decide ((l.length : Int) ≤ 8) = true) := decide_eq_true (by omega)
 have hst : Hid (Below W0.heap.size W0 W0) := Below.refl _ _
 go_enter Tryz.func76, Tryz.ntmps76
 go_wp2
 rw [← HW0.out]
 go_loopw [12] (fun i wr => ∃ k : Nat, k ≤ l.length ∧ i = .int .i64 (k : Int) ∧ Hid (allTo (patFit f t l) k = true) ∧ ∃ y : Later W0, wr = y.w) (fun i _ => l.length - (intOf i).toNat)
 case atStart => exact ⟨0, Nat.zero_le _, rfl, rfl, ⟨W0, hst.out⟩, rfl⟩
 case round =>
  obtain ⟨k, hk, rfl, HF, y, rfl⟩ := hrel
  by_cases hlt : k < l.length
  · obtain ⟨g, rfl, hg, x⟩ := HK.out k hlt
    obtain ⟨e0, e1, e2⟩ := (x.below y.below hg).pat
    obtain ⟨W1, hW1, c10, c11, c12, hBl1⟩ := pat_box y.w (atK patK l k).day (atK patK l k).mon (atK patK l k).dom 96
    have hY : ∀ z : Later W1, Below W0.heap.size W0 z.w := fun z => y.on (hBl1 z)
    have D1 : ∀ z : Later W1, z.w.cell? ⟨w.heap.size, 1, none⟩ = some (.int .i64 f) := fun z => d1 ⟨z.w, hY z⟩
    have D2 : ∀ z : Later W1, z.w.cell? ⟨w.heap.size, 2, none⟩ = some (.int .i64 t) := fun z => d2 ⟨z.w, hY z⟩
    have D3 : ∀ z : Later W1, z.w.cell? ⟨w.heap.size, 4, none⟩ = some (.slice (some ⟨g, 0, none⟩) l.length c2) := fun z => d4 ⟨z.w, hY z⟩
    have HP : Hid (∀ j, k = j + 1 → ∀ z : Later W1, z.w.cell? ⟨g, j * 3, none⟩ = some (.int .i64 (atK patK l j).day)) := fun j e z => by
     obtain ⟨g', e', hg', x'⟩ := HK.out j (by omega)
     cases e'
     exact ((x'.below (hY z) hg').pat).1
    have F1 := hideP (fun h => pats_bad (f := f) (t := t) (k := k) (pfit_no1 h) hlt)
    have F2 := hideP (fun h => pats_bad (f := f) (t := t) (k := k) (pfit_no2 h) hlt)
    have F4 := hideP (fun (j : Nat) (e : k = j + 1) h => pats_bad (f := f) (t := t) (k := k) (pfit_no4 e h) hlt)
    have F5 := hideP (fun h1 h2 h4 => allTo_next HF.out (pfit_yes (f := f) (t := t) (k := k) h1 h2 h4))
    have HW1 := hideP hW1
    have HY := hideP hY
    clear x hW1 hBl1 hY
    generalize atK patK l k = s at *
    have KO : Hid (∀ W, CR 127 #[.agg #[.int .i64 s.day, .int .i64 s.mon, .int .i64 s.dom]] W (.bool (patB s))) := fun W => implPatchOk s W
    generalize patB s = b1 at *
    go_wp2_with fail
    rw [← HW1.out]
    refine latO (KO.out _) fun z => ?_
    clear e0 e1 e2
    cases b1
    · have HR := hideP (F1.out rfl)
      go_wp2
      go_ret
      exact ⟨ret_bool HR.out.symm, HBl.out ⟨z.w, HY.out z⟩⟩
    by_cases h2 : f ≤ s.day
    case neg =>
     have HR := hideP (F2.out (inB_false (.inl (by omega))))
     have q3 : s.day < f := by omega
     go_wp2
     go_ret
     exact ⟨ret_bool HR.out.symm, HBl.out ⟨z.w, HY.out z⟩⟩
    have q3 : decide (s.day < f) = false := decide_eq_false (by omega)
    by_cases h3 : s.day ≤ t
    case neg =>
     have HR := hideP (F2.out (inB_false (.inr (by omega))))
     have q4 : t < s.day := by omega
     go_wp2
     go_ret
     exact ⟨ret_bool HR.out.symm, HBl.out ⟨z.w, HY.out z⟩⟩
    have q4 : decide (t < s.day) = false := decide_eq_false (by omega)
    obtain rfl | ⟨j, rfl⟩ : k = 0 ∨ ∃ j, k = j + 1 := by cases k with | zero => exact .inl rfl | succ j => exact .inr ⟨j, rfl⟩
    · have HN := hideP (F5.out rfl (inB_true h2 h3) (fun j e => by omega))
      go_wp2_with fail
      refine wp_region_later (W := W1) z.below (by kernel_rfl) (by kernel_rfl) ?_
      repeat (go_big_quiet_step (fail))
      refine quietE fun u => ?_
      go_wp2
      exact ⟨⟨0 + 1, by omega, by go_num, HN.out, ⟨u.w, HY.out u⟩, rfl⟩, by simp [intOf]; omega⟩
    · have e5 := HP.out j rfl
      have G4 := hideP (F4.out j rfl)
      have G5 := hideP (fun (h4 : (atK patK l j).day < s.day) => F5.out rfl (inB_true h2 h3) (fun i e => (show i = j from by omega) ▸ h4))
      have hj0 : decide ((0 : Int) < (j : Int) + 1) = true := decide_eq_true (by omega)
      clear HP F1 F2 F4 F5
      generalize (atK patK l j).day = P at *
      by_cases h4 : P < s.day
      case neg =>
       have HR := hideP (G4.out (by omega))
       have q5 : decide (s.day ≤ P) = true := decide_eq_true (by omega)
       go_wp2_with fail
       refine wp_region_later (W := W1) z.below (by kernel_rfl) (by kernel_rfl) ?_
       repeat (go_big_quiet_step (fail))
       refine quietE fun u => ?_
       go_wp2
       go_ret
       exact ⟨ret_bool HR.out.symm, HBl.out ⟨u.w, HY.out u⟩⟩
      have HN := hideP (G5.out h4)
      have q5 : decide (s.day ≤ P) = false := decide_eq_false (by omega)
      go_wp2_with fail
      refine wp_region_later (W := W1) z.below (by kernel_rfl) (by kernel_rfl) ?_
      repeat (go_big_quiet_step (fail))
      refine quietE fun u => ?_
      go_wp2
      exact ⟨⟨j + 1 + 1, by omega, by go_num, HN.out, ⟨u.w, HY.out u⟩, rfl⟩, by simp [intOf]; omega⟩
  · have hkn : k = l.length := by omega
    have HA : Hid (allTo (patFit f t l) l.length = true) := by rw [← hkn]; exact HF
    have HR : Hid (patsB f t l = true) := (pats_end HA.out).trans HI.out
    clear HF
    subst hkn
    go_wp2
    go_ret
    exact ⟨ret_bool HR.out.symm, HBl.out y⟩
def segHas (n : Int) (s : Seg) : Bool := inB n s.fr s.to
def patIs (n : Int) (p : Pat) : Bool := decide (p.day = n)
def segAt (l : List Seg) (n : Int) : Int := ifind (segHas n) l
def patAt (l : List Pat) (n : Int) : Int := ifind (patIs n) l
theorem implPatIs (s : Pat) (n : Int) (b : Addr) (w : World) (hb : w.cell? b = some (.int .i64 n)) : CR 189 #[.agg #[.int .i64 s.day, .int .i64 s.mon, .int .i64 s.dom], .pointer (some b)] w (.bool (patIs n s)) := by
 have hb' : (w.alloc (.cells #[.int .i64 s.day, .int .i64 s.mon, .int .i64 s.dom] 96)).cell? b = some (.int .i64 n) := Later.at hb ⟨_, (Below.refl _ _).alloc (Nat.le_refl _) _⟩
 unfold patIs
 by_cases h1 : s.day = n
 · rw [decide_eq_true h1]
   have hd : (s.day == n) = true := by simp [h1]
   clear h1
   go_enter Tryz.func189, Tryz.ntmps189
   go_wp2
   go_ret
   exact ⟨rfl, (Below.refl _ _).alloc (Nat.le_refl _) _⟩
 · rw [decide_eq_false h1]
   have hd : (s.day == n) = false := by simp [h1]
   go_enter Tryz.func189, Tryz.ntmps189
   go_wp2
   go_ret
   exact ⟨rfl, (Below.refl _ _).alloc (Nat.le_refl _) _⟩
theorem indexPat (v : Value) (l : List Pat) (n : Int) (b : Addr) (w : World) (h : IRow patK w v l) (hc : w.cell? b = some (.int .i64 n)) : CR 188 #[v, .func (.func 189) #[] #[.pointer (some b)]] w (.int .i64 (ifind (patIs n) l)) := by
 obtain ⟨a, c, rfl, hl, hm, H⟩ := h
 have HK := hideP H
 have KC : ∀ (r : Pat) (W : World), Below w.heap.size w W → CR 189 #[.agg #[.int .i64 r.day, .int .i64 r.mon, .int .i64 r.dom], .pointer (some b)] W (.bool (patIs n r)) := fun r W hb => implPatIs r n b W (Later.at hc ⟨W, hb⟩)
 have HC := hideP KC
 unfold maxLen at hm
 clear H KC hc
 go_enter Tryz.func188, Tryz.ntmps188
 go_wp2
 go_loopw [8] (fun i wr => ∃ k : Nat, k ≤ l.length ∧ i = .int .i64 (k : Int) ∧ Hid (ifFrom (patIs n) (l.drop k) k = ifind (patIs n) l) ∧ Below w.heap.size w wr) (fun i _ => l.length - (intOf i).toNat)
 case atStart => exact ⟨0, Nat.zero_le _, rfl, rfl, Below.refl _ _⟩
 case round =>
  obtain ⟨k, hk, rfl, HF, hB⟩ := hrel
  have HB := hideP hB
  clear hB
  by_cases hlt : k < l.length
  · obtain ⟨g, rfl, hg, x⟩ := HK.out k hlt
    obtain ⟨c0, c1, c2⟩ := (x.below HB.out hg).pat
    have K1 := hideP (fun h => if_hit (K := patK) (p := patIs n) hlt h HF.out)
    have K2 := hideP (fun h => if_miss (K := patK) (p := patIs n) hlt h HF.out)
    have KD := hideP (HC.out (atK patK l k) wr HB.out)
    clear x
    generalize atK patK l k = r at *
    go_wp2_with fail
    refine KD.out.mono ?_
    rintro e w1 ⟨rfl, hb⟩
    have HB1 : Hid (Below w.heap.size w w1) := HB.out.trans (hb.mono HB.out.size)
    clear hb c0 c1 c2
    cases hq : patIs n r
    · have HN := hideP (K2.out hq)
      go_wp2
      exact ⟨⟨k + 1, by omega, by go_num, HN.out, HB1.out⟩, by simp [intOf]; omega⟩
    · have HN := hideP (K1.out hq)
      go_wp2
      go_ret
      exact ⟨ret_int HN.out.symm, HB1.out⟩
  · have HN := hideP (if_end (by omega) HF.out)
    go_wp2
    go_ret
    exact ⟨ret_int HN.out.symm, HB.out⟩
theorem implPatAt (v : Value) (r : Rgm) (n : Int) (w : World) (h : GRow w v r) : CR 135 #[v, .int .i64 n] w (.int .i64 (patAt r.pats n)) := by
 obtain ⟨v1, v2, v3, rfl, _, x1, x2, x3⟩ := h
 obtain ⟨W0, hW0⟩ : ∃ W0, W0 = (w.alloc (.cells #[.string r.name, .int .i64 r.fr, .int .i64 r.to, v1, v2, v3, .int .i64 r.rule] 35)).alloc (.cells #[.int .i64 n] 3) := ⟨_, rfl⟩
 have hW : Below w.heap.size w W0 := by rw [hW0]; exact ((Below.refl _ _).alloc (Nat.le_refl _) _).alloc (by rw [World.size_alloc]; omega) _
 have hc : W0.cell? ⟨w.heap.size + 1, 0, none⟩ = some (.int .i64 n) := by
  rw [hW0]
  have := (Blk.new (w.alloc (.cells #[.string r.name, .int .i64 r.fr, .int .i64 r.to, v1, v2, v3, .int .i64 r.rule] 35)) #[.int .i64 n] 3).cell 0 rfl
  rw [World.size_alloc] at this
  exact this
 have KI := hideP (indexPat v2 r.pats n ⟨w.heap.size + 1, 0, none⟩ W0 (x2.below hW) hc)
 have HW := hideP hW
 have HW0 := hideP hW0
 obtain ⟨a1, c1, rfl, _⟩ := x1
 obtain ⟨a2, c2, rfl, _⟩ := x2
 obtain ⟨a3, c3, rfl, _⟩ := x3
 clear hW hc hW0
 go_enter Tryz.func135, Tryz.ntmps135
 go_wp2_with fail
 rw [← HW0.out]
 refine KI.out.mono ?_
 rintro e w1 ⟨rfl, hb⟩
 have HB : Hid (Below w.heap.size w w1) := HW.out.trans (hb.mono HW.out.size)
 clear hb
 go_wp2_with fail
 go_ret
 exact ⟨rfl, HB.out⟩
theorem specSegAt (v : Value) (r : Rgm) (n : Int) (w : World) (h : GRow w v r) : CR 159 #[v, .int .i64 n] w (.int .i64 (segAt r.segs n)) := by
 obtain ⟨v1, v2, v3, rfl, _, x1, x2, x3⟩ := h
 obtain ⟨W0, hW0, d0, d1, d2, d3, d4, d5, d6, hBl⟩ := seven_box w (.string r.name) (.int .i64 r.fr) (.int .i64 r.to) v1 v2 v3 (.int .i64 r.rule) 35
 have hrow := x1.below (hBl ⟨W0, Below.refl _ _⟩)
 obtain ⟨a1, c1, rfl, _⟩ := x1
 obtain ⟨a2, c2, rfl, _⟩ := x2
 obtain ⟨a3, c3, rfl, _⟩ := x3
 obtain ⟨a, c, ev, hl, hm, H⟩ := hrow
 cases ev
 have HK := hideP H
 have HW0 := hideP hW0
 have HBl := hideP hBl
 unfold maxLen at hm
 clear H hW0 hBl d0 d1 d2 d6
 generalize r.segs = l at *
 have hst : Hid (Below W0.heap.size W0 W0) := Below.refl _ _
 go_enter Tryz.func159, Tryz.ntmps159
 go_wp2
 rw [← HW0.out]
 go_loopw [5] (fun i wr => ∃ k : Nat, k ≤ l.length ∧ i = .int .i64 (k : Int) ∧ Hid (ifFrom (segHas n) (l.drop k) k = segAt l n) ∧ ∃ y : Later W0, wr = y.w) (fun i _ => l.length - (intOf i).toNat)
 case atStart => exact ⟨0, Nat.zero_le _, rfl, rfl, ⟨W0, hst.out⟩, rfl⟩
 case round =>
  obtain ⟨k, hk, rfl, HF, y, rfl⟩ := hrel
  by_cases hlt : k < l.length
  · obtain ⟨g, rfl, hg, x⟩ := HK.out k hlt
    have e0 : ∀ y : Later W0, y.w.cell? ⟨g, k * 5, none⟩ = some (.int .i64 (atK segK l k).fr) := fun y => ((x.below y.below hg).seg).1
    have e1 : ∀ y : Later W0, y.w.cell? ⟨g, k * 5 + 1, none⟩ = some (.int .i64 (atK segK l k).to) := fun y => ((x.below y.below hg).seg).2.1
    have K1 := hideP (fun h => if_hit (K := segK) (p := segHas n) hlt h HF.out)
    have K2 := hideP (fun h => if_miss (K := segK) (p := segHas n) hlt h HF.out)
    clear x
    generalize atK segK l k = r at *
    have HD : Hid (segHas n r = inB n r.fr r.to) := rfl
    have KI : ∀ y : Later W0, CS 98 #[.int .i64 n, .int .i64 r.fr, .int .i64 r.to] y.w (.bool (inB n r.fr r.to)) := fun y => l01In _ _ _ y.w
    generalize inB n r.fr r.to = b at *
    go_wp2_with fail
    refine wp_region_later (W := W0) y.below (by kernel_rfl) (by kernel_rfl) ?_
    repeat (go_big_quiet_step (first | (go_at_call 98; exact calls_same (KI _)) | fail))
    refine quietE fun x => ?_
    cases b
    · have HN := hideP (K2.out HD.out)
      go_wp2
      exact ⟨⟨k + 1, by omega, by go_num, HN.out, x, rfl⟩, by simp [intOf]; omega⟩
    · have HN := hideP (K1.out HD.out)
      go_wp2
      go_ret
      exact ⟨ret_int HN.out.symm, HBl.out x⟩
  · have HN := hideP (if_end (by omega) HF.out)
    go_wp2
    go_ret
    exact ⟨ret_int HN.out.symm, HBl.out y⟩
theorem specPatAt (v : Value) (r : Rgm) (n : Int) (w : World) (h : GRow w v r) : CR 161 #[v, .int .i64 n] w (.int .i64 (patAt r.pats n)) := by
 obtain ⟨v1, v2, v3, rfl, _, x1, x2, x3⟩ := h
 obtain ⟨W0, hW0, d0, d1, d2, d3, d4, d5, d6, hBl⟩ := seven_box w (.string r.name) (.int .i64 r.fr) (.int .i64 r.to) v1 v2 v3 (.int .i64 r.rule) 35
 have hrow := x2.below (hBl ⟨W0, Below.refl _ _⟩)
 obtain ⟨a1, c1, rfl, _⟩ := x1
 obtain ⟨a2, c2, rfl, _⟩ := x2
 obtain ⟨a3, c3, rfl, _⟩ := x3
 obtain ⟨a, c, ev, hl, hm, H⟩ := hrow
 cases ev
 have HK := hideP H
 have HW0 := hideP hW0
 have HBl := hideP hBl
 unfold maxLen at hm
 clear H hW0 hBl d0 d1 d2 d6
 generalize r.pats = l at *
 have hst : Hid (Below W0.heap.size W0 W0) := Below.refl _ _
 go_enter Tryz.func161, Tryz.ntmps161
 go_wp2
 rw [← HW0.out]
 go_loopw [5] (fun i wr => ∃ k : Nat, k ≤ l.length ∧ i = .int .i64 (k : Int) ∧ Hid (ifFrom (patIs n) (l.drop k) k = patAt l n) ∧ ∃ y : Later W0, wr = y.w) (fun i _ => l.length - (intOf i).toNat)
 case atStart => exact ⟨0, Nat.zero_le _, rfl, rfl, ⟨W0, hst.out⟩, rfl⟩
 case round =>
  obtain ⟨k, hk, rfl, HF, y, rfl⟩ := hrel
  by_cases hlt : k < l.length
  · obtain ⟨g, rfl, hg, x⟩ := HK.out k hlt
    have e0 : ∀ y : Later W0, y.w.cell? ⟨g, k * 3, none⟩ = some (.int .i64 (atK patK l k).day) := fun y => ((x.below y.below hg).pat).1
    have K1 := hideP (fun h => if_hit (K := patK) (p := patIs n) hlt h HF.out)
    have K2 := hideP (fun h => if_miss (K := patK) (p := patIs n) hlt h HF.out)
    clear x
    generalize atK patK l k = r at *
    by_cases hd : r.day = n
    · have HN := hideP (K1.out (decide_eq_true hd))
      have hq : (r.day == n) = true := by simp [hd]
      go_wp2
      go_ret
      exact ⟨ret_int HN.out.symm, HBl.out y⟩
    · have HN := hideP (K2.out (decide_eq_false hd))
      have hq : (r.day == n) = false := by simp [hd]
      go_wp2
      exact ⟨⟨k + 1, by omega, by go_num, HN.out, y, rfl⟩, by simp [intOf]; omega⟩
  · have HN := hideP (if_end (by omega) HF.out)
    go_wp2
    go_ret
    exact ⟨ret_int HN.out.symm, HBl.out y⟩
theorem tagS_mem : ∀ (l : List Seg) (b : Nat) (x : PSeg), x ∈ tagS l b → x.s ∈ l
  | [], b, x, h => by simp [tagS] at h
  | s :: l, b, x, h => by
   simp only [tagS, List.mem_cons] at h
   rcases h with rfl | h
   · exact List.mem_cons_self
   · exact List.mem_cons_of_mem _ (tagS_mem l (b + 1) x h)
theorem tagS_map : ∀ (l : List Seg) (b : Nat), (tagS l b).map PSeg.s = l
  | [], b => rfl
  | s :: l, b => by simp [tagS, tagS_map l (b + 1)]
theorem schHas (l : List Seg) (v1 : Value) (n : Int) (k bR bN : Nat) (w : World) (h : IRow segK w v1 l) (hk : k < l.length) (hR : w.cell? ⟨bR, 3, none⟩ = some v1) (hN : w.cell? ⟨bN, 0, none⟩ = some (.int .i64 n)) : CR 191 #[.int .i64 (k : Int), .pointer (some ⟨bR, 0, none⟩), .pointer (some ⟨bN, 0, none⟩)] w (.bool (decide (n ≤ (atK segK l k).to))) := by
 obtain ⟨a1, c1, rfl, hl, hm, hc⟩ := h
 obtain ⟨g, rfl, hg, x⟩ := hc k hk
 have e1 : ∀ y : Later w, y.w.cell? ⟨g, k * 5 + 1, none⟩ = some (.int .i64 (atK segK l k).to) := fun y => ((x.below y.below hg).seg).2.1
 have eR : ∀ y : Later w, y.w.cell? ⟨bR, 3, none⟩ = some (.slice (some ⟨g, 0, none⟩) l.length c1) := fun y => Later.at hR y
 have eN : ∀ y : Later w, y.w.cell? ⟨bN, 0, none⟩ = some (.int .i64 n) := fun y => Later.at hN y
 have hkz : (k : Int) < (l.length : Int) := by omega
 clear x hc hg hR hN
 generalize atK segK l k = s at *
 go_enter Tryz.func191, Tryz.ntmps191
 go_wp2_with fail
 refine wp_region_later (W := w) (Below.refl _ _) (by kernel_rfl) (by kernel_rfl) ?_
 repeat (go_big_quiet_step (fail))
 refine quietE fun y => ?_
 go_wp2
 go_ret
 exact ⟨rfl, y.below⟩
theorem search (a b : Value) (n : Nat) (p : Nat → Bool) (w : World) (hsz : n ≤ 1000)
    (hf : ∀ x : Later w, ∀ i : Nat, i < n → CR 191 #[.int .i64 (i : Int), a, b] x.w (.bool (p i)))
    (hmono : ∀ a b, a ≤ b → b < n → p a = true → p b = true) :
    Calls Tryz.prog 190 #[.int .i64 (n : Int), .func (.func 191) #[] #[a, b]] w fun e w' => ∃ m : Nat, e = .returned (.int .i64 (m : Int)) ∧ m ≤ n ∧ (∀ t, t < m → p t = false) ∧ (∀ t, m ≤ t → t < n → p t = true) ∧ Below w.heap.size w w' := by
  have HF := hideP hf
  have M := hideP hmono
  clear hf hmono
  go_enter Tryz.func190, Tryz.ntmps190
  go_wp2
  go_loopg [5, 6] n (fun kx s5 s6 wr => ∃ (lo hi : Nat), s5 = .int .i64 (lo : Int) ∧ s6 = .int .i64 (hi : Int) ∧ lo ≤ hi ∧ hi ≤ n ∧ hi - lo ≤ kx ∧ (∃ x : Later w, wr = x.w) ∧ Hid ((∀ t, t < lo → p t = false) ∧ (∀ t, hi ≤ t → t < n → p t = true)))
  case atStart => exact ⟨0, n, rfl, rfl, Nat.zero_le _, Nat.le_refl _, by omega, ⟨⟨_, Below.refl _ _⟩, rfl⟩, (⟨fun t ht => absurd ht (Nat.not_lt_zero _), fun t h1 h2 => by omega⟩ : (∀ t, t < 0 → p t = false) ∧ (∀ t, n ≤ t → t < n → p t = true))⟩
  case round =>
   obtain ⟨lo, hi, rfl, rfl, hlh, hin, hg, ⟨x, rfl⟩, I⟩ := hrel
   by_cases hlt : lo < hi
   · have hc := HF.out x ((lo + hi) / 2) (by omega)
     rw [show (((lo + hi) / 2 : Nat) : Int) = ((lo : Int) + (hi : Int)) / 2 by omega] at hc
     cases hp : p ((lo + hi) / 2) <;> rw [hp] at hc
     · have HP := hideP hp
       clear hp
       go_wp2_with (refine hc.mono ?_; rintro e w' ⟨rfl, hb⟩; obtain ⟨x', rfl⟩ := x.next hb; clear hb)
       go_roundg (hi - ((lo + hi) / 2 + 1))
       case measure => omega
       case rel =>
        have I2 : Hid ((∀ t, t < (lo + hi) / 2 + 1 → p t = false) ∧ (∀ t, hi ≤ t → t < n → p t = true)) := ⟨fun t ht => (by
         cases h : p t with
         | false => rfl
         | true => have := M.out t ((lo + hi) / 2) (by omega) (by omega) h; rw [HP.out] at this; cases this), I.out.2⟩
        exact ⟨(lo + hi) / 2 + 1, hi, by rw [show ((lo : Int) + (hi : Int)) / 2 + 1 = (((lo + hi) / 2 + 1 : Nat) : Int) by omega], rfl, by omega, hin, Nat.le_refl _, ⟨x', rfl⟩, I2⟩
     · have HP := hideP hp
       clear hp
       go_wp2_with (refine hc.mono ?_; rintro e w' ⟨rfl, hb⟩; obtain ⟨x', rfl⟩ := x.next hb; clear hb)
       go_roundg ((lo + hi) / 2 - lo)
       case measure => omega
       case rel =>
        have I2 : Hid ((∀ t, t < lo → p t = false) ∧ (∀ t, (lo + hi) / 2 ≤ t → t < n → p t = true)) := ⟨I.out.1, fun t ht htn => M.out ((lo + hi) / 2) t ht htn HP.out⟩
        exact ⟨lo, (lo + hi) / 2, rfl, by rw [show ((lo : Int) + (hi : Int)) / 2 = (((lo + hi) / 2 : Nat) : Int) by omega], by omega, by omega, Nat.le_refl _, ⟨x', rfl⟩, I2⟩
   · obtain rfl : hi = lo := by omega
     go_wp2
     go_ret
     exact ⟨hi, rfl, hin, I.out.1, I.out.2, x.below⟩
end Go.Proofs.YtpclaceefapppaaGreatDoor.ctr
