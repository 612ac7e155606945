/- The walk of the law FnExactMeet: at every input it returns true, and nothing that was there turns. -/
import Derived.Test.YtilpencbbdpgfaaGreatDoorJnPaa
import Derived.Test.YtilpencbbdpgfaaGreatDoorMeetCP
import Derived.Test.YtilpencbbdpgfaaGreatDoorJnPbj
import Derived.Test.YtilpencbbdpgfaaGreatDoorRgmOpenP
import Derived.Test.YtilpencbbdpgfaaGreatDoorJnPbk
import Derived.WalkKit
import Derived.ProofKit
import Derived.OpenShut
import Derived.ShutString
import Derived.ChangeOld
import Derived.Below
import Derived.Deep.DeepHandedRow
import Derived.Lib.LaidTab
import Derived.Lib.SmallJoins
import Derived.Deep.CutRange
import Derived.LaidHandle
import Derived.LaidLaws
namespace Go.Proofs.YtilpencbbdpgfaaGreatDoor.fnExactMeet
open Go.ChangeShapes Go.WideShapes Go.ChangeAt Go.RowKit
open Go.ChangeMaps (open_string shut_string)
set_option linter.unusedVariables false
set_option maxHeartbeats 8000000 in
theorem walk (va : Value) (a : ctr.Rgm) (vb : Value) (b : ctr.Rgm) (w : World) (ha : ctr.GIn w va a) (wa1 : (Lit.int .i64 a.fr).wf = true) (wa2 : (Lit.int .i64 a.to).wf = true) (hb : ctr.GIn w vb b) (wb1 : (Lit.int .i64 b.fr).wf = true) (wb2 : (Lit.int .i64 b.to).wf = true) (t0 : ctr.ErrT w) (t1 : ctr.Tab w) (t2 : ∃ q, ctr.Sent w q) :
    Calls Tryz.prog 14 #[va, vb] w fun e w' => e = .returned (.bool true) ∧ Below w.heap.size w w' := by
  obtain ⟨q, t3⟩ := t2
  have HA := ctr.hideP ha
  have HB := ctr.hideP hb
  obtain ⟨a11, n11, c11, a12, n12, c12, a13, n13, c13, ea, _⟩ := ha
  obtain ⟨a21, n21, c21, a22, n22, c22, a23, n23, c23, eb, _⟩ := hb
  obtain ⟨W0, hW0⟩ : ∃ W0, W0 = (w.alloc (.cells #[.string a.name, .int .i64 a.fr, .int .i64 a.to, .slice a11 n11 c11, .slice a12 n12 c12, .slice a13 n13 c13, .int .i64 a.rule] 26)).alloc (.cells #[.string b.name, .int .i64 b.fr, .int .i64 b.to, .slice a21 n21 c21, .slice a22 n22 c22, .slice a23 n23 c23, .int .i64 b.rule] 26) := ⟨_, rfl⟩
  have hX1 : ctr.Blk W0 w.heap.size #[.string a.name, .int .i64 a.fr, .int .i64 a.to, .slice a11 n11 c11, .slice a12 n12 c12, .slice a13 n13 c13, .int .i64 a.rule] 26 := by rw [hW0]; exact (ctr.Blk.new w _ _).alloc _
  have hX2 : ctr.Blk W0 (w.heap.size + 1) #[.string b.name, .int .i64 b.fr, .int .i64 b.to, .slice a21 n21 c21, .slice a22 n22 c22, .slice a23 n23 c23, .int .i64 b.rule] 26 := by rw [hW0]; have := ctr.Blk.new (w.alloc (.cells #[.string a.name, .int .i64 a.fr, .int .i64 a.to, .slice a11 n11 c11, .slice a12 n12 c12, .slice a13 n13 c13, .int .i64 a.rule] 26)) #[.string b.name, .int .i64 b.fr, .int .i64 b.to, .slice a21 n21 c21, .slice a22 n22 c22, .slice a23 n23 c23, .int .i64 b.rule] 26; rw [World.size_alloc] at this; exact this
  have hW : Below w.heap.size w W0 := by rw [hW0]; exact ((Below.refl _ _).alloc (Nat.le_refl _) _).alloc (by rw [World.size_alloc]; omega) _
  have HX1 := ctr.hideP hX1
  have HX2 := ctr.hideP hX2
  have HW0 := ctr.hideP hW0
  have HW := ctr.hideP hW
  clear hX1 hX2 hW0 hW
  have KZA : Hid (∀ z W, Below W0.heap.size W0 W → 0 ≤ z → z ≤ 1048576 → Calls Tryz.prog 15 #[va, .int .i64 z] W fun e w' => ∃ y : Int, e = .returned (.int .i64 y) ∧ (y = -1 ∨ (0 ≤ y ∧ y ≤ 1048576 ∧ ctr.GOk a)) ∧ Below W.heap.size W w') := fun z W h z1 z2 => ctr.szRegime va a z W (HA.out.below (HW.out.trans (h.mono HW.out.size))) z1 z2
  have KZB : Hid (∀ z W, Below W0.heap.size W0 W → 0 ≤ z → z ≤ 1048576 → Calls Tryz.prog 15 #[vb, .int .i64 z] W fun e w' => ∃ y : Int, e = .returned (.int .i64 y) ∧ (y = -1 ∨ (0 ≤ y ∧ y ≤ 1048576 ∧ ctr.GOk b)) ∧ Below W.heap.size W w') := fun z W h z1 z2 => ctr.szRegime vb b z W (HB.out.below (HW.out.trans (h.mono HW.out.size))) z1 z2
  have KTA : Hid (ctr.GOk a → ∀ v W, v = va → Below W0.heap.size W0 W → Calls Tryz.prog 17 #[v] W fun e w' => ∃ o, e = .returned o ∧ ctr.GNew W w' o a ∧ Below W.heap.size W w') := fun ho v W e h => by rw [e]; exact ctr.toRegime va a W (HA.out.below (HW.out.trans (h.mono HW.out.size))) ho
  have KTB : Hid (ctr.GOk b → ∀ v W, v = vb → Below W0.heap.size W0 W → Calls Tryz.prog 17 #[v] W fun e w' => ∃ o, e = .returned o ∧ ctr.GNew W w' o b ∧ Below W.heap.size W w') := fun ho v W e h => by rw [e]; exact ctr.toRegime vb b W (HB.out.below (HW.out.trans (h.mono HW.out.size))) ho
  have KEA : Hid (∀ v1 v2 W, ctr.GRow W v1 a → ctr.GRow W v2 a → Calls Tryz.prog 20 #[v1, v2] W fun e w' => e = .returned (.bool true) ∧ Below W.heap.size W w') := fun v1 v2 W g1 g2 => ctr.eqRegime v1 v2 a W g1 g2
  have KEB : Hid (∀ v1 v2 W, ctr.GRow W v1 b → ctr.GRow W v2 b → Calls Tryz.prog 20 #[v1, v2] W fun e w' => e = .returned (.bool true) ∧ Below W.heap.size W w') := fun v1 v2 W g1 g2 => ctr.eqRegime v1 v2 b W g1 g2
  have KS : Hid (∀ v1 v2 W, ctr.GRow W v1 a → ctr.GRow W v2 b → Calls Tryz.prog 51 #[v1, v2] W fun e w' => e = .returned (.tuple #[.int .i64 (ctr.meetF a b), .int .i64 (ctr.meetL a b)]) ∧ Below W.heap.size W w') := fun v1 v2 W g1 g2 => ctr.specMeet v1 v2 a b W g1 g2 (kit.wf_bounds wa1).1 (kit.wf_bounds wa2).2 (kit.wf_bounds wb1).1 (kit.wf_bounds wb2).2
  have KI : Hid (∀ v1 v2 W, Below w.heap.size w W → ctr.GRow W v1 a → ctr.GRow W v2 b → Calls Tryz.prog 52 #[v1, v2] W fun e w' => e = .returned (.tuple #[.int .i64 (ctr.meetF a b), .int .i64 (ctr.meetL a b)]) ∧ Below W.heap.size W w') := fun v1 v2 W hw g1 g2 => ctr.implMeet v1 v2 a b q W g1 g2 (kit.wf_bounds wa2).2 (kit.wf_bounds wb2).2 (t0.below hw) (t1.later hw) (t3.later hw)
  generalize ctr.meetF a b = mF at *
  generalize ctr.meetL a b = mL at *
  clear wa1 wa2 wb1 wb2 t0 t1 t3
  subst ea eb
  clear HA HB
  have d0 : ∀ x : ctr.Later W0, x.w.cell? ⟨w.heap.size, 0, none⟩ = some (.string a.name) := fun x => (HX1.out.later x).cell 0 rfl
  have d1 : ∀ x : ctr.Later W0, x.w.cell? ⟨w.heap.size, 1, none⟩ = some (.int .i64 a.fr) := fun x => (HX1.out.later x).cell 1 rfl
  have d2 : ∀ x : ctr.Later W0, x.w.cell? ⟨w.heap.size, 2, none⟩ = some (.int .i64 a.to) := fun x => (HX1.out.later x).cell 2 rfl
  have d3 : ∀ x : ctr.Later W0, x.w.cell? ⟨w.heap.size, 3, none⟩ = some (.slice a11 n11 c11) := fun x => (HX1.out.later x).cell 3 rfl
  have d4 : ∀ x : ctr.Later W0, x.w.cell? ⟨w.heap.size, 4, none⟩ = some (.slice a12 n12 c12) := fun x => (HX1.out.later x).cell 4 rfl
  have d5 : ∀ x : ctr.Later W0, x.w.cell? ⟨w.heap.size, 5, none⟩ = some (.slice a13 n13 c13) := fun x => (HX1.out.later x).cell 5 rfl
  have d6 : ∀ x : ctr.Later W0, x.w.cell? ⟨w.heap.size, 6, none⟩ = some (.int .i64 a.rule) := fun x => (HX1.out.later x).cell 6 rfl
  have f0 : ∀ x : ctr.Later W0, x.w.cell? ⟨w.heap.size + 1, 0, none⟩ = some (.string b.name) := fun x => (HX2.out.later x).cell 0 rfl
  have f1 : ∀ x : ctr.Later W0, x.w.cell? ⟨w.heap.size + 1, 1, none⟩ = some (.int .i64 b.fr) := fun x => (HX2.out.later x).cell 1 rfl
  have f2 : ∀ x : ctr.Later W0, x.w.cell? ⟨w.heap.size + 1, 2, none⟩ = some (.int .i64 b.to) := fun x => (HX2.out.later x).cell 2 rfl
  have f3 : ∀ x : ctr.Later W0, x.w.cell? ⟨w.heap.size + 1, 3, none⟩ = some (.slice a21 n21 c21) := fun x => (HX2.out.later x).cell 3 rfl
  have f4 : ∀ x : ctr.Later W0, x.w.cell? ⟨w.heap.size + 1, 4, none⟩ = some (.slice a22 n22 c22) := fun x => (HX2.out.later x).cell 4 rfl
  have f5 : ∀ x : ctr.Later W0, x.w.cell? ⟨w.heap.size + 1, 5, none⟩ = some (.slice a23 n23 c23) := fun x => (HX2.out.later x).cell 5 rfl
  have f6 : ∀ x : ctr.Later W0, x.w.cell? ⟨w.heap.size + 1, 6, none⟩ = some (.int .i64 b.rule) := fun x => (HX2.out.later x).cell 6 rfl
  go_enter Tryz.func14, Tryz.ntmps14
  go_wp2_with fail
  rw [← HW0.out]
  refine (KZA.out 1048576 _ (Below.refl _ _) (by omega) (by omega)).mono ?_
  rintro e w1 ⟨z, rfl, hz, hb⟩
  obtain ⟨x1, rfl⟩ := ctr.Later.of hb
  have HZ := ctr.hideP hz
  clear hb hz
  rcases HZ.out with rfl | ⟨z1, z2, ho⟩
  · go_wp2_with fail
    go_ret
    exact ⟨rfl, HW.out.trans (x1.below.mono HW.out.size)⟩
  have OA := ctr.hideP ho
  clear ho
  go_wp2_with fail
  refine (KZB.out z _ x1.below z1 z2).mono ?_
  rintro e w2 ⟨z', rfl, hz, hb⟩
  obtain ⟨x2, rfl⟩ := x1.next hb
  have HZ' := ctr.hideP hz
  clear hb hz
  rcases HZ'.out with rfl | ⟨z1', z2', ho⟩
  · go_wp2_with fail
    go_ret
    exact ⟨rfl, HW.out.trans (x2.below.mono HW.out.size)⟩
  have OB := ctr.hideP ho
  have hx2 : Below W0.heap.size W0 x2.w.drew := x2.below.drew
  clear ho KZA KZB
  go_upto_region 8 with fail
  go_cut [6, 7] from 22 to 29 (fun s6 s7 wx => s6 = .int .i64 mF ∧ s7 = .int .i64 mL ∧ Below W0.heap.size W0 wx)
  case first =>
    go_region_with (first | (go_at_call 17; refine (KTA.out OA.out _ _ (by rfl) (by first | exact hx2 | exact hBb)).mono ?_; rintro e wa ⟨oa, rfl, hna, hba⟩; have RA : Hid (∀ y, Below wa.heap.size wa y → ctr.GRow y oa a) := fun y h => (hna.row OA.out).below h; have hBa : Below W0.heap.size W0 wa := (by first | exact hx2.trans (hba.mono hx2.size) | exact hBb.trans (hba.mono hBb.size)); obtain ⟨p1, p2, p3, rfl, _⟩ := hna; have dA : ∀ i v, (#[.string a.name, .int .i64 a.fr, .int .i64 a.to, .slice a11 n11 c11, .slice a12 n12 c12, .slice a13 n13 c13, .int .i64 a.rule] : Array Value)[i]? = some v → wa.cell? ⟨w.heap.size, i, none⟩ = some v := fun i v h => (HX1.out.later ⟨wa, hBa⟩).cell i h; have g0 := dA 0 _ rfl; have g1 := dA 1 _ rfl; have g2 := dA 2 _ rfl; have g3 := dA 3 _ rfl; have g4 := dA 4 _ rfl; have g5 := dA 5 _ rfl; have g6 := dA 6 _ rfl; have dB : ∀ i v, (#[.string b.name, .int .i64 b.fr, .int .i64 b.to, .slice a21 n21 c21, .slice a22 n22 c22, .slice a23 n23 c23, .int .i64 b.rule] : Array Value)[i]? = some v → wa.cell? ⟨w.heap.size + 1, i, none⟩ = some v := fun i v h => (HX2.out.later ⟨wa, hBa⟩).cell i h; have k0 := dB 0 _ rfl; have k1 := dB 1 _ rfl; have k2 := dB 2 _ rfl; have k3 := dB 3 _ rfl; have k4 := dB 4 _ rfl; have k5 := dB 5 _ rfl; have k6 := dB 6 _ rfl; clear dA dB) | (go_at_call 17; refine (KTB.out OB.out _ _ (by rfl) (by first | exact hx2 | exact hBa)).mono ?_; rintro e wb ⟨ob, rfl, hnb, hbb⟩; have RB : Hid (∀ y, Below wb.heap.size wb y → ctr.GRow y ob b) := fun y h => (hnb.row OB.out).below h; have hBb : Below W0.heap.size W0 wb := (by first | exact hx2.trans (hbb.mono hx2.size) | exact hBa.trans (hbb.mono hBa.size)); obtain ⟨q1, q2, q3, rfl, _⟩ := hnb; have dA : ∀ i v, (#[.string a.name, .int .i64 a.fr, .int .i64 a.to, .slice a11 n11 c11, .slice a12 n12 c12, .slice a13 n13 c13, .int .i64 a.rule] : Array Value)[i]? = some v → wb.cell? ⟨w.heap.size, i, none⟩ = some v := fun i v h => (HX1.out.later ⟨wb, hBb⟩).cell i h; have g0 := dA 0 _ rfl; have g1 := dA 1 _ rfl; have g2 := dA 2 _ rfl; have g3 := dA 3 _ rfl; have g4 := dA 4 _ rfl; have g5 := dA 5 _ rfl; have g6 := dA 6 _ rfl; have dB : ∀ i v, (#[.string b.name, .int .i64 b.fr, .int .i64 b.to, .slice a21 n21 c21, .slice a22 n22 c22, .slice a23 n23 c23, .int .i64 b.rule] : Array Value)[i]? = some v → wb.cell? ⟨w.heap.size + 1, i, none⟩ = some v := fun i v h => (HX2.out.later ⟨wb, hBb⟩).cell i h; have k0 := dB 0 _ rfl; have k1 := dB 1 _ rfl; have k2 := dB 2 _ rfl; have k3 := dB 3 _ rfl; have k4 := dB 4 _ rfl; have k5 := dB 5 _ rfl; have k6 := dB 6 _ rfl; clear dA dB) | (go_at_call 51; refine (KS.out _ _ _ (by first | exact RA.out _ (Below.refl _ _) | exact RA.out _ hbb) (by first | exact RB.out _ (Below.refl _ _) | exact RB.out _ hba)).mono ?_; rintro e w5 ⟨rfl, h5⟩; have hB5 : Hid (Below W0.heap.size W0 w5) := (by first | exact hBb.trans (h5.mono hBb.size) | exact hBa.trans (h5.mono hBa.size)); clear h5))
    all_goals (go_wp2_with fail; go_meet; exact ⟨rfl, rfl, hB5.out⟩)
  case rest =>
    obtain ⟨rfl, rfl, hb5⟩ := hcut
    obtain ⟨x5, rfl⟩ : ∃ x5 : ctr.Later W0, wc = x5.w := ⟨⟨wc, hb5⟩, rfl⟩
    clear hb5 hx2
    go_wp2_with fail
    refine (KTA.out OA.out _ _ rfl x5.below).mono ?_
    rintro e w6 ⟨o1, rfl, hn, hb⟩
    have RA := ctr.hideP (hn.row OA.out)
    obtain ⟨p1, p2, p3, rfl, ⟨s1, s2, rfl, _⟩, ⟨s3, s4, rfl, _⟩, ⟨s5, s6, rfl, _⟩⟩ := hn
    obtain ⟨x6, rfl⟩ := x5.next hb
    clear hb
    obtain ⟨W7, hW7, u0, u1, u2, u3, u4, u5, u6, hBl7⟩ := ctr.seven_box x6.w (.string a.name) (.int .i64 a.fr) (.int .i64 a.to) (.slice (some ⟨s1, 0, none⟩) a.segs.length a.segs.length) (.slice (some ⟨s3, 0, none⟩) a.pats.length a.pats.length) (.slice (some ⟨s5, 0, none⟩) a.rgns.length a.rgns.length) (.int .i64 a.rule) 36
    have HU : Hid (ctr.Blk W7 x6.w.heap.size #[.string a.name, .int .i64 a.fr, .int .i64 a.to, .slice (some ⟨s1, 0, none⟩) a.segs.length a.segs.length, .slice (some ⟨s3, 0, none⟩) a.pats.length a.pats.length, .slice (some ⟨s5, 0, none⟩) a.rgns.length a.rgns.length, .int .i64 a.rule] 36) := by unfold Hid; rw [hW7]; exact ctr.Blk.new _ _ _
    have B7 : Hid (Below W0.heap.size W0 W7) := x6.on (hBl7 ⟨W7, Below.refl _ _⟩)
    have RA7 : Hid (∀ y, Below W7.heap.size W7 y → ctr.GRow y (.agg #[.string a.name, .int .i64 a.fr, .int .i64 a.to, .slice (some ⟨s1, 0, none⟩) a.segs.length a.segs.length, .slice (some ⟨s3, 0, none⟩) a.pats.length a.pats.length, .slice (some ⟨s5, 0, none⟩) a.rgns.length a.rgns.length, .int .i64 a.rule]) a) := fun y h => RA.out.below (hBl7 ⟨y, h⟩)
    have HW7 := ctr.hideP hW7
    clear hW7 hBl7 RA u0 u1 u2 u3 u4 u5 u6
    have f0' := (HX2.out.later ⟨W7, B7.out⟩).cell 0 rfl
    have f1' := (HX2.out.later ⟨W7, B7.out⟩).cell 1 rfl
    have f2' := (HX2.out.later ⟨W7, B7.out⟩).cell 2 rfl
    have f3' := (HX2.out.later ⟨W7, B7.out⟩).cell 3 rfl
    have f4' := (HX2.out.later ⟨W7, B7.out⟩).cell 4 rfl
    have f5' := (HX2.out.later ⟨W7, B7.out⟩).cell 5 rfl
    have f6' := (HX2.out.later ⟨W7, B7.out⟩).cell 6 rfl
    dsimp only at f0' f1' f2' f3' f4' f5' f6'
    rw [HW7.out] at f0' f1' f2' f3' f4' f5' f6'
    go_wp2_with fail
    rw [← HW7.out]
    refine (KTB.out OB.out _ _ rfl B7.out).mono ?_
    rintro e w8 ⟨o2, rfl, hn, hb⟩
    have RB := ctr.hideP (hn.row OB.out)
    obtain ⟨q1, q2, q3, rfl, ⟨t1, t2, rfl, _⟩, ⟨t3, t4, rfl, _⟩, ⟨t5, t6, rfl, _⟩⟩ := hn
    obtain ⟨x8, rfl⟩ : ∃ x8 : ctr.Later W7, w8 = x8.w := ⟨⟨w8, hb⟩, rfl⟩
    clear hb f0' f1' f2' f3' f4' f5' f6'
    obtain ⟨W9, hW9, v0, v1, v2, v3, v4, v5, v6, hBl9⟩ := ctr.seven_box x8.w (.string b.name) (.int .i64 b.fr) (.int .i64 b.to) (.slice (some ⟨t1, 0, none⟩) b.segs.length b.segs.length) (.slice (some ⟨t3, 0, none⟩) b.pats.length b.pats.length) (.slice (some ⟨t5, 0, none⟩) b.rgns.length b.rgns.length) (.int .i64 b.rule) 36
    have B79 : Hid (Below W7.heap.size W7 W9) := x8.on (hBl9 ⟨W9, Below.refl _ _⟩)
    have B9 : Hid (Below W0.heap.size W0 W9) := B7.out.trans (B79.out.mono B7.out.size)
    have RA9 : Hid (∀ y, Below W9.heap.size W9 y → ctr.GRow y (.agg #[.string a.name, .int .i64 a.fr, .int .i64 a.to, .slice (some ⟨s1, 0, none⟩) a.segs.length a.segs.length, .slice (some ⟨s3, 0, none⟩) a.pats.length a.pats.length, .slice (some ⟨s5, 0, none⟩) a.rgns.length a.rgns.length, .int .i64 a.rule]) a) := fun y h => RA7.out y (B79.out.trans (h.mono B79.out.size))
    have RB9 : Hid (∀ y, Below W9.heap.size W9 y → ctr.GRow y (.agg #[.string b.name, .int .i64 b.fr, .int .i64 b.to, .slice (some ⟨t1, 0, none⟩) b.segs.length b.segs.length, .slice (some ⟨t3, 0, none⟩) b.pats.length b.pats.length, .slice (some ⟨t5, 0, none⟩) b.rgns.length b.rgns.length, .int .i64 b.rule]) b) := fun y h => RB.out.below (hBl9 ⟨y, h⟩)
    have HW9 := ctr.hideP hW9
    clear d0 d1 d2 d3 d4 d5 d6 f0 f1 f2 f3 f4 f5 f6
    have u0 : ∀ x : ctr.Later W9, x.w.cell? ⟨x6.w.heap.size, 0, none⟩ = some (.string a.name) := fun x => (HU.out.below (B79.out.trans (x.below.mono B79.out.size)) HU.out.lt).cell 0 rfl
    have u1 : ∀ x : ctr.Later W9, x.w.cell? ⟨x6.w.heap.size, 1, none⟩ = some (.int .i64 a.fr) := fun x => (HU.out.below (B79.out.trans (x.below.mono B79.out.size)) HU.out.lt).cell 1 rfl
    have u2 : ∀ x : ctr.Later W9, x.w.cell? ⟨x6.w.heap.size, 2, none⟩ = some (.int .i64 a.to) := fun x => (HU.out.below (B79.out.trans (x.below.mono B79.out.size)) HU.out.lt).cell 2 rfl
    have u3 : ∀ x : ctr.Later W9, x.w.cell? ⟨x6.w.heap.size, 3, none⟩ = some (.slice (some ⟨s1, 0, none⟩) a.segs.length a.segs.length) := fun x => (HU.out.below (B79.out.trans (x.below.mono B79.out.size)) HU.out.lt).cell 3 rfl
    have u4 : ∀ x : ctr.Later W9, x.w.cell? ⟨x6.w.heap.size, 4, none⟩ = some (.slice (some ⟨s3, 0, none⟩) a.pats.length a.pats.length) := fun x => (HU.out.below (B79.out.trans (x.below.mono B79.out.size)) HU.out.lt).cell 4 rfl
    have u5 : ∀ x : ctr.Later W9, x.w.cell? ⟨x6.w.heap.size, 5, none⟩ = some (.slice (some ⟨s5, 0, none⟩) a.rgns.length a.rgns.length) := fun x => (HU.out.below (B79.out.trans (x.below.mono B79.out.size)) HU.out.lt).cell 5 rfl
    have u6 : ∀ x : ctr.Later W9, x.w.cell? ⟨x6.w.heap.size, 6, none⟩ = some (.int .i64 a.rule) := fun x => (HU.out.below (B79.out.trans (x.below.mono B79.out.size)) HU.out.lt).cell 6 rfl
    have d0 : ∀ x : ctr.Later W9, x.w.cell? ⟨w.heap.size, 0, none⟩ = some (.string a.name) := fun x => (HX1.out.later ⟨x.w, B9.out.trans (x.below.mono B9.out.size)⟩).cell 0 rfl
    have d1 : ∀ x : ctr.Later W9, x.w.cell? ⟨w.heap.size, 1, none⟩ = some (.int .i64 a.fr) := fun x => (HX1.out.later ⟨x.w, B9.out.trans (x.below.mono B9.out.size)⟩).cell 1 rfl
    have d2 : ∀ x : ctr.Later W9, x.w.cell? ⟨w.heap.size, 2, none⟩ = some (.int .i64 a.to) := fun x => (HX1.out.later ⟨x.w, B9.out.trans (x.below.mono B9.out.size)⟩).cell 2 rfl
    have d3 : ∀ x : ctr.Later W9, x.w.cell? ⟨w.heap.size, 3, none⟩ = some (.slice a11 n11 c11) := fun x => (HX1.out.later ⟨x.w, B9.out.trans (x.below.mono B9.out.size)⟩).cell 3 rfl
    have d4 : ∀ x : ctr.Later W9, x.w.cell? ⟨w.heap.size, 4, none⟩ = some (.slice a12 n12 c12) := fun x => (HX1.out.later ⟨x.w, B9.out.trans (x.below.mono B9.out.size)⟩).cell 4 rfl
    have d5 : ∀ x : ctr.Later W9, x.w.cell? ⟨w.heap.size, 5, none⟩ = some (.slice a13 n13 c13) := fun x => (HX1.out.later ⟨x.w, B9.out.trans (x.below.mono B9.out.size)⟩).cell 5 rfl
    have d6 : ∀ x : ctr.Later W9, x.w.cell? ⟨w.heap.size, 6, none⟩ = some (.int .i64 a.rule) := fun x => (HX1.out.later ⟨x.w, B9.out.trans (x.below.mono B9.out.size)⟩).cell 6 rfl
    have f0 : ∀ x : ctr.Later W9, x.w.cell? ⟨w.heap.size + 1, 0, none⟩ = some (.string b.name) := fun x => (HX2.out.later ⟨x.w, B9.out.trans (x.below.mono B9.out.size)⟩).cell 0 rfl
    have f1 : ∀ x : ctr.Later W9, x.w.cell? ⟨w.heap.size + 1, 1, none⟩ = some (.int .i64 b.fr) := fun x => (HX2.out.later ⟨x.w, B9.out.trans (x.below.mono B9.out.size)⟩).cell 1 rfl
    have f2 : ∀ x : ctr.Later W9, x.w.cell? ⟨w.heap.size + 1, 2, none⟩ = some (.int .i64 b.to) := fun x => (HX2.out.later ⟨x.w, B9.out.trans (x.below.mono B9.out.size)⟩).cell 2 rfl
    have f3 : ∀ x : ctr.Later W9, x.w.cell? ⟨w.heap.size + 1, 3, none⟩ = some (.slice a21 n21 c21) := fun x => (HX2.out.later ⟨x.w, B9.out.trans (x.below.mono B9.out.size)⟩).cell 3 rfl
    have f4 : ∀ x : ctr.Later W9, x.w.cell? ⟨w.heap.size + 1, 4, none⟩ = some (.slice a22 n22 c22) := fun x => (HX2.out.later ⟨x.w, B9.out.trans (x.below.mono B9.out.size)⟩).cell 4 rfl
    have f5 : ∀ x : ctr.Later W9, x.w.cell? ⟨w.heap.size + 1, 5, none⟩ = some (.slice a23 n23 c23) := fun x => (HX2.out.later ⟨x.w, B9.out.trans (x.below.mono B9.out.size)⟩).cell 5 rfl
    have f6 : ∀ x : ctr.Later W9, x.w.cell? ⟨w.heap.size + 1, 6, none⟩ = some (.int .i64 b.rule) := fun x => (HX2.out.later ⟨x.w, B9.out.trans (x.below.mono B9.out.size)⟩).cell 6 rfl
    have u0' := u0 ⟨W9, Below.refl _ _⟩
    have u1' := u1 ⟨W9, Below.refl _ _⟩
    have u2' := u2 ⟨W9, Below.refl _ _⟩
    have u3' := u3 ⟨W9, Below.refl _ _⟩
    have u4' := u4 ⟨W9, Below.refl _ _⟩
    have u5' := u5 ⟨W9, Below.refl _ _⟩
    have u6' := u6 ⟨W9, Below.refl _ _⟩
    dsimp only at u0' u1' u2' u3' u4' u5' u6'
    rw [HW9.out] at u0' u1' u2' u3' u4' u5' u6'
    clear hW9 hBl9 RB RA7
    go_wp2_with fail
    rw [← HW9.out]
    clear u0' u1' u2' u3' u4' u5' u6'
    refine (KI.out _ _ _ (HW.out.trans (B9.out.mono HW.out.size)) (RA9.out _ (Below.refl _ _)) (RB9.out _ (Below.refl _ _))).mono ?_
    rintro e w10 ⟨rfl, hb⟩
    obtain ⟨x10, rfl⟩ := ctr.Later.of hb
    clear hb KI KS
    go_upto_region 14 with fail
    go_cut [52] from 48 to 51 (fun s52 wx => s52 = .bool false ∧ Below W9.heap.size W9 wx)
    case first =>
      go_region_with (first | (go_at_call 17; refine (KTA.out OA.out _ _ rfl (B9.out.trans (x10.below.drew.mono B9.out.size))).mono ?_; rintro e w11 ⟨o3, rfl, hn, hb⟩; obtain ⟨x11, rfl⟩ : ∃ x11 : ctr.Later W9, w11 = x11.w := ⟨⟨w11, x10.below.drew.trans (hb.mono x10.below.drew.size)⟩, rfl⟩; have R11 := ctr.hideP (hn.row OA.out); obtain ⟨p1, p2, p3, rfl, _⟩ := hn; clear hb) | (go_at_call 20; refine (KEA.out _ _ _ (RA9.out _ x11.below) R11.out).mono ?_; rintro e w12 ⟨rfl, hb⟩; obtain ⟨x12, rfl⟩ := x11.next hb; clear hb R11))
      all_goals (go_wp2_with fail; go_meet; exact ⟨rfl, x12.below⟩)
    case rest =>
      obtain ⟨rfl, hb12⟩ := hcut
      obtain ⟨x12, rfl⟩ : ∃ x12 : ctr.Later W9, wc = x12.w := ⟨⟨wc, hb12⟩, rfl⟩
      clear hb12
      go_wp2_with fail
      go_region_with (first | (go_at_call 17; refine (KTB.out OB.out _ _ rfl (B9.out.trans (x12.below.drew.mono B9.out.size))).mono ?_; rintro e w13 ⟨o4, rfl, hn, hb⟩; obtain ⟨x13, rfl⟩ : ∃ x13 : ctr.Later W9, w13 = x13.w := ⟨⟨w13, x12.below.drew.trans (hb.mono x12.below.drew.size)⟩, rfl⟩; have R13 := ctr.hideP (hn.row OB.out); obtain ⟨q1, q2, q3, rfl, _⟩ := hn; clear hb) | (go_at_call 20; refine (KEB.out _ _ _ (RB9.out _ x13.below) R13.out).mono ?_; rintro e w14 ⟨rfl, hb⟩; obtain ⟨x14, rfl⟩ := x13.next hb; clear hb R13))
      all_goals
        go_wp2_with fail
        go_ret
        exact ⟨rfl, HW.out.trans ((B9.out.trans (x14.below.mono B9.out.size)).mono HW.out.size)⟩
end Go.Proofs.YtilpencbbdpgfaaGreatDoor.fnExactMeet
