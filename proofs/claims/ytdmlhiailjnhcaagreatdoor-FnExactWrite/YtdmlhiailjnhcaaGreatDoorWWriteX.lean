/- The walk of the law FnExactWrite: at every input it returns true, and nothing that was there turns. -/
import Derived.Test.YtdmlhiailjnhcaaGreatDoorJnXab
import Derived.Test.YtdmlhiailjnhcaaGreatDoorJnXbt
import Derived.Test.YtdmlhiailjnhcaaGreatDoorJnXao
import Derived.Test.YtdmlhiailjnhcaaGreatDoorJnXag
import Derived.Test.YtdmlhiailjnhcaaGreatDoorJnXad
import Derived.Test.YtdmlhiailjnhcaaGreatDoorRgmOpenX
import Derived.WalkKit
import Derived.ProofKit
import Derived.OpenShut
import Derived.ShutString
import Derived.ChangeOld
import Derived.Below
import Derived.Deep.DeepHandedRow
import Derived.Lib.LaidTab
import Derived.Lib.SmallJoins
import Derived.Deep.CutRange
import Derived.LaidHandle
import Derived.LaidLaws
namespace Go.Proofs.YtdmlhiailjnhcaaGreatDoor.fnExactWrite
open Go.ChangeShapes Go.WideShapes Go.ChangeAt Go.RowKit
open Go.ChangeMaps (open_string shut_string)
set_option linter.unusedVariables false
set_option maxHeartbeats 4000000 in
theorem walk (v : Value) (r : ctr.Rgm) (n : Int) (_ : (Lit.int .i64 n).wf = true) (k : Int) (_ : (Lit.int .i64 k).wf = true) (w : World) (h : ctr.GIn w v r) (wf : (Lit.int .i64 r.fr).wf = true) (wt : (Lit.int .i64 r.to).wf = true) (t0 : ctr.ErrT w) (t2 : ∃ q, ctr.Sent w q) (t1 : ctr.Tab w) (t4 : ctr.Pow w) (t5 : ctr.Mon w) (t6 : ctr.Mrk w) (t7 : ctr.Shp w) :
    Calls Tryz.prog 6 #[v, .int .i64 n, .int .i64 k] w fun e w' => e = .returned (.bool true) ∧ Below w.heap.size w w' := by
  have H := ctr.hideP h
  obtain ⟨a1, n1, c1, a2, n2, c2, a3, n3, c3, ev, _⟩ := h
  obtain ⟨W0, hW0, d0, d1, d2, d3, d4, d5, d6, hBl⟩ := ctr.seven_box w (.string r.name) (.int .i64 r.fr) (.int .i64 r.to) (.slice a1 n1 c1) (.slice a2 n2 c2) (.slice a3 n3 c3) (.int .i64 r.rule) 26
  have HW0 := ctr.hideP hW0
  have HBl := ctr.hideP hBl
  have KZ : Hid (∀ x : ctr.Later W0, Calls Tryz.prog 9 #[v, .int .i64 1048576] x.w fun e w' => ∃ z : Int, e = .returned (.int .i64 z) ∧ (z = -1 ∨ (0 ≤ z ∧ z ≤ 1048576 ∧ ctr.GOk r)) ∧ Below x.w.heap.size x.w w') := fun x => ctr.szRegime v r 1048576 x.w (H.out.below (HBl.out x)) (by omega) (by omega)
  have KT : Hid (ctr.GOk r → ∀ x : ctr.Later W0, Calls Tryz.prog 11 #[v] x.w fun e w' => ∃ o, e = .returned o ∧ ctr.GNew x.w w' o r ∧ Below x.w.heap.size x.w w') := fun ho x => ctr.toRegime v r x.w (H.out.below (HBl.out x)) ho
  have KE : Hid (∀ v1 v2 W, ctr.GRow W v1 r → ctr.GRow W v2 r → Calls Tryz.prog 14 #[v1, v2] W fun e w' => e = .returned (.bool true) ∧ Below W.heap.size W w') := fun v1 v2 W g1 g2 => ctr.eqRegime v1 v2 r W g1 g2
  have bf := (kit.wf_bounds wf).1
  have bt := (kit.wf_bounds wt).2
  obtain ⟨q, t3⟩ := t2
  have KS : Hid (∀ v W, ctr.GRow W v r → Calls Tryz.prog 20 #[v, .int .i64 n, .int .i64 k] W fun e w' => e = .returned (.string (ctr.wrtS r n k)) ∧ Below W.heap.size W w') := fun v W g => ctr.specWrite v r n k W g bf bt
  have KI : Hid (∀ v W, Below w.heap.size w W → ctr.GRow W v r → Calls Tryz.prog 21 #[v, .int .i64 n, .int .i64 k] W fun e w' => e = .returned (.string (ctr.wrtS r n k)) ∧ Below W.heap.size W w') := fun v W hb g => ctr.implWrite v r n k q W g bt (t0.below hb) (t1.later hb) (ctr.pow_later t4 hb) (t3.later hb) (t7.later hb) (t6.later hb) (t5.later hb) (ctr.pow_later t4 hb)
  generalize ctr.wrtS r n k = mm at *
  clear bf bt t0 t1 t3 t4 t5 t6 t7
  subst ev
  clear hW0 hBl H
  go_enter Tryz.func6, Tryz.ntmps6
  go_wp2_with fail
  rw [← HW0.out]
  refine (KZ.out ⟨W0, Below.refl _ _⟩).mono ?_
  rintro e w1 ⟨z, rfl, hz, hb⟩
  obtain ⟨x1, rfl⟩ := ctr.Later.of hb
  have HZ := ctr.hideP hz
  clear hb hz
  rcases HZ.out with rfl | ⟨z1, z2, ho⟩
  · go_wp2_with fail
    go_ret
    exact ⟨rfl, HBl.out x1⟩
  have HO := ctr.hideP ho
  clear ho
  go_wp2_with fail
  refine (KT.out HO.out x1).mono ?_
  rintro e w2 ⟨o1, rfl, hn, hb⟩
  obtain ⟨x2, rfl⟩ := x1.next hb
  have R1 := ctr.hideP (hn.row HO.out)
  obtain ⟨p1, p2, p3, rfl, _⟩ := hn
  clear hb
  go_wp2_with fail
  refine (KS.out _ _ R1.out).mono ?_
  rintro e w3 ⟨rfl, hb⟩
  obtain ⟨x3, rfl⟩ := x2.next hb
  clear hb R1
  go_wp2_with fail
  refine (KT.out HO.out x3).mono ?_
  rintro e w4 ⟨o2, rfl, hn, hb⟩
  obtain ⟨x4, rfl⟩ := x3.next hb
  have R2 := ctr.hideP (hn.row HO.out)
  obtain ⟨p1, p2, p3, rfl, ⟨s1, s2, rfl, _⟩, ⟨s3, s4, rfl, _⟩, ⟨s5, s6, rfl, _⟩⟩ := hn
  clear hb
  obtain ⟨W5, hW5, f0, f1, f2, f3, f4, f5, f6, hBl5⟩ := ctr.seven_box x4.w (.string r.name) (.int .i64 r.fr) (.int .i64 r.to) (.slice (some ⟨s1, 0, none⟩) r.segs.length r.segs.length) (.slice (some ⟨s3, 0, none⟩) r.pats.length r.pats.length) (.slice (some ⟨s5, 0, none⟩) r.rgns.length r.rgns.length) (.int .i64 r.rule) 38
  have B5 : Below W0.heap.size W0 W5 := x4.on (hBl5 ⟨W5, Below.refl _ _⟩)
  have e0 : ∀ x : ctr.Later W5, x.w.cell? ⟨w.heap.size, 0, none⟩ = some (.string r.name) := fun x => d0 ⟨x.w, B5.trans (x.below.mono B5.size)⟩
  have e1 : ∀ x : ctr.Later W5, x.w.cell? ⟨w.heap.size, 1, none⟩ = some (.int .i64 r.fr) := fun x => d1 ⟨x.w, B5.trans (x.below.mono B5.size)⟩
  have e2 : ∀ x : ctr.Later W5, x.w.cell? ⟨w.heap.size, 2, none⟩ = some (.int .i64 r.to) := fun x => d2 ⟨x.w, B5.trans (x.below.mono B5.size)⟩
  have e3 : ∀ x : ctr.Later W5, x.w.cell? ⟨w.heap.size, 3, none⟩ = some (.slice a1 n1 c1) := fun x => d3 ⟨x.w, B5.trans (x.below.mono B5.size)⟩
  have e4 : ∀ x : ctr.Later W5, x.w.cell? ⟨w.heap.size, 4, none⟩ = some (.slice a2 n2 c2) := fun x => d4 ⟨x.w, B5.trans (x.below.mono B5.size)⟩
  have e5 : ∀ x : ctr.Later W5, x.w.cell? ⟨w.heap.size, 5, none⟩ = some (.slice a3 n3 c3) := fun x => d5 ⟨x.w, B5.trans (x.below.mono B5.size)⟩
  have e6 : ∀ x : ctr.Later W5, x.w.cell? ⟨w.heap.size, 6, none⟩ = some (.int .i64 r.rule) := fun x => d6 ⟨x.w, B5.trans (x.below.mono B5.size)⟩
  have HE : Hid (∀ x : ctr.Later W5, ∃ y : ctr.Later W0, y.w = x.w) := fun x => ⟨⟨x.w, B5.trans (x.below.mono B5.size)⟩, rfl⟩
  have R5 : Hid (∀ x : ctr.Later W5, ctr.GRow x.w (.agg #[.string r.name, .int .i64 r.fr, .int .i64 r.to, .slice (some ⟨s1, 0, none⟩) r.segs.length r.segs.length, .slice (some ⟨s3, 0, none⟩) r.pats.length r.pats.length, .slice (some ⟨s5, 0, none⟩) r.rgns.length r.rgns.length, .int .i64 r.rule]) r) := fun x => R2.out.below (hBl5 x)
  have KT5 : Hid (∀ W, Below W5.heap.size W5 W → Calls Tryz.prog 11 #[.agg #[.string r.name, .int .i64 r.fr, .int .i64 r.to, .slice a1 n1 c1, .slice a2 n2 c2, .slice a3 n3 c3, .int .i64 r.rule]] W fun e w' => ∃ o, e = .returned o ∧ ctr.GNew W w' o r ∧ Below W.heap.size W w') := fun W hb => KT.out HO.out ⟨W, B5.trans (hb.mono B5.size)⟩
  have HW5 := ctr.hideP hW5
  have HB5 : Hid (Below w.heap.size w W5) := HBl.out ⟨W5, B5⟩
  clear hW5 hBl5 B5 R2 d0 d1 d2 d3 d4 d5 d6 KZ KS
  go_wp2_with fail
  rw [← HW5.out]
  refine (KI.out _ _ HB5.out (R5.out ⟨W5, Below.refl _ _⟩)).mono ?_
  rintro e w6 ⟨rfl, hb⟩
  obtain ⟨x6, rfl⟩ := ctr.Later.of hb
  clear hb KI
  go_wp2_with fail
  go_region_with (first | (go_at_call 11; refine (KT5.out _ x6.below.drew).mono ?_; rintro e w7 ⟨o3, rfl, hn, hb⟩; obtain ⟨x7, rfl⟩ : ∃ x7 : ctr.Later W5, w7 = x7.w := ⟨⟨w7, x6.below.drew.trans (hb.mono x6.below.drew.size)⟩, rfl⟩; have R7 := ctr.hideP (hn.row HO.out); obtain ⟨p1, p2, p3, rfl, _⟩ := hn; clear hb) | (go_at_call 14; refine (KE.out _ _ _ (R5.out x7) R7.out).mono ?_; rintro e w8 ⟨rfl, hb⟩; obtain ⟨x8, rfl⟩ := x7.next hb; clear hb))
  all_goals go_wp2_with fail
  all_goals go_ret
  all_goals (obtain ⟨y, hy⟩ := HE.out x8; exact ⟨rfl, hy ▸ HBl.out y⟩)
end Go.Proofs.YtdmlhiailjnhcaaGreatDoor.fnExactWrite
