/- The walk of the law FnExactMarked: at every input it returns true, and nothing that was there turns. -/
import Derived.Test.YtdmlhiailjnhcaaGreatDoorVarsKitV
import Derived.Test.YtdmlhiailjnhcaaGreatDoorMkdSV
import Derived.Test.YtdmlhiailjnhcaaGreatDoorJnVbb
import Derived.Test.YtdmlhiailjnhcaaGreatDoorJnVap
import Derived.Test.YtdmlhiailjnhcaaGreatDoorJnVag
import Derived.Test.YtdmlhiailjnhcaaGreatDoorJnVai
import Derived.Test.YtdmlhiailjnhcaaGreatDoorRgmOpenV
import Derived.WalkKit
import Derived.ProofKit
import Derived.OpenShut
import Derived.ShutString
import Derived.ChangeOld
import Derived.Below
import Derived.Deep.DeepHandedRow
import Derived.Lib.LaidTab
import Derived.Lib.SmallJoins
import Derived.Deep.CutRange
import Derived.LaidHandle
import Derived.LaidLaws
namespace Go.Proofs.YtdmlhiailjnhcaaGreatDoor.fnExactMarked
open Go.ChangeShapes Go.WideShapes Go.ChangeAt Go.RowKit
open Go.ChangeMaps (open_string shut_string)
set_option linter.unusedVariables false
set_option maxHeartbeats 4000000 in
theorem walk (v : Value) (r : ctr.Rgm) (n : Int) (_ : (Lit.int .i64 n).wf = true) (k : Int) (_ : (Lit.int .i64 k).wf = true) (m : Int) (_ : (Lit.int .i64 m).wf = true) (w : World) (h : ctr.GIn w v r) (wf : (Lit.int .i64 r.fr).wf = true) (wt : (Lit.int .i64 r.to).wf = true) (t0 : ctr.ErrT w) (t2 : ∃ q, ctr.Sent w q) (t1 : ctr.Tab w) (t4 : ctr.Pow w) :
    Calls Tryz.prog 4 #[v, .int .i64 n, .int .i64 k, .int .i64 m] w fun e w' => e = .returned (.bool true) ∧ Below w.heap.size w w' := by
  have H := ctr.hideP h
  obtain ⟨a1, n1, c1, a2, n2, c2, a3, n3, c3, ev, _⟩ := h
  obtain ⟨W0, hW0, d0, d1, d2, d3, d4, d5, d6, hBl⟩ := ctr.seven_box w (.string r.name) (.int .i64 r.fr) (.int .i64 r.to) (.slice a1 n1 c1) (.slice a2 n2 c2) (.slice a3 n3 c3) (.int .i64 r.rule) 26
  have HW0 := ctr.hideP hW0
  have HBl := ctr.hideP hBl
  have KZ : Hid (∀ x : ctr.Later W0, Calls Tryz.prog 9 #[v, .int .i64 1048576] x.w fun e w' => ∃ z : Int, e = .returned (.int .i64 z) ∧ (z = -1 ∨ (0 ≤ z ∧ z ≤ 1048576 ∧ ctr.GOk r)) ∧ Below x.w.heap.size x.w w') := fun x => ctr.szRegime v r 1048576 x.w (H.out.below (HBl.out x)) (by omega) (by omega)
  have KT : Hid (ctr.GOk r → ∀ x : ctr.Later W0, Calls Tryz.prog 11 #[v] x.w fun e w' => ∃ o, e = .returned o ∧ ctr.GNew x.w w' o r ∧ Below x.w.heap.size x.w w') := fun ho x => ctr.toRegime v r x.w (H.out.below (HBl.out x)) ho
  have KE : Hid (∀ v1 v2 W, ctr.GRow W v1 r → ctr.GRow W v2 r → Calls Tryz.prog 14 #[v1, v2] W fun e w' => e = .returned (.bool true) ∧ Below W.heap.size W w') := fun v1 v2 W g1 g2 => ctr.eqRegime v1 v2 r W g1 g2
  have bf := (kit.wf_bounds wf).1
  have bt := (kit.wf_bounds wt).2
  obtain ⟨q, t3⟩ := t2
  have KS : Hid (∀ v W, ctr.GRow W v r → Calls Tryz.prog 15 #[v, .int .i64 n, .int .i64 k, .int .i64 m] W fun e w' => e = .returned (.tuple #[ctr.sayV (ctr.mkdS r n k m), .bool (ctr.mkdB r n k m)]) ∧ Below W.heap.size W w') := fun v W g => ctr.specMarked v r n k m W g bf bt
  have KI : Hid (∀ v W, Below w.heap.size w W → ctr.GRow W v r → Calls Tryz.prog 16 #[v, .int .i64 n, .int .i64 k, .int .i64 m] W fun e w' => e = .returned (.tuple #[ctr.sayV (ctr.mkdS r n k m), .bool (ctr.mkdB r n k m)]) ∧ Below W.heap.size W w') := fun v W hb g => ctr.implMarked v r n k m q W g bt (t0.below hb) (t1.later hb) (ctr.pow_later t4 hb) (t3.later hb)
  obtain ⟨⟨⟨rk, rm, rd, ⟨ra, rb, rc, rt⟩, rf, rp⟩, ry, rs, rl⟩, hA⟩ : ∃ A, A = ctr.mkdS r n k m := ⟨_, rfl⟩
  obtain ⟨ok, ex⟩ : ∃ ok, ok = ctr.mkdB r n k m := ⟨_, rfl⟩
  rw [← hA, ← ex] at KS KI
  have KQ : Hid (∀ W, Calls Tryz.prog 17 #[.agg #[.int .i64 rk, .int .i64 rm, .int .i64 rd, .int .i64 ra, .int .i64 rb, .int .i64 rc, .bool rt, .string rf, .int .i64 rp, .int .i64 ry, .int .i64 rs, .int .i64 rl], .agg #[.int .i64 rk, .int .i64 rm, .int .i64 rd, .int .i64 ra, .int .i64 rb, .int .i64 rc, .bool rt, .string rf, .int .i64 rp, .int .i64 ry, .int .i64 rs, .int .i64 rl]] W fun e w' => e = .returned (.bool true) ∧ Below W.heap.size W w') := fun W => ctr.eqSay rk rm rd ra rb rc rt rf rp ry rs rl W
  clear bf bt t0 t1 t3 t4 ex hA
  subst ev
  clear hW0 hBl H
  go_enter Tryz.func4, Tryz.ntmps4
  go_wp2_with fail
  rw [← HW0.out]
  refine (KZ.out ⟨W0, Below.refl _ _⟩).mono ?_
  rintro e w1 ⟨z, rfl, hz, hb⟩
  obtain ⟨x1, rfl⟩ := ctr.Later.of hb
  have HZ := ctr.hideP hz
  clear hb hz
  rcases HZ.out with rfl | ⟨z1, z2, ho⟩
  · go_wp2_with fail
    go_ret
    exact ⟨rfl, HBl.out x1⟩
  have HO := ctr.hideP ho
  clear ho
  go_wp2_with fail
  refine (KT.out HO.out x1).mono ?_
  rintro e w2 ⟨o1, rfl, hn, hb⟩
  obtain ⟨x2, rfl⟩ := x1.next hb
  have R1 := ctr.hideP (hn.row HO.out)
  obtain ⟨p1, p2, p3, rfl, _⟩ := hn
  clear hb
  go_wp2_with fail
  refine (KS.out _ _ R1.out).mono ?_
  rintro e w3 ⟨rfl, hb⟩
  obtain ⟨x3, rfl⟩ := x2.next hb
  clear hb R1
  have A0 : ∀ (y : ctr.Later W0) (ob : Obj), (y.w.alloc ob).cell? ⟨w.heap.size, 0, none⟩ = some (.string r.name) := fun y ob => d0 ⟨y.w.alloc ob, y.below.alloc y.below.size ob⟩
  have A1 : ∀ (y : ctr.Later W0) (ob : Obj), (y.w.alloc ob).cell? ⟨w.heap.size, 1, none⟩ = some (.int .i64 r.fr) := fun y ob => d1 ⟨y.w.alloc ob, y.below.alloc y.below.size ob⟩
  have A2 : ∀ (y : ctr.Later W0) (ob : Obj), (y.w.alloc ob).cell? ⟨w.heap.size, 2, none⟩ = some (.int .i64 r.to) := fun y ob => d2 ⟨y.w.alloc ob, y.below.alloc y.below.size ob⟩
  have A3 : ∀ (y : ctr.Later W0) (ob : Obj), (y.w.alloc ob).cell? ⟨w.heap.size, 3, none⟩ = some (.slice a1 n1 c1) := fun y ob => d3 ⟨y.w.alloc ob, y.below.alloc y.below.size ob⟩
  have A4 : ∀ (y : ctr.Later W0) (ob : Obj), (y.w.alloc ob).cell? ⟨w.heap.size, 4, none⟩ = some (.slice a2 n2 c2) := fun y ob => d4 ⟨y.w.alloc ob, y.below.alloc y.below.size ob⟩
  have A5 : ∀ (y : ctr.Later W0) (ob : Obj), (y.w.alloc ob).cell? ⟨w.heap.size, 5, none⟩ = some (.slice a3 n3 c3) := fun y ob => d5 ⟨y.w.alloc ob, y.below.alloc y.below.size ob⟩
  have A6 : ∀ (y : ctr.Later W0) (ob : Obj), (y.w.alloc ob).cell? ⟨w.heap.size, 6, none⟩ = some (.int .i64 r.rule) := fun y ob => d6 ⟨y.w.alloc ob, y.below.alloc y.below.size ob⟩
  go_wp2_with fail
  obtain ⟨V3, hV3⟩ : ∃ V3, V3 = x3.w.alloc (.cells #[.int .i64 rk, .int .i64 rm, .int .i64 rd, .int .i64 ra, .int .i64 rb, .int .i64 rc, .bool rt, .string rf, .int .i64 rp, .int .i64 ry, .int .i64 rs, .int .i64 rl] 44) := ⟨_, rfl⟩
  obtain ⟨v3, hv3⟩ : ∃ v3 : ctr.Later W0, v3.w = V3 := ⟨⟨V3, by rw [hV3]; exact x3.below.alloc x3.below.size _⟩, rfl⟩
  have HX3 : Hid (∀ y : ctr.Later V3, ctr.Blk y.w x3.w.heap.size #[.int .i64 rk, .int .i64 rm, .int .i64 rd, .int .i64 ra, .int .i64 rb, .int .i64 rc, .bool rt, .string rf, .int .i64 rp, .int .i64 ry, .int .i64 rs, .int .i64 rl] 44) := by unfold Hid; rw [hV3]; exact fun y => (ctr.Blk.new _ _ _).later y
  have HB3 : Hid (Below W0.heap.size W0 V3) := by unfold Hid; rw [← hv3]; exact v3.below
  rw [← hV3, ← hv3]
  clear hV3 A0 A1 A2 A3 A4 A5 A6
  refine (KT.out HO.out v3).mono ?_
  rintro e w4 ⟨o2, rfl, hn, hb⟩
  rw [hv3] at hb hn
  obtain ⟨x4, rfl⟩ := ctr.Later.of hb
  have R2 := ctr.hideP (hn.row HO.out)
  obtain ⟨p1, p2, p3, rfl, ⟨s1, s2, rfl, _⟩, ⟨s3, s4, rfl, _⟩, ⟨s5, s6, rfl, _⟩⟩ := hn
  clear hb
  obtain ⟨W5, hW5, f0, f1, f2, f3, f4, f5, f6, hBl5⟩ := ctr.seven_box x4.w (.string r.name) (.int .i64 r.fr) (.int .i64 r.to) (.slice (some ⟨s1, 0, none⟩) r.segs.length r.segs.length) (.slice (some ⟨s3, 0, none⟩) r.pats.length r.pats.length) (.slice (some ⟨s5, 0, none⟩) r.rgns.length r.rgns.length) (.int .i64 r.rule) 38
  have B35 : Hid (Below V3.heap.size V3 W5) := x4.on (hBl5 ⟨W5, Below.refl _ _⟩)
  have B5 : Below W0.heap.size W0 W5 := HB3.out.trans (B35.out.mono HB3.out.size)
  have HX5 : Hid (∀ y : ctr.Later W5, ctr.Blk y.w x3.w.heap.size #[.int .i64 rk, .int .i64 rm, .int .i64 rd, .int .i64 ra, .int .i64 rb, .int .i64 rc, .bool rt, .string rf, .int .i64 rp, .int .i64 ry, .int .i64 rs, .int .i64 rl] 44) := fun y => HX3.out ⟨y.w, B35.out.trans (y.below.mono B35.out.size)⟩
  have e0 : ∀ x : ctr.Later W5, x.w.cell? ⟨w.heap.size, 0, none⟩ = some (.string r.name) := fun x => d0 ⟨x.w, B5.trans (x.below.mono B5.size)⟩
  have e1 : ∀ x : ctr.Later W5, x.w.cell? ⟨w.heap.size, 1, none⟩ = some (.int .i64 r.fr) := fun x => d1 ⟨x.w, B5.trans (x.below.mono B5.size)⟩
  have e2 : ∀ x : ctr.Later W5, x.w.cell? ⟨w.heap.size, 2, none⟩ = some (.int .i64 r.to) := fun x => d2 ⟨x.w, B5.trans (x.below.mono B5.size)⟩
  have e3 : ∀ x : ctr.Later W5, x.w.cell? ⟨w.heap.size, 3, none⟩ = some (.slice a1 n1 c1) := fun x => d3 ⟨x.w, B5.trans (x.below.mono B5.size)⟩
  have e4 : ∀ x : ctr.Later W5, x.w.cell? ⟨w.heap.size, 4, none⟩ = some (.slice a2 n2 c2) := fun x => d4 ⟨x.w, B5.trans (x.below.mono B5.size)⟩
  have e5 : ∀ x : ctr.Later W5, x.w.cell? ⟨w.heap.size, 5, none⟩ = some (.slice a3 n3 c3) := fun x => d5 ⟨x.w, B5.trans (x.below.mono B5.size)⟩
  have e6 : ∀ x : ctr.Later W5, x.w.cell? ⟨w.heap.size, 6, none⟩ = some (.int .i64 r.rule) := fun x => d6 ⟨x.w, B5.trans (x.below.mono B5.size)⟩
  have HE : Hid (∀ x : ctr.Later W5, ∃ y : ctr.Later W0, y.w = x.w) := fun x => ⟨⟨x.w, B5.trans (x.below.mono B5.size)⟩, rfl⟩
  have R5 : Hid (∀ x : ctr.Later W5, ctr.GRow x.w (.agg #[.string r.name, .int .i64 r.fr, .int .i64 r.to, .slice (some ⟨s1, 0, none⟩) r.segs.length r.segs.length, .slice (some ⟨s3, 0, none⟩) r.pats.length r.pats.length, .slice (some ⟨s5, 0, none⟩) r.rgns.length r.rgns.length, .int .i64 r.rule]) r) := fun x => R2.out.below (hBl5 x)
  have KT5 : Hid (∀ W, Below W5.heap.size W5 W → Calls Tryz.prog 11 #[.agg #[.string r.name, .int .i64 r.fr, .int .i64 r.to, .slice a1 n1 c1, .slice a2 n2 c2, .slice a3 n3 c3, .int .i64 r.rule]] W fun e w' => ∃ o, e = .returned o ∧ ctr.GNew W w' o r ∧ Below W.heap.size W w') := fun W hb => KT.out HO.out ⟨W, B5.trans (hb.mono B5.size)⟩
  have HW5 := ctr.hideP hW5
  have HB5 : Hid (Below w.heap.size w W5) := HBl.out ⟨W5, B5⟩
  clear hW5 hBl5 B5 R2 d0 d1 d2 d3 d4 d5 d6 KZ KS
  go_wp2_with fail
  rw [← HW5.out]
  refine (KI.out _ _ HB5.out (R5.out ⟨W5, Below.refl _ _⟩)).mono ?_
  rintro e w6 ⟨rfl, hb⟩
  obtain ⟨x6, rfl⟩ := ctr.Later.of hb
  clear hb KI
  have g0 : ∀ y : ctr.Later W5, y.w.cell? ⟨x3.w.heap.size, 0, none⟩ = some (.int .i64 rk) := fun y => (HX5.out y).cell 0 rfl
  have g1 : ∀ y : ctr.Later W5, y.w.cell? ⟨x3.w.heap.size, 1, none⟩ = some (.int .i64 rm) := fun y => (HX5.out y).cell 1 rfl
  have g2 : ∀ y : ctr.Later W5, y.w.cell? ⟨x3.w.heap.size, 2, none⟩ = some (.int .i64 rd) := fun y => (HX5.out y).cell 2 rfl
  have g3 : ∀ y : ctr.Later W5, y.w.cell? ⟨x3.w.heap.size, 3, none⟩ = some (.int .i64 ra) := fun y => (HX5.out y).cell 3 rfl
  have g4 : ∀ y : ctr.Later W5, y.w.cell? ⟨x3.w.heap.size, 4, none⟩ = some (.int .i64 rb) := fun y => (HX5.out y).cell 4 rfl
  have g5 : ∀ y : ctr.Later W5, y.w.cell? ⟨x3.w.heap.size, 5, none⟩ = some (.int .i64 rc) := fun y => (HX5.out y).cell 5 rfl
  have g6 : ∀ y : ctr.Later W5, y.w.cell? ⟨x3.w.heap.size, 6, none⟩ = some (.bool rt) := fun y => (HX5.out y).cell 6 rfl
  have g7 : ∀ y : ctr.Later W5, y.w.cell? ⟨x3.w.heap.size, 7, none⟩ = some (.string rf) := fun y => (HX5.out y).cell 7 rfl
  have g8 : ∀ y : ctr.Later W5, y.w.cell? ⟨x3.w.heap.size, 8, none⟩ = some (.int .i64 rp) := fun y => (HX5.out y).cell 8 rfl
  have g9 : ∀ y : ctr.Later W5, y.w.cell? ⟨x3.w.heap.size, 9, none⟩ = some (.int .i64 ry) := fun y => (HX5.out y).cell 9 rfl
  have g10 : ∀ y : ctr.Later W5, y.w.cell? ⟨x3.w.heap.size, 10, none⟩ = some (.int .i64 rs) := fun y => (HX5.out y).cell 10 rfl
  have g11 : ∀ y : ctr.Later W5, y.w.cell? ⟨x3.w.heap.size, 11, none⟩ = some (.int .i64 rl) := fun y => (HX5.out y).cell 11 rfl
  have G0 : ∀ (y : ctr.Later W5) (ob : Obj), (y.w.alloc ob).cell? ⟨x3.w.heap.size, 0, none⟩ = some (.int .i64 rk) := fun y ob => g0 ⟨y.w.alloc ob, y.below.alloc y.below.size ob⟩
  have G1 : ∀ (y : ctr.Later W5) (ob : Obj), (y.w.alloc ob).cell? ⟨x3.w.heap.size, 1, none⟩ = some (.int .i64 rm) := fun y ob => g1 ⟨y.w.alloc ob, y.below.alloc y.below.size ob⟩
  have G2 : ∀ (y : ctr.Later W5) (ob : Obj), (y.w.alloc ob).cell? ⟨x3.w.heap.size, 2, none⟩ = some (.int .i64 rd) := fun y ob => g2 ⟨y.w.alloc ob, y.below.alloc y.below.size ob⟩
  have G3 : ∀ (y : ctr.Later W5) (ob : Obj), (y.w.alloc ob).cell? ⟨x3.w.heap.size, 3, none⟩ = some (.int .i64 ra) := fun y ob => g3 ⟨y.w.alloc ob, y.below.alloc y.below.size ob⟩
  have G4 : ∀ (y : ctr.Later W5) (ob : Obj), (y.w.alloc ob).cell? ⟨x3.w.heap.size, 4, none⟩ = some (.int .i64 rb) := fun y ob => g4 ⟨y.w.alloc ob, y.below.alloc y.below.size ob⟩
  have G5 : ∀ (y : ctr.Later W5) (ob : Obj), (y.w.alloc ob).cell? ⟨x3.w.heap.size, 5, none⟩ = some (.int .i64 rc) := fun y ob => g5 ⟨y.w.alloc ob, y.below.alloc y.below.size ob⟩
  have G6 : ∀ (y : ctr.Later W5) (ob : Obj), (y.w.alloc ob).cell? ⟨x3.w.heap.size, 6, none⟩ = some (.bool rt) := fun y ob => g6 ⟨y.w.alloc ob, y.below.alloc y.below.size ob⟩
  have G7 : ∀ (y : ctr.Later W5) (ob : Obj), (y.w.alloc ob).cell? ⟨x3.w.heap.size, 7, none⟩ = some (.string rf) := fun y ob => g7 ⟨y.w.alloc ob, y.below.alloc y.below.size ob⟩
  have G8 : ∀ (y : ctr.Later W5) (ob : Obj), (y.w.alloc ob).cell? ⟨x3.w.heap.size, 8, none⟩ = some (.int .i64 rp) := fun y ob => g8 ⟨y.w.alloc ob, y.below.alloc y.below.size ob⟩
  have G9 : ∀ (y : ctr.Later W5) (ob : Obj), (y.w.alloc ob).cell? ⟨x3.w.heap.size, 9, none⟩ = some (.int .i64 ry) := fun y ob => g9 ⟨y.w.alloc ob, y.below.alloc y.below.size ob⟩
  have G10 : ∀ (y : ctr.Later W5) (ob : Obj), (y.w.alloc ob).cell? ⟨x3.w.heap.size, 10, none⟩ = some (.int .i64 rs) := fun y ob => g10 ⟨y.w.alloc ob, y.below.alloc y.below.size ob⟩
  have G11 : ∀ (y : ctr.Later W5) (ob : Obj), (y.w.alloc ob).cell? ⟨x3.w.heap.size, 11, none⟩ = some (.int .i64 rl) := fun y ob => g11 ⟨y.w.alloc ob, y.below.alloc y.below.size ob⟩
  go_wp2_with fail
  obtain ⟨W6, e6'⟩ : ∃ W6, W6 = x6.w.alloc (.cells #[.int .i64 rk, .int .i64 rm, .int .i64 rd, .int .i64 ra, .int .i64 rb, .int .i64 rc, .bool rt, .string rf, .int .i64 rp, .int .i64 ry, .int .i64 rs, .int .i64 rl] 44) := ⟨_, rfl⟩
  have B6 : Hid (Below W5.heap.size W5 W6) := by unfold Hid; rw [e6']; exact x6.below.alloc x6.below.size _
  rw [← e6']
  refine (KQ.out W6).mono ?_
  rintro e w7 ⟨rfl, hb⟩
  obtain ⟨x9, rfl⟩ : ∃ x9 : ctr.Later W5, w7 = x9.w := ⟨⟨w7, B6.out.trans (hb.mono B6.out.size)⟩, rfl⟩
  clear hb e6' g0 g1 g2 g3 g4 g5 g6 g7 g8 g9 g10 g11 G0 G1 G2 G3 G4 G5 G6 G7 G8 G9 G10 G11
  cases ok
  all_goals
    go_wp2_with fail
    go_region_with (first | (go_at_call 11; refine (KT5.out _ x9.below.drew).mono ?_; rintro e w7 ⟨o3, rfl, hn, hb⟩; obtain ⟨x7, rfl⟩ : ∃ x7 : ctr.Later W5, w7 = x7.w := ⟨⟨w7, x9.below.drew.trans (hb.mono x9.below.drew.size)⟩, rfl⟩; have R7 := ctr.hideP (hn.row HO.out); obtain ⟨p1, p2, p3, rfl, _⟩ := hn; clear hb) | (go_at_call 14; refine (KE.out _ _ _ (R5.out x7) R7.out).mono ?_; rintro e w8 ⟨rfl, hb⟩; obtain ⟨x8, rfl⟩ := x7.next hb; clear hb))
    all_goals go_wp2_with fail
    all_goals go_ret
    all_goals (obtain ⟨y, hy⟩ := HE.out x8; exact ⟨rfl, hy ▸ HBl.out y⟩)
end Go.Proofs.YtdmlhiailjnhcaaGreatDoor.fnExactMarked
