/- The walk of the law FnExactMeans: at every input it returns true, and nothing that was there turns. -/
import Derived.Test.YtjojgfdfbkmlkaaGreatDoorJnMaa
import Derived.Test.YtjojgfdfbkmlkaaGreatDoorJnMbn
import Derived.Test.YtjojgfdfbkmlkaaGreatDoorJnMbo
import Derived.Test.YtjojgfdfbkmlkaaGreatDoorRgmOpenM
import Derived.WalkKit
import Derived.ProofKit
import Derived.OpenShut
import Derived.ShutString
import Derived.ChangeOld
import Derived.Below
import Derived.Deep.DeepHandedRow
import Derived.Lib.LaidTab
import Derived.Lib.SmallJoins
import Derived.Deep.CutRange
import Derived.LaidHandle
import Derived.LaidLaws
namespace Go.Proofs.YtjojgfdfbkmlkaaGreatDoor.fnExactMeans
open Go.ChangeShapes Go.WideShapes Go.ChangeAt Go.RowKit
open Go.ChangeMaps (open_string shut_string)
set_option linter.unusedVariables false
set_option maxRecDepth 100000 in
set_option maxHeartbeats 8000000 in
theorem walk (v : Value) (r : ctr.Rgm) (k m d a b c : Int) (t : Bool) (s : ByteArray) (p y so ca : Int) (hs : s.size ≤ maxLen) (n : Int) (_ : (Lit.int .i64 n).wf = true) (w : World) (h : ctr.GIn w v r) (wf : (Lit.int .i64 r.fr).wf = true) (wt : (Lit.int .i64 r.to).wf = true) (t0 : ctr.ErrT w) (t1 : ctr.Tab w) (t2 : ∃ q, ctr.Sent w q) :
    Calls Tryz.prog 5 #[v, .agg #[.int .i64 k, .int .i64 m, .int .i64 d, .int .i64 a, .int .i64 b, .int .i64 c, .bool t, .string s, .int .i64 p, .int .i64 y, .int .i64 so, .int .i64 ca], .int .i64 n] w fun e w' => e = .returned (.bool true) ∧ Below w.heap.size w w' := by
  have H := ctr.hideP h
  obtain ⟨a1, n1, c1, a2, n2, c2, a3, n3, c3, ev, _⟩ := h
  subst ev
  obtain ⟨W0, hW0, hD, hR, hBl⟩ := ctr.two_box w #[.string r.name, .int .i64 r.fr, .int .i64 r.to, .slice a1 n1 c1, .slice a2 n2 c2, .slice a3 n3 c3, .int .i64 r.rule] #[.int .i64 k, .int .i64 m, .int .i64 d, .int .i64 a, .int .i64 b, .int .i64 c, .bool t, .string s, .int .i64 p, .int .i64 y, .int .i64 so, .int .i64 ca] 26 52
  have d0_ : ∀ x : ctr.Later W0, x.w.cell? ⟨w.heap.size, 0, none⟩ = some (.string r.name) := fun x => (hD x).cell 0 rfl
  have d1_ : ∀ x : ctr.Later W0, x.w.cell? ⟨w.heap.size, 1, none⟩ = some (.int .i64 r.fr) := fun x => (hD x).cell 1 rfl
  have d2_ : ∀ x : ctr.Later W0, x.w.cell? ⟨w.heap.size, 2, none⟩ = some (.int .i64 r.to) := fun x => (hD x).cell 2 rfl
  have d3_ : ∀ x : ctr.Later W0, x.w.cell? ⟨w.heap.size, 3, none⟩ = some (.slice a1 n1 c1) := fun x => (hD x).cell 3 rfl
  have d4_ : ∀ x : ctr.Later W0, x.w.cell? ⟨w.heap.size, 4, none⟩ = some (.slice a2 n2 c2) := fun x => (hD x).cell 4 rfl
  have d5_ : ∀ x : ctr.Later W0, x.w.cell? ⟨w.heap.size, 5, none⟩ = some (.slice a3 n3 c3) := fun x => (hD x).cell 5 rfl
  have d6_ : ∀ x : ctr.Later W0, x.w.cell? ⟨w.heap.size, 6, none⟩ = some (.int .i64 r.rule) := fun x => (hD x).cell 6 rfl
  have q0_ : ∀ x : ctr.Later W0, x.w.cell? ⟨w.heap.size + 1, 0, none⟩ = some (.int .i64 k) := fun x => (hR x).cell 0 rfl
  have q1_ : ∀ x : ctr.Later W0, x.w.cell? ⟨w.heap.size + 1, 1, none⟩ = some (.int .i64 m) := fun x => (hR x).cell 1 rfl
  have q2_ : ∀ x : ctr.Later W0, x.w.cell? ⟨w.heap.size + 1, 2, none⟩ = some (.int .i64 d) := fun x => (hR x).cell 2 rfl
  have q3_ : ∀ x : ctr.Later W0, x.w.cell? ⟨w.heap.size + 1, 3, none⟩ = some (.int .i64 a) := fun x => (hR x).cell 3 rfl
  have q4_ : ∀ x : ctr.Later W0, x.w.cell? ⟨w.heap.size + 1, 4, none⟩ = some (.int .i64 b) := fun x => (hR x).cell 4 rfl
  have q5_ : ∀ x : ctr.Later W0, x.w.cell? ⟨w.heap.size + 1, 5, none⟩ = some (.int .i64 c) := fun x => (hR x).cell 5 rfl
  have q6_ : ∀ x : ctr.Later W0, x.w.cell? ⟨w.heap.size + 1, 6, none⟩ = some (.bool t) := fun x => (hR x).cell 6 rfl
  have q7_ : ∀ x : ctr.Later W0, x.w.cell? ⟨w.heap.size + 1, 7, none⟩ = some (.string s) := fun x => (hR x).cell 7 rfl
  have q8_ : ∀ x : ctr.Later W0, x.w.cell? ⟨w.heap.size + 1, 8, none⟩ = some (.int .i64 p) := fun x => (hR x).cell 8 rfl
  have q9_ : ∀ x : ctr.Later W0, x.w.cell? ⟨w.heap.size + 1, 9, none⟩ = some (.int .i64 y) := fun x => (hR x).cell 9 rfl
  have q10_ : ∀ x : ctr.Later W0, x.w.cell? ⟨w.heap.size + 1, 10, none⟩ = some (.int .i64 so) := fun x => (hR x).cell 10 rfl
  have q11_ : ∀ x : ctr.Later W0, x.w.cell? ⟨w.heap.size + 1, 11, none⟩ = some (.int .i64 ca) := fun x => (hR x).cell 11 rfl
  have HW0 := ctr.hideP hW0
  have HBl := ctr.hideP hBl
  have KZ : Hid (∀ x : ctr.Later W0, Calls Tryz.prog 15 #[.agg #[.string r.name, .int .i64 r.fr, .int .i64 r.to, .slice a1 n1 c1, .slice a2 n2 c2, .slice a3 n3 c3, .int .i64 r.rule], .int .i64 1048576] x.w fun e w' => ∃ z : Int, e = .returned (.int .i64 z) ∧ (z = -1 ∨ (0 ≤ z ∧ z ≤ 1048576 ∧ ctr.GOk r)) ∧ Below x.w.heap.size x.w w') := fun x => ctr.szRegime _ r 1048576 x.w (H.out.below (HBl.out x)) (by omega) (by omega)
  have KY : Hid (∀ (z : Int) W, 0 ≤ z → z ≤ 1048576 → Calls Tryz.prog 27 #[.agg #[.int .i64 k, .int .i64 m, .int .i64 d, .int .i64 a, .int .i64 b, .int .i64 c, .bool t, .string s, .int .i64 p, .int .i64 y, .int .i64 so, .int .i64 ca], .int .i64 z] W fun e w' => e = .returned (.int .i64 (if z < s.size then -1 else z - s.size)) ∧ Below W.heap.size W w') := fun z W z1 z2 => ctr.szSay k m d a b c t s p y so ca z W hs z1 z2
  have KT : Hid (ctr.GOk r → ∀ x : ctr.Later W0, Calls Tryz.prog 17 #[.agg #[.string r.name, .int .i64 r.fr, .int .i64 r.to, .slice a1 n1 c1, .slice a2 n2 c2, .slice a3 n3 c3, .int .i64 r.rule]] x.w fun e w' => ∃ o, e = .returned o ∧ ctr.GNew x.w w' o r ∧ Below x.w.heap.size x.w w') := fun ho x => ctr.toRegime _ r x.w (H.out.below (HBl.out x)) ho
  have KU : Hid (∀ W, Calls Tryz.prog 29 #[.agg #[.int .i64 k, .int .i64 m, .int .i64 d, .int .i64 a, .int .i64 b, .int .i64 c, .bool t, .string s, .int .i64 p, .int .i64 y, .int .i64 so, .int .i64 ca]] W fun e w' => e = .returned (.agg #[.int .i64 k, .int .i64 m, .int .i64 d, .int .i64 a, .int .i64 b, .int .i64 c, .bool t, .string s, .int .i64 p, .int .i64 y, .int .i64 so, .int .i64 ca]) ∧ Below W.heap.size W w') := fun W => ctr.toSay k m d a b c t s p y so ca W
  have KE : Hid (∀ v1 v2 W, ctr.GRow W v1 r → ctr.GRow W v2 r → Calls Tryz.prog 21 #[v1, v2] W fun e w' => e = .returned (.bool true) ∧ Below W.heap.size W w') := fun v1 v2 W g1 g2 => ctr.eqRegime v1 v2 r W g1 g2
  have bf := (kit.wf_bounds wf).1
  have bt := (kit.wf_bounds wt).2
  obtain ⟨q, t3⟩ := t2
  have KS : Hid (∀ v W, ctr.GRow W v r → Calls Tryz.prog 28 #[v, .agg #[.int .i64 k, .int .i64 m, .int .i64 d, .int .i64 a, .int .i64 b, .int .i64 c, .bool t, .string s, .int .i64 p, .int .i64 y, .int .i64 so, .int .i64 ca], .int .i64 n] W fun e w' => e = .returned (.bool (ctr.meansB r ⟨⟨k, m, d, ⟨a, b, c, t⟩, s, p⟩, y, so, ca⟩ n)) ∧ Below W.heap.size W w') := fun v W g => ctr.specMeans v r ⟨⟨k, m, d, ⟨a, b, c, t⟩, s, p⟩, y, so, ca⟩ n W g bf bt
  have KI : Hid (∀ v W, Below w.heap.size w W → ctr.GRow W v r → Calls Tryz.prog 30 #[v, .agg #[.int .i64 k, .int .i64 m, .int .i64 d, .int .i64 a, .int .i64 b, .int .i64 c, .bool t, .string s, .int .i64 p, .int .i64 y, .int .i64 so, .int .i64 ca], .int .i64 n] W fun e w' => e = .returned (.bool (ctr.meansB r ⟨⟨k, m, d, ⟨a, b, c, t⟩, s, p⟩, y, so, ca⟩ n)) ∧ Below W.heap.size W w') := fun v W hb g => ctr.implMeans v r ⟨⟨k, m, d, ⟨a, b, c, t⟩, s, p⟩, y, so, ca⟩ n q W g bt (t0.below hb) (t1.later hb) (t3.later hb)
  generalize ctr.meansB r ⟨⟨k, m, d, ⟨a, b, c, t⟩, s, p⟩, y, so, ca⟩ n = ok at *
  clear bf bt t0 t1 t3 hs
  clear hW0 hBl H hD hR
  go_enter Tryz.func5, Tryz.ntmps5
  go_wp2_with fail
  rw [← HW0.out]
  refine (KZ.out ⟨W0, Below.refl _ _⟩).mono ?_
  rintro e w1 ⟨z, rfl, hz, hb⟩
  obtain ⟨x1, rfl⟩ := ctr.Later.of hb
  have HZ := ctr.hideP hz
  clear hb hz
  rcases HZ.out with rfl | ⟨z1, z2, ho⟩
  · go_wp2_with fail
    go_ret
    exact ⟨rfl, HBl.out x1⟩
  have HO := ctr.hideP ho
  have KY1 := KY.out z x1.w z1 z2
  have hz2 : (if z < (s.size : Int) then -1 else z - (s.size : Int)) = -1 ∨ 0 ≤ (if z < (s.size : Int) then -1 else z - (s.size : Int)) := by split <;> omega
  generalize (if z < (s.size : Int) then -1 else z - (s.size : Int)) = zz at *
  clear ho KZ KY
  have hz1 : (z < 0) = False := eq_false (by omega)
  go_wp2_with fail
  refine KY1.mono ?_
  rintro e w2 ⟨rfl, hb⟩
  obtain ⟨x2, rfl⟩ := x1.next hb
  clear hb KY1 HZ z1 z2 hz1
  rcases hz2 with rfl | hz2
  · go_wp2_with fail
    go_ret
    exact ⟨rfl, HBl.out x2⟩
  go_upto_region 8 with fail
  go_cut [8] (fun s8 wx => s8 = .bool ok ∧ ∃ x : ctr.Later W0, wx = x.w)
  case first =>
    have D2 : Below W0.heap.size W0 x2.w.drew := x2.below.drew
    have KCE : Hid (∀ V, Below W0.heap.size W0 V → V.cell? ⟨w.heap.size, 0, none⟩ = some (.string r.name) ∧ V.cell? ⟨w.heap.size, 1, none⟩ = some (.int .i64 r.fr) ∧ V.cell? ⟨w.heap.size, 2, none⟩ = some (.int .i64 r.to) ∧ V.cell? ⟨w.heap.size, 3, none⟩ = some (.slice a1 n1 c1) ∧ V.cell? ⟨w.heap.size, 4, none⟩ = some (.slice a2 n2 c2) ∧ V.cell? ⟨w.heap.size, 5, none⟩ = some (.slice a3 n3 c3) ∧ V.cell? ⟨w.heap.size, 6, none⟩ = some (.int .i64 r.rule) ∧ V.cell? ⟨w.heap.size + 1, 0, none⟩ = some (.int .i64 k) ∧ V.cell? ⟨w.heap.size + 1, 1, none⟩ = some (.int .i64 m) ∧ V.cell? ⟨w.heap.size + 1, 2, none⟩ = some (.int .i64 d) ∧ V.cell? ⟨w.heap.size + 1, 3, none⟩ = some (.int .i64 a) ∧ V.cell? ⟨w.heap.size + 1, 4, none⟩ = some (.int .i64 b) ∧ V.cell? ⟨w.heap.size + 1, 5, none⟩ = some (.int .i64 c) ∧ V.cell? ⟨w.heap.size + 1, 6, none⟩ = some (.bool t) ∧ V.cell? ⟨w.heap.size + 1, 7, none⟩ = some (.string s) ∧ V.cell? ⟨w.heap.size + 1, 8, none⟩ = some (.int .i64 p) ∧ V.cell? ⟨w.heap.size + 1, 9, none⟩ = some (.int .i64 y) ∧ V.cell? ⟨w.heap.size + 1, 10, none⟩ = some (.int .i64 so) ∧ V.cell? ⟨w.heap.size + 1, 11, none⟩ = some (.int .i64 ca)) := fun V hb => ⟨d0_ ⟨V, hb⟩, d1_ ⟨V, hb⟩, d2_ ⟨V, hb⟩, d3_ ⟨V, hb⟩, d4_ ⟨V, hb⟩, d5_ ⟨V, hb⟩, d6_ ⟨V, hb⟩, q0_ ⟨V, hb⟩, q1_ ⟨V, hb⟩, q2_ ⟨V, hb⟩, q3_ ⟨V, hb⟩, q4_ ⟨V, hb⟩, q5_ ⟨V, hb⟩, q6_ ⟨V, hb⟩, q7_ ⟨V, hb⟩, q8_ ⟨V, hb⟩, q9_ ⟨V, hb⟩, q10_ ⟨V, hb⟩, q11_ ⟨V, hb⟩⟩
    go_region_held (fun w' => w'.cell? ⟨w.heap.size, 0, none⟩ = some (.string r.name) ∧ w'.cell? ⟨w.heap.size, 1, none⟩ = some (.int .i64 r.fr) ∧ w'.cell? ⟨w.heap.size, 2, none⟩ = some (.int .i64 r.to) ∧ w'.cell? ⟨w.heap.size, 3, none⟩ = some (.slice a1 n1 c1) ∧ w'.cell? ⟨w.heap.size, 4, none⟩ = some (.slice a2 n2 c2) ∧ w'.cell? ⟨w.heap.size, 5, none⟩ = some (.slice a3 n3 c3) ∧ w'.cell? ⟨w.heap.size, 6, none⟩ = some (.int .i64 r.rule) ∧ w'.cell? ⟨w.heap.size + 1, 0, none⟩ = some (.int .i64 k) ∧ w'.cell? ⟨w.heap.size + 1, 1, none⟩ = some (.int .i64 m) ∧ w'.cell? ⟨w.heap.size + 1, 2, none⟩ = some (.int .i64 d) ∧ w'.cell? ⟨w.heap.size + 1, 3, none⟩ = some (.int .i64 a) ∧ w'.cell? ⟨w.heap.size + 1, 4, none⟩ = some (.int .i64 b) ∧ w'.cell? ⟨w.heap.size + 1, 5, none⟩ = some (.int .i64 c) ∧ w'.cell? ⟨w.heap.size + 1, 6, none⟩ = some (.bool t) ∧ w'.cell? ⟨w.heap.size + 1, 7, none⟩ = some (.string s) ∧ w'.cell? ⟨w.heap.size + 1, 8, none⟩ = some (.int .i64 p) ∧ w'.cell? ⟨w.heap.size + 1, 9, none⟩ = some (.int .i64 y) ∧ w'.cell? ⟨w.heap.size + 1, 10, none⟩ = some (.int .i64 so) ∧ w'.cell? ⟨w.heap.size + 1, 11, none⟩ = some (.int .i64 ca)) (exact KCE.out _ (by assumption)) (first | (go_at_call 17; refine (KT.out HO.out ⟨_, D2⟩).mono ?_; rintro e V ⟨o1, rfl, hn, hb⟩; have BV : Below W0.heap.size W0 V := D2.trans (hb.mono D2.size); have RV := ctr.hideP (hn.row HO.out); obtain ⟨p1, p2, p3, rfl, _⟩ := hn; clear hb) | (go_at_call 29; refine (KU.out _).mono ?_; rintro e V2 ⟨rfl, hb⟩; have BV2 : Below W0.heap.size W0 V2 := BV.trans (hb.mono BV.size); have RV2 := ctr.hideP (RV.out.below hb); clear hb) | (go_at_call 28; refine (KS.out _ _ RV2.out).mono ?_; rintro e V3 ⟨rfl, hb⟩; have BV3 : Below W0.heap.size W0 V3 := BV2.trans (hb.mono BV2.size); clear hb))
    all_goals (go_wp2_with fail; go_meet)
    all_goals exact ⟨rfl, ⟨_, BV3⟩, rfl⟩
  case rest =>
  obtain ⟨rfl, x3, rfl⟩ := hcut
  clear KS
  go_wp2_with fail
  refine (KT.out HO.out x3).mono ?_
  rintro e w4 ⟨o2, rfl, hn, hb⟩
  obtain ⟨x4, rfl⟩ := x3.next hb
  have R2 := ctr.hideP (hn.row HO.out)
  obtain ⟨p1, p2, p3, rfl, ⟨s1, s2, rfl, _⟩, ⟨s3, s4, rfl, _⟩, ⟨s5, s6, rfl, _⟩⟩ := hn
  clear hb
  obtain ⟨W5, hW5, f0, f1, f2, f3, f4, f5, f6, hBl5⟩ := ctr.seven_box x4.w (.string r.name) (.int .i64 r.fr) (.int .i64 r.to) (.slice (some ⟨s1, 0, none⟩) r.segs.length r.segs.length) (.slice (some ⟨s3, 0, none⟩) r.pats.length r.pats.length) (.slice (some ⟨s5, 0, none⟩) r.rgns.length r.rgns.length) (.int .i64 r.rule) 36
  have B5 : Below W0.heap.size W0 W5 := x4.on (hBl5 ⟨W5, Below.refl _ _⟩)
  have e0_ : ∀ x : ctr.Later W5, x.w.cell? ⟨w.heap.size, 0, none⟩ = some (.string r.name) := fun x => d0_ ⟨x.w, B5.trans (x.below.mono B5.size)⟩
  have e1_ : ∀ x : ctr.Later W5, x.w.cell? ⟨w.heap.size, 1, none⟩ = some (.int .i64 r.fr) := fun x => d1_ ⟨x.w, B5.trans (x.below.mono B5.size)⟩
  have e2_ : ∀ x : ctr.Later W5, x.w.cell? ⟨w.heap.size, 2, none⟩ = some (.int .i64 r.to) := fun x => d2_ ⟨x.w, B5.trans (x.below.mono B5.size)⟩
  have e3_ : ∀ x : ctr.Later W5, x.w.cell? ⟨w.heap.size, 3, none⟩ = some (.slice a1 n1 c1) := fun x => d3_ ⟨x.w, B5.trans (x.below.mono B5.size)⟩
  have e4_ : ∀ x : ctr.Later W5, x.w.cell? ⟨w.heap.size, 4, none⟩ = some (.slice a2 n2 c2) := fun x => d4_ ⟨x.w, B5.trans (x.below.mono B5.size)⟩
  have e5_ : ∀ x : ctr.Later W5, x.w.cell? ⟨w.heap.size, 5, none⟩ = some (.slice a3 n3 c3) := fun x => d5_ ⟨x.w, B5.trans (x.below.mono B5.size)⟩
  have e6_ : ∀ x : ctr.Later W5, x.w.cell? ⟨w.heap.size, 6, none⟩ = some (.int .i64 r.rule) := fun x => d6_ ⟨x.w, B5.trans (x.below.mono B5.size)⟩
  have u0_ : ∀ x : ctr.Later W5, x.w.cell? ⟨w.heap.size + 1, 0, none⟩ = some (.int .i64 k) := fun x => q0_ ⟨x.w, B5.trans (x.below.mono B5.size)⟩
  have u1_ : ∀ x : ctr.Later W5, x.w.cell? ⟨w.heap.size + 1, 1, none⟩ = some (.int .i64 m) := fun x => q1_ ⟨x.w, B5.trans (x.below.mono B5.size)⟩
  have u2_ : ∀ x : ctr.Later W5, x.w.cell? ⟨w.heap.size + 1, 2, none⟩ = some (.int .i64 d) := fun x => q2_ ⟨x.w, B5.trans (x.below.mono B5.size)⟩
  have u3_ : ∀ x : ctr.Later W5, x.w.cell? ⟨w.heap.size + 1, 3, none⟩ = some (.int .i64 a) := fun x => q3_ ⟨x.w, B5.trans (x.below.mono B5.size)⟩
  have u4_ : ∀ x : ctr.Later W5, x.w.cell? ⟨w.heap.size + 1, 4, none⟩ = some (.int .i64 b) := fun x => q4_ ⟨x.w, B5.trans (x.below.mono B5.size)⟩
  have u5_ : ∀ x : ctr.Later W5, x.w.cell? ⟨w.heap.size + 1, 5, none⟩ = some (.int .i64 c) := fun x => q5_ ⟨x.w, B5.trans (x.below.mono B5.size)⟩
  have u6_ : ∀ x : ctr.Later W5, x.w.cell? ⟨w.heap.size + 1, 6, none⟩ = some (.bool t) := fun x => q6_ ⟨x.w, B5.trans (x.below.mono B5.size)⟩
  have u7_ : ∀ x : ctr.Later W5, x.w.cell? ⟨w.heap.size + 1, 7, none⟩ = some (.string s) := fun x => q7_ ⟨x.w, B5.trans (x.below.mono B5.size)⟩
  have u8_ : ∀ x : ctr.Later W5, x.w.cell? ⟨w.heap.size + 1, 8, none⟩ = some (.int .i64 p) := fun x => q8_ ⟨x.w, B5.trans (x.below.mono B5.size)⟩
  have u9_ : ∀ x : ctr.Later W5, x.w.cell? ⟨w.heap.size + 1, 9, none⟩ = some (.int .i64 y) := fun x => q9_ ⟨x.w, B5.trans (x.below.mono B5.size)⟩
  have u10_ : ∀ x : ctr.Later W5, x.w.cell? ⟨w.heap.size + 1, 10, none⟩ = some (.int .i64 so) := fun x => q10_ ⟨x.w, B5.trans (x.below.mono B5.size)⟩
  have u11_ : ∀ x : ctr.Later W5, x.w.cell? ⟨w.heap.size + 1, 11, none⟩ = some (.int .i64 ca) := fun x => q11_ ⟨x.w, B5.trans (x.below.mono B5.size)⟩
  have HE : Hid (∀ x : ctr.Later W5, ∃ y : ctr.Later W0, y.w = x.w) := fun x => ⟨⟨x.w, B5.trans (x.below.mono B5.size)⟩, rfl⟩
  have R5 : Hid (∀ x : ctr.Later W5, ctr.GRow x.w (.agg #[.string r.name, .int .i64 r.fr, .int .i64 r.to, .slice (some ⟨s1, 0, none⟩) r.segs.length r.segs.length, .slice (some ⟨s3, 0, none⟩) r.pats.length r.pats.length, .slice (some ⟨s5, 0, none⟩) r.rgns.length r.rgns.length, .int .i64 r.rule]) r) := fun x => R2.out.below (hBl5 x)
  have KT5 : Hid (∀ W, Below W5.heap.size W5 W → Calls Tryz.prog 17 #[.agg #[.string r.name, .int .i64 r.fr, .int .i64 r.to, .slice a1 n1 c1, .slice a2 n2 c2, .slice a3 n3 c3, .int .i64 r.rule]] W fun e w' => ∃ o, e = .returned o ∧ ctr.GNew W w' o r ∧ Below W.heap.size W w') := fun W hb => KT.out HO.out ⟨W, B5.trans (hb.mono B5.size)⟩
  have KI5 : Hid (∀ x : ctr.Later W5, Calls Tryz.prog 30 #[.agg #[.string r.name, .int .i64 r.fr, .int .i64 r.to, .slice (some ⟨s1, 0, none⟩) r.segs.length r.segs.length, .slice (some ⟨s3, 0, none⟩) r.pats.length r.pats.length, .slice (some ⟨s5, 0, none⟩) r.rgns.length r.rgns.length, .int .i64 r.rule], .agg #[.int .i64 k, .int .i64 m, .int .i64 d, .int .i64 a, .int .i64 b, .int .i64 c, .bool t, .string s, .int .i64 p, .int .i64 y, .int .i64 so, .int .i64 ca], .int .i64 n] x.w fun e w' => e = .returned (.bool ok) ∧ Below x.w.heap.size x.w w') := fun x => by
    obtain ⟨z, hz⟩ := HE.out x
    exact KI.out _ x.w (hz ▸ HBl.out z) (R5.out x)
  have HW5 := ctr.hideP hW5
  clear hW5 hBl5 B5 R2 KI KT d0_ d1_ d2_ d3_ d4_ d5_ d6_ q0_ q1_ q2_ q3_ q4_ q5_ q6_ q7_ q8_ q9_ q10_ q11_
  go_upto_region 10 with fail
  rw [← HW5.out]
  obtain ⟨x5, hx5⟩ : ∃ x5 : ctr.Later W5, W5 = x5.w := ⟨⟨W5, Below.refl _ _⟩, rfl⟩
  have D5 : Below W5.heap.size W5 W5.drew := (Below.refl _ _).drew
  clear hx5
  go_cut [10] (fun s10 wx => s10 = .bool ok ∧ ∃ x : ctr.Later W5, wx = x.w)
  case first =>
    have KCE : Hid (∀ V, Below W5.heap.size W5 V → V.cell? ⟨x4.w.heap.size, 0, none⟩ = some (.string r.name) ∧ V.cell? ⟨x4.w.heap.size, 1, none⟩ = some (.int .i64 r.fr) ∧ V.cell? ⟨x4.w.heap.size, 2, none⟩ = some (.int .i64 r.to) ∧ V.cell? ⟨x4.w.heap.size, 3, none⟩ = some (.slice (some ⟨s1, 0, none⟩) r.segs.length r.segs.length) ∧ V.cell? ⟨x4.w.heap.size, 4, none⟩ = some (.slice (some ⟨s3, 0, none⟩) r.pats.length r.pats.length) ∧ V.cell? ⟨x4.w.heap.size, 5, none⟩ = some (.slice (some ⟨s5, 0, none⟩) r.rgns.length r.rgns.length) ∧ V.cell? ⟨x4.w.heap.size, 6, none⟩ = some (.int .i64 r.rule) ∧ V.cell? ⟨w.heap.size + 1, 0, none⟩ = some (.int .i64 k) ∧ V.cell? ⟨w.heap.size + 1, 1, none⟩ = some (.int .i64 m) ∧ V.cell? ⟨w.heap.size + 1, 2, none⟩ = some (.int .i64 d) ∧ V.cell? ⟨w.heap.size + 1, 3, none⟩ = some (.int .i64 a) ∧ V.cell? ⟨w.heap.size + 1, 4, none⟩ = some (.int .i64 b) ∧ V.cell? ⟨w.heap.size + 1, 5, none⟩ = some (.int .i64 c) ∧ V.cell? ⟨w.heap.size + 1, 6, none⟩ = some (.bool t) ∧ V.cell? ⟨w.heap.size + 1, 7, none⟩ = some (.string s) ∧ V.cell? ⟨w.heap.size + 1, 8, none⟩ = some (.int .i64 p) ∧ V.cell? ⟨w.heap.size + 1, 9, none⟩ = some (.int .i64 y) ∧ V.cell? ⟨w.heap.size + 1, 10, none⟩ = some (.int .i64 so) ∧ V.cell? ⟨w.heap.size + 1, 11, none⟩ = some (.int .i64 ca)) := fun V hb => ⟨f0 ⟨V, hb⟩, f1 ⟨V, hb⟩, f2 ⟨V, hb⟩, f3 ⟨V, hb⟩, f4 ⟨V, hb⟩, f5 ⟨V, hb⟩, f6 ⟨V, hb⟩, u0_ ⟨V, hb⟩, u1_ ⟨V, hb⟩, u2_ ⟨V, hb⟩, u3_ ⟨V, hb⟩, u4_ ⟨V, hb⟩, u5_ ⟨V, hb⟩, u6_ ⟨V, hb⟩, u7_ ⟨V, hb⟩, u8_ ⟨V, hb⟩, u9_ ⟨V, hb⟩, u10_ ⟨V, hb⟩, u11_ ⟨V, hb⟩⟩
    go_region_held (fun w' => w'.cell? ⟨x4.w.heap.size, 0, none⟩ = some (.string r.name) ∧ w'.cell? ⟨x4.w.heap.size, 1, none⟩ = some (.int .i64 r.fr) ∧ w'.cell? ⟨x4.w.heap.size, 2, none⟩ = some (.int .i64 r.to) ∧ w'.cell? ⟨x4.w.heap.size, 3, none⟩ = some (.slice (some ⟨s1, 0, none⟩) r.segs.length r.segs.length) ∧ w'.cell? ⟨x4.w.heap.size, 4, none⟩ = some (.slice (some ⟨s3, 0, none⟩) r.pats.length r.pats.length) ∧ w'.cell? ⟨x4.w.heap.size, 5, none⟩ = some (.slice (some ⟨s5, 0, none⟩) r.rgns.length r.rgns.length) ∧ w'.cell? ⟨x4.w.heap.size, 6, none⟩ = some (.int .i64 r.rule) ∧ w'.cell? ⟨w.heap.size + 1, 0, none⟩ = some (.int .i64 k) ∧ w'.cell? ⟨w.heap.size + 1, 1, none⟩ = some (.int .i64 m) ∧ w'.cell? ⟨w.heap.size + 1, 2, none⟩ = some (.int .i64 d) ∧ w'.cell? ⟨w.heap.size + 1, 3, none⟩ = some (.int .i64 a) ∧ w'.cell? ⟨w.heap.size + 1, 4, none⟩ = some (.int .i64 b) ∧ w'.cell? ⟨w.heap.size + 1, 5, none⟩ = some (.int .i64 c) ∧ w'.cell? ⟨w.heap.size + 1, 6, none⟩ = some (.bool t) ∧ w'.cell? ⟨w.heap.size + 1, 7, none⟩ = some (.string s) ∧ w'.cell? ⟨w.heap.size + 1, 8, none⟩ = some (.int .i64 p) ∧ w'.cell? ⟨w.heap.size + 1, 9, none⟩ = some (.int .i64 y) ∧ w'.cell? ⟨w.heap.size + 1, 10, none⟩ = some (.int .i64 so) ∧ w'.cell? ⟨w.heap.size + 1, 11, none⟩ = some (.int .i64 ca)) (exact KCE.out _ (by assumption)) (first | (go_at_call 29; refine (KU.out _).mono ?_; rintro e V ⟨rfl, hb⟩; have BV : Below W5.heap.size W5 V := D5.trans (hb.mono D5.size); clear hb) | (go_at_call 30; refine (KI5.out ⟨_, BV⟩).mono ?_; rintro e V2 ⟨rfl, hb⟩; have BV2 : Below W5.heap.size W5 V2 := BV.trans (hb.mono BV.size); clear hb))
    all_goals (go_wp2_with fail; go_meet)
    all_goals exact ⟨rfl, ⟨_, BV2⟩, rfl⟩
  case rest =>
  obtain ⟨rfl, x6, rfl⟩ := hcut
  clear KI5 KU
  have e0 : (ok != ok) = false := by simp
  cases ok
  all_goals
    go_wp2_with fail
    go_region_with (first | (go_at_call 17; refine (KT5.out _ x6.below.drew).mono ?_; rintro e w7 ⟨o3, rfl, hn, hb⟩; obtain ⟨x7, rfl⟩ : ∃ x7 : ctr.Later W5, w7 = x7.w := ⟨⟨w7, x6.below.drew.trans (hb.mono x6.below.drew.size)⟩, rfl⟩; have R7 := ctr.hideP (hn.row HO.out); obtain ⟨p1, p2, p3, rfl, _⟩ := hn; clear hb) | (go_at_call 21; refine (KE.out _ _ _ (R5.out x7) R7.out).mono ?_; rintro e w8 ⟨rfl, hb⟩; obtain ⟨x8, rfl⟩ := x7.next hb; clear hb))
    all_goals go_wp2_with fail
    all_goals go_ret
    all_goals (obtain ⟨y, hy⟩ := HE.out x8; exact ⟨rfl, hy ▸ HBl.out y⟩)
end Go.Proofs.YtjojgfdfbkmlkaaGreatDoor.fnExactMeans
