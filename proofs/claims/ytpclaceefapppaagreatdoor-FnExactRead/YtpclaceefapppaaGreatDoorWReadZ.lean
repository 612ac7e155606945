/- The walk of the law FnExactRead: at every input it returns true, and nothing that was there turns. -/
import Derived.Test.YtpclaceefapppaaGreatDoorJnZab
import Derived.Test.YtpclaceefapppaaGreatDoorReadCZ
import Derived.Test.YtpclaceefapppaaGreatDoorChgMarkZ
import Derived.Test.YtpclaceefapppaaGreatDoorJnZay
import Derived.Test.YtpclaceefapppaaGreatDoorJnZba
import Derived.Test.YtpclaceefapppaaGreatDoorJnZai
import Derived.Test.YtpclaceefapppaaGreatDoorRgmOpenZ
import Derived.Test.YtpclaceefapppaaGreatDoorJnZad
import Derived.Test.YtpclaceefapppaaGreatDoorJnZbf
import Derived.WalkKit
import Derived.ProofKit
import Derived.OpenShut
import Derived.ShutString
import Derived.ChangeOld
import Derived.Below
import Derived.Deep.DeepHandedRow
import Derived.Lib.LaidTab
import Derived.Lib.SmallJoins
import Derived.Deep.CutRange
import Derived.LaidHandle
import Derived.LaidLaws
namespace Go.Proofs.YtpclaceefapppaaGreatDoor.fnExactRead
open Go.ChangeShapes Go.WideShapes Go.ChangeAt Go.RowKit
open Go.ChangeMaps (open_string shut_string)
set_option linter.unusedVariables false
set_option maxRecDepth 100000 in
set_option maxHeartbeats 16000000 in
theorem walk (v : Value) (r : ctr.Rgm) (s : ByteArray) (hs0 : s.size ≤ maxLen) (w : World) (h : ctr.GIn w v r) (wf : (Lit.int .i64 r.fr).wf = true) (wt : (Lit.int .i64 r.to).wf = true) (tP : Lib.TabIs Tryz.prog w "internal/strconv.uint64pow10" .u64 [1, 10, 100, 1000, 10000, 100000, 1000000, 10000000, 100000000, 1000000000, 10000000000, 100000000000, 1000000000000, 10000000000000, 100000000000000, 1000000000000000, 10000000000000000, 100000000000000000, 1000000000000000000, 10000000000000000000]) (t0 : ctr.ErrT w) (tS : ctr.Shp w) (tN : ctr.Mon w) (t1 : ctr.Tab w) (tM : ctr.Mrk w) (t2 : ∃ q, ctr.Sent w q) :
    Calls Tryz.prog 3 #[v, .string s] w fun e w' => e = .returned (.bool true) ∧ Below w.heap.size w w' := by
  rw [← ctr.pow10_eq] at tP
  unfold maxLen at hs0
  have H := ctr.hideP h
  obtain ⟨a1, n1, c1, a2, n2, c2, a3, n3, c3, ev, _⟩ := h
  obtain ⟨W0, hW0, d0, d1, d2, d3, d4, d5, d6, hBl⟩ := ctr.seven_box w (.string r.name) (.int .i64 r.fr) (.int .i64 r.to) (.slice a1 n1 c1) (.slice a2 n2 c2) (.slice a3 n3 c3) (.int .i64 r.rule) 26
  have HW0 := ctr.hideP hW0
  have HBl := ctr.hideP hBl
  have KZ : Hid (∀ x : ctr.Later W0, Calls Tryz.prog 7 #[v, .int .i64 1048576] x.w fun e w' => ∃ z : Int, e = .returned (.int .i64 z) ∧ (z = -1 ∨ (0 ≤ z ∧ z ≤ 1048576 ∧ ctr.GOk r)) ∧ Below x.w.heap.size x.w w') := fun x => ctr.szRegime v r 1048576 x.w (H.out.below (HBl.out x)) (by omega) (by omega)
  have KT : Hid (ctr.GOk r → ∀ x : ctr.Later W0, Calls Tryz.prog 9 #[v] x.w fun e w' => ∃ o, e = .returned o ∧ ctr.GNew x.w w' o r ∧ Below x.w.heap.size x.w w') := fun ho x => ctr.toRegime v r x.w (H.out.below (HBl.out x)) ho
  have KE : Hid (∀ v1 v2 W, ctr.GRow W v1 r → ctr.GRow W v2 r → Calls Tryz.prog 12 #[v1, v2] W fun e w' => e = .returned (.bool true) ∧ Below W.heap.size W w') := fun v1 v2 W g1 g2 => ctr.eqRegime v1 v2 r W g1 g2
  have bf := (kit.wf_bounds wf).1
  have bt := (kit.wf_bounds wt).2
  obtain ⟨q, t3⟩ := t2
  by_cases hbig : 1048576 < (s.size : Int)
  · have hbd : decide ((1048576 : Int) < (s.size : Int)) = true := decide_eq_true hbig
    have HBf : Hid (Below w.heap.size w W0) := HBl.out ⟨W0, Below.refl _ _⟩
    subst ev
    clear tP tS tN tM t0 t1 t3 KZ KT KE H hW0 hBl d0 d1 d2 d3 d4 d5 d6
    go_enter Tryz.func3, Tryz.ntmps3
    go_wp2_with fail
    go_ret
    exact ⟨rfl, by have q := HBf.out; rw [HW0.out] at q; exact q⟩
  have hsn : s.size ≤ 1048576 := by omega
  have hbd : ¬ (1048576 : Int) < (s.size : Int) := hbig
  have KS : Hid (∀ v W, ctr.GRow W v r → Calls Tryz.prog 8 #[v, .string s] W fun e w' => ∃ o, e = .returned (.tuple #[o, .bool (ctr.readOk r s)]) ∧ ctr.MovRow W w' o (ctr.readDays r s) ∧ Below W.heap.size W w') := fun v W g => ctr.specReadDays v r s W hsn g bf bt
  have KI : Hid (∀ v W, Below w.heap.size w W → ctr.GRow W v r → Calls Tryz.prog 10 #[v, .string s] W fun e w' => ∃ o, e = .returned (.tuple #[o, .bool (ctr.readOk r s)]) ∧ ctr.MovRow W w' o (ctr.readDays r s) ∧ Below W.heap.size W w') := fun v W hb g => ctr.implReadDays v r s W hsn g q bt (t0.below hb) (t1.later hb) (t3.later hb) (ctr.Shp.later tS hb) (ctr.Mrk.later tM hb) (ctr.Mon.later tN hb) (ctr.PowT.later tP hb)
  have hcl := ctr.readDays_len r s
  have KQ : Hid (∀ v1 v2 W, ctr.IntRow W v1 (ctr.readDays r s) → ctr.IntRow W v2 (ctr.readDays r s) → Calls Tryz.prog 11 #[v1, v2] W fun e w' => e = .returned (.bool true) ∧ Below W.heap.size W w') := fun v1 v2 W g1 g2 => ctr.eqInts v1 v2 _ W (by omega) g1 g2
  have KM : Hid (∀ V W o, ctr.MovRow V W o (ctr.readDays r s) → Below V.heap.size V W → Calls Tryz.prog 14 #[o, .int .i64 1] W fun e w' => e = .returned (.int .i64 ((1 + (ctr.readDays r s).length : Nat) : Int)) ∧ Below V.heap.size V w' ∧ ctr.IntRow w' o (ctr.marks 1 (ctr.readDays r s).length)) := fun V W o g hb => ctr.markRow V W o _ (by omega) g hb
  have KH : Hid (∀ o W, ctr.IntRow W o (ctr.marks 1 (ctr.readDays r s).length) → Calls Tryz.prog 15 #[o, .int .i64 1] W fun e w' => e = .returned (.int .i64 ((1 + (ctr.readDays r s).length : Nat) : Int)) ∧ Below W.heap.size W w') := fun o W g => ctr.heldInts o 1 _ W (by omega) (by omega) g
  have hm0 : 0 ≤ ((1 + (ctr.readDays r s).length : Nat) : Int) := by omega
  generalize ((1 + (ctr.readDays r s).length : Nat) : Int) = mz at *
  generalize ctr.marks 1 (ctr.readDays r s).length = mks at *
  generalize ctr.readDays r s = ch at *
  generalize ctr.readOk r s = fine at *
  have e0f : (fine != fine) = false := by simp
  have hmd : decide (mz < 0) = false := decide_eq_false (by omega)
  clear bf bt t0 t1 t3 tP tS tN tM hcl hbig hsn hs0
  have HD0 := ctr.hideP d0
  have HD1 := ctr.hideP d1
  have HD2 := ctr.hideP d2
  have HD3 := ctr.hideP d3
  have HD4 := ctr.hideP d4
  have HD5 := ctr.hideP d5
  have HD6 := ctr.hideP d6
  subst ev
  clear hW0 hBl H
  go_enter Tryz.func3, Tryz.ntmps3
  go_wp2_with fail
  rw [← HW0.out]
  refine (KZ.out ⟨W0, Below.refl _ _⟩).mono ?_
  rintro e w1 ⟨z, rfl, hz, hb⟩
  obtain ⟨x1, rfl⟩ := ctr.Later.of hb
  have HZ := ctr.hideP hz
  clear hb hz
  rcases HZ.out with rfl | ⟨z1, z2, ho⟩
  · go_wp2_with fail
    go_ret
    exact ⟨rfl, HBl.out x1⟩
  have HO := ctr.hideP ho
  clear ho
  go_wp2_with fail
  refine (KT.out HO.out x1).mono ?_
  rintro e w2 ⟨o1, rfl, hn, hb⟩
  obtain ⟨x2, rfl⟩ := x1.next hb
  have R1 := ctr.hideP (hn.row HO.out)
  obtain ⟨p1, p2, p3, rfl, _⟩ := hn
  clear hb
  go_wp2_with fail
  refine (KS.out _ _ R1.out).mono ?_
  rintro e w3 ⟨o4, rfl, m4, hb⟩
  obtain ⟨x3, rfl⟩ := x2.next hb
  have I4 := ctr.hideP m4.row
  obtain ⟨ad4, cap4, rfl, _⟩ := m4
  clear hb R1
  go_wp2_with fail
  refine (KT.out HO.out x3).mono ?_
  rintro e w4 ⟨o2, rfl, hn, hb⟩
  obtain ⟨x4, rfl⟩ := x3.next hb
  have R2 := ctr.hideP (hn.row HO.out)
  obtain ⟨p1, p2, p3, rfl, ⟨s1, s2, rfl, ge1, k1⟩, ⟨s3, s4, rfl, ge3, k3⟩, ⟨s5, s6, rfl, ge5, k5⟩⟩ := hn
  have HG1 := ctr.hideP ge1
  have HG3 := ctr.hideP ge3
  have HG5 := ctr.hideP ge5
  have X34 := ctr.hideP hb
  have HL1 := ctr.hideP k1.lt
  have HL3 := ctr.hideP k3.lt
  have HL5 := ctr.hideP k5.lt
  have HK1 := ctr.hideP k1
  have HK3 := ctr.hideP k3
  have HK5 := ctr.hideP k5
  clear hb ge1 ge3 ge5 k1 k3 k5
  obtain ⟨W5, hW5, f0, f1, f2, f3, f4, f5, f6, hBl5⟩ := ctr.seven_box x4.w (.string r.name) (.int .i64 r.fr) (.int .i64 r.to) (.slice (some ⟨s1, 0, none⟩) r.segs.length r.segs.length) (.slice (some ⟨s3, 0, none⟩) r.pats.length r.pats.length) (.slice (some ⟨s5, 0, none⟩) r.rgns.length r.rgns.length) (.int .i64 r.rule) 35
  have B5 : Below W0.heap.size W0 W5 := x4.on (hBl5 ⟨W5, Below.refl _ _⟩)
  have e0 : ∀ x : ctr.Later W5, x.w.cell? ⟨w.heap.size, 0, none⟩ = some (.string r.name) := fun x => d0 ⟨x.w, B5.trans (x.below.mono B5.size)⟩
  have e1 : ∀ x : ctr.Later W5, x.w.cell? ⟨w.heap.size, 1, none⟩ = some (.int .i64 r.fr) := fun x => d1 ⟨x.w, B5.trans (x.below.mono B5.size)⟩
  have e2 : ∀ x : ctr.Later W5, x.w.cell? ⟨w.heap.size, 2, none⟩ = some (.int .i64 r.to) := fun x => d2 ⟨x.w, B5.trans (x.below.mono B5.size)⟩
  have e3 : ∀ x : ctr.Later W5, x.w.cell? ⟨w.heap.size, 3, none⟩ = some (.slice a1 n1 c1) := fun x => d3 ⟨x.w, B5.trans (x.below.mono B5.size)⟩
  have e4 : ∀ x : ctr.Later W5, x.w.cell? ⟨w.heap.size, 4, none⟩ = some (.slice a2 n2 c2) := fun x => d4 ⟨x.w, B5.trans (x.below.mono B5.size)⟩
  have e5 : ∀ x : ctr.Later W5, x.w.cell? ⟨w.heap.size, 5, none⟩ = some (.slice a3 n3 c3) := fun x => d5 ⟨x.w, B5.trans (x.below.mono B5.size)⟩
  have e6 : ∀ x : ctr.Later W5, x.w.cell? ⟨w.heap.size, 6, none⟩ = some (.int .i64 r.rule) := fun x => d6 ⟨x.w, B5.trans (x.below.mono B5.size)⟩
  have HE : Hid (∀ x : ctr.Later W5, ∃ y : ctr.Later W0, y.w = x.w) := fun x => ⟨⟨x.w, B5.trans (x.below.mono B5.size)⟩, rfl⟩
  have R5 : Hid (∀ x : ctr.Later W5, ctr.GRow x.w (.agg #[.string r.name, .int .i64 r.fr, .int .i64 r.to, .slice (some ⟨s1, 0, none⟩) r.segs.length r.segs.length, .slice (some ⟨s3, 0, none⟩) r.pats.length r.pats.length, .slice (some ⟨s5, 0, none⟩) r.rgns.length r.rgns.length, .int .i64 r.rule]) r) := fun x => R2.out.below (hBl5 x)
  have KT5 : Hid (∀ W, Below W5.heap.size W5 W → Calls Tryz.prog 9 #[.agg #[.string r.name, .int .i64 r.fr, .int .i64 r.to, .slice a1 n1 c1, .slice a2 n2 c2, .slice a3 n3 c3, .int .i64 r.rule]] W fun e w' => ∃ o, e = .returned o ∧ ctr.GNew W w' o r ∧ Below W.heap.size W w') := fun W hb => KT.out HO.out ⟨W, B5.trans (hb.mono B5.size)⟩
  have HW5 := ctr.hideP hW5
  have X45 := ctr.hideP (hBl5 ⟨W5, Below.refl _ _⟩)
  have HB5 : Hid (Below w.heap.size w W5) := HBl.out ⟨W5, B5⟩
  have HB05 := ctr.hideP B5
  clear hW5 hBl5 B5 R2 d0 d1 d2 d3 d4 d5 d6 KZ KS
  go_wp2_with fail
  rw [← HW5.out]
  refine (KI.out _ _ HB5.out (R5.out ⟨W5, Below.refl _ _⟩)).mono ?_
  rintro e w6 ⟨o6, rfl, m6, hb⟩
  obtain ⟨x6, rfl⟩ := ctr.Later.of hb
  have M6 := ctr.hideP m6
  obtain ⟨ad6, cap6, rfl, _⟩ := m6
  have J4 : Hid (∀ W, Below W5.heap.size W5 W → ctr.IntRow W (.slice ad4 ch.length cap4) ch) := fun W hb => by
   have h1 := X34.out.trans (X45.out.mono X34.out.size)
   exact I4.out.below (h1.trans (hb.mono h1.size))
  clear hb
  go_wp2_with fail
  refine (KQ.out _ _ _ M6.out.row (J4.out _ x6.below)).mono ?_
  rintro e w7 ⟨rfl, hb⟩
  obtain ⟨x7, rfl⟩ := x6.next hb
  have M7 := ctr.hideP (M6.out.below hb)
  clear hb M6
  go_upto_region 12 with fail
  go_cut [52] from 48 to 51 (fun s52 wx => s52 = .bool false ∧ Below x7.w.heap.size x7.w wx)
  case first =>
   have HN7 : Hid (Below W5.heap.size W5 x7.w.drew) := x7.below.drew
   go_region_with (first | (go_at_call 9; refine (KT5.out _ HN7.out).mono ?_; rintro e w8 ⟨o3, rfl, hn, hb⟩; obtain ⟨x8, rfl⟩ : ∃ x8 : ctr.Later W5, w8 = x8.w := ⟨⟨w8, HN7.out.trans (hb.mono HN7.out.size)⟩, rfl⟩; have R8 := ctr.hideP (hn.row HO.out); obtain ⟨p1, p2, p3, rfl, _⟩ := hn; have HB8 : Hid (Below x7.w.heap.size x7.w x8.w) := (Below.refl _ _).drew.trans hb; clear hb) | (go_at_call 12; refine (KE.out _ _ _ (R5.out x8) R8.out).mono ?_; rintro e w9 ⟨rfl, hb⟩; have HB9 : Hid (Below x7.w.heap.size x7.w w9) := HB8.out.trans (hb.mono HB8.out.size); obtain ⟨x9, rfl⟩ := x8.next hb; clear hb))
   all_goals (go_wp2_with fail; go_meet; exact ⟨rfl, HB9.out⟩)
  case rest =>
   obtain ⟨rfl, hb9⟩ := hcut
   obtain ⟨x9, rfl⟩ := x7.next hb9
   have M9 := ctr.hideP (M7.out.below hb9)
   clear hb9 M7 KE
   have B59 : Hid (Below x4.w.heap.size x4.w x9.w) := X45.out.trans (x9.below.mono X45.out.size)
   have KG := ctr.hideP (ctr.markRegime r s1 s3 s5 s2 s4 s6 x9.w HO.out (HK1.out.below B59.out HL1.out) (HK3.out.below B59.out HL3.out) (HK5.out.below B59.out HL5.out))
   go_wp2_with fail
   refine KG.out.mono ?_
   rintro e w13 ⟨z, rfl, hkp⟩
   have hz0 : decide ((z : Int) < 0) = false := decide_eq_false (by omega)
   have B39 : Hid (Below x3.w.heap.size x3.w x9.w) := X34.out.trans (B59.out.mono X34.out.size)
   have B3 : Hid (Below x3.w.heap.size x3.w w13) := hkp.below B39.out B39.out.size (by
    intro k hk
    rcases hk with rfl | rfl | rfl
    · exact HG1.out
    · exact HG3.out
    · exact HG5.out)
   have M13 := ctr.hideP (hkp.mov M9.out (by
    intro k hk
    rcases hk with rfl | rfl | rfl
    · exact Nat.lt_of_lt_of_le HL1.out X45.out.size
    · exact Nat.lt_of_lt_of_le HL3.out X45.out.size
    · exact Nat.lt_of_lt_of_le HL5.out X45.out.size))
   have S35 : Hid (x3.w.heap.size ≤ W5.heap.size) := Nat.le_trans X34.out.size X45.out.size
   have M3 := ctr.hideP (M13.out.mono S35.out)
   have Q4 : Hid (∀ W, Below x3.w.heap.size x3.w W → ctr.IntRow W (.slice ad4 ch.length cap4) ch) := fun W hb => I4.out.below hb
   clear hkp M13 M9 KG B59 B39 HK1 HK3 HK5 J4 e0 e1 e2 e3 e4 e5 e6 f0 f1 f2 f3 f4 f5 f6 R5 KT5 HE
   go_wp2_with fail
   refine (KQ.out _ _ _ M3.out.row (Q4.out _ B3.out)).mono ?_
   rintro e w14 ⟨rfl, hb⟩
   have B14 : Hid (Below x3.w.heap.size x3.w w14) := B3.out.trans (hb.mono B3.out.size)
   have M14 := ctr.hideP (M3.out.below hb)
   clear hb M3 B3 hz0
   go_wp2_with fail
   refine (KM.out _ _ _ M14.out B14.out).mono ?_
   rintro e w17 ⟨rfl, b17, i17⟩
   have B17 := ctr.hideP b17
   have I17 := ctr.hideP i17
   clear b17 i17 M14 B14 KM
   go_wp2_with fail
   refine (KH.out _ _ I17.out).mono ?_
   rintro e w19 ⟨rfl, hb⟩
   have B19 : Hid (Below x3.w.heap.size x3.w w19) := B17.out.trans (hb.mono B17.out.size)
   have I19 := ctr.hideP (I17.out.below hb)
   clear hb I17 B17
   obtain ⟨x19, rfl⟩ := x3.next B19.out
   have g0 := HD0.out x19
   have g1 := HD1.out x19
   have g2 := HD2.out x19
   have g3 := HD3.out x19
   have g4 := HD4.out x19
   have g5 := HD5.out x19
   have g6 := HD6.out x19
   go_wp2_with fail
   refine (KT.out HO.out x19).mono ?_
   rintro e w24 ⟨o5, rfl, hn, hb⟩
   have R24 := ctr.hideP (hn.row HO.out)
   obtain ⟨x24, rfl⟩ := x19.next hb
   have B24 : Hid (Below x3.w.heap.size x3.w x24.w) := B19.out.trans (hb.mono B19.out.size)
   have I24 := ctr.hideP (I19.out.below hb)
   obtain ⟨p1, p2, p3, rfl, _⟩ := hn
   clear hb I19 B19 g0 g1 g2 g3 g4 g5 g6
   go_wp2_with fail
   refine (KI.out _ _ (HBl.out x24) R24.out).mono ?_
   rintro e w25 ⟨o10, rfl, m10, hb⟩
   have R10 := ctr.hideP m10.row
   obtain ⟨ad10, cap10, rfl, _⟩ := m10
   obtain ⟨x25, rfl⟩ := x24.next hb
   have B25 : Hid (Below x3.w.heap.size x3.w x25.w) := B24.out.trans (hb.mono B24.out.size)
   have I25 := ctr.hideP (I24.out.below hb)
   clear hb I24 B24 R24
   go_wp2_with fail
   refine (KQ.out _ _ _ R10.out (Q4.out _ B25.out)).mono ?_
   rintro e w26 ⟨rfl, hb⟩
   obtain ⟨x26, rfl⟩ := x25.next hb
   have I26 := ctr.hideP (I25.out.below hb)
   clear hb I25 R10 B25
   go_wp2_with fail
   refine (KH.out _ _ I26.out).mono ?_
   rintro e w28 ⟨rfl, hb⟩
   obtain ⟨x28, rfl⟩ := x26.next hb
   clear hb
   go_wp2_with fail
   go_ret
   exact ⟨rfl, HBl.out x28⟩
end Go.Proofs.YtpclaceefapppaaGreatDoor.fnExactRead
