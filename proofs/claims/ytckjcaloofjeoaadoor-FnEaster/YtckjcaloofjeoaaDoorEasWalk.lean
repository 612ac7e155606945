/- The walk of the law FnEaster: for every []byte it returns true and turns nothing that was there, where the listed table of months holds what it lists. -/
import Derived.Test.YtckjcaloofjeoaaDoorEasSum
import Derived.Test.YtckjcaloofjeoaaDoorEasDraw
import Derived.Test.YtckjcaloofjeoaaDoorEasDate
import Derived.Test.YtckjcaloofjeoaaDoorEasLet
import Derived.Test.YtckjcaloofjeoaaDoorLawBase
namespace Go.Proofs.YtckjcaloofjeoaaDoor.ctr
open Go.RowKit Go.ChangeShapes

set_option maxRecDepth 100000 in
set_option maxHeartbeats 4000000 in
theorem easterWalk (a0 : Option Addr) (len0 cap0 : Nat) (z0 : List Int) (w : World) (w0 : kit.IsRow .u8 w a0 len0 cap0 z0) (t0 : Tab w) :
    Calls Tryd.prog 5 #[.slice a0 len0 cap0] w fun e w' => e = .returned (.bool true) ∧ Below w.heap.size w w' := by
  obtain ⟨hcode, hlen⟩ := code_of w0
  have HT : Hid (Tab w) := t0
  have HC : Hid (CodeAt w.heap.size w a0 len0) := hcode
  have HC' : ∀ W', Below w.heap.size w W' → CodeAt W'.heap.size W' a0 len0 := fun W' hb => CodeAt.up HC.out hb
  have KC : Hid _ := HC'
  clear t0 hcode w0 HC'
  by_cases hbig : (1048576 : Int) < (len0 : Int)
  · have hbd : decide ((1048576 : Int) < (len0 : Int)) = true := by simp; omega
    go_enter Tryd.func5, Tryd.ntmps5
    go_wp2_with fail
    refine (big_ _ _ _ _).mono ?_
    rintro e w' ⟨rfl, rfl⟩
    go_wp2_with fail
    go_ret
    exact ⟨rfl, Below.refl _ _⟩
  have hbd : decide ((1048576 : Int) < (len0 : Int)) = false := by simp; omega
  go_enter Tryd.func5, Tryd.ntmps5
  go_wp2_with fail
  refine (big_ _ _ _ _).mono ?_
  rintro e w' ⟨rfl, rfl⟩
  have HB0 : Hid (Below w'.heap.size w' w') := Below.refl _ _
  go_wp2_with fail
  refine (drawEaster _ a0 len0 cap0 hlen (KC.out _ HB0.out)).mono ?_
  rintro e W1 ⟨a, b, rfl, hb⟩
  have HB1 : Hid (Below w'.heap.size w' W1) := HB0.out.trans (hb.mono HB0.out.size)
  clear hb
  obtain ⟨n, hn⟩ : ∃ n, n = easter a b := ⟨_, rfl⟩
  have KN := implEaster a b W1 (HT.out.later HB1.out)
  rw [← hn] at KN
  have HN := hideP hn
  clear hn
  go_wp2_with fail
  refine KN.mono ?_
  rintro e W2 ⟨rfl, hb⟩
  have HB2 : Hid (Below w'.heap.size w' W2) := HB1.out.trans (hb.mono HB1.out.size)
  clear hb KN
  go_wp2_with fail
  refine (drawEasterTable _ a0 len0 cap0 hlen (KC.out _ HB2.out)).mono ?_
  rintro e W3 ⟨c, d, rfl, hb⟩
  have HB3 : Hid (Below w'.heap.size w' W3) := HB2.out.trans (hb.mono HB2.out.size)
  clear hb
  go_wp2_with fail
  refine (drawFullMoon _ a0 len0 cap0 hlen (KC.out _ HB3.out)).mono ?_
  rintro e W4 ⟨e, f, rfl, hb⟩
  have HB4 : Hid (Below w'.heap.size w' W4) := HB3.out.trans (hb.mono HB3.out.size)
  clear hb
  go_wp2_with fail
  refine (drawEpact _ a0 len0 cap0 hlen (KC.out _ HB4.out)).mono ?_
  rintro _ W5 ⟨g, h, rfl, hb⟩
  have HB5 : Hid (Below w'.heap.size w' W5) := HB4.out.trans (hb.mono HB4.out.size)
  clear hb
  go_wp2_with fail
  refine (drawGolden _ a0 len0 cap0 hlen (KC.out _ HB5.out)).mono ?_
  rintro _ W6 ⟨i, rfl, hb⟩
  have HB6 : Hid (Below w'.heap.size w' W6) := HB5.out.trans (hb.mono HB5.out.size)
  clear hb
  go_wp2_with fail
  refine (drawLetter _ a0 len0 cap0 hlen (KC.out _ HB6.out)).mono ?_
  rintro _ W7 ⟨j, k, rfl, hb⟩
  have HB7 : Hid (Below w'.heap.size w' W7) := HB6.out.trans (hb.mono HB6.out.size)
  clear hb
  go_wp2_with fail
  refine (drawEasterDays _ a0 len0 cap0 hlen (KC.out _ HB7.out)).mono ?_
  rintro _ W8 ⟨l, m, rfl, hb⟩
  have HB8 : Hid (Below w'.heap.size w' W8) := HB7.out.trans (hb.mono HB7.out.size)
  clear hb
  go_wp2_with fail
  refine (drawMoves _ a0 len0 cap0 hlen (KC.out _ HB8.out)).mono ?_
  rintro _ W9 ⟨o, p, q, rfl, hb⟩
  have HB9 : Hid (Below w'.heap.size w' W9) := HB8.out.trans (hb.mono HB8.out.size)
  clear hb
  go_wp2_with fail
  refine (implMoves o p q _ (HT.out.later HB9.out)).mono ?_
  rintro _ W0 ⟨v, rfl, hr, hb⟩
  have HB : Hid (Below w'.heap.size w' W0) := HB9.out.trans (hb.mono HB9.out.size)
  have HR : Hid (IntRow W0 v (moves o p q)) := hr.row
  clear hb hr
  have KT : ∀ x : Later W0, Tab x.w := fun x => Tab.later (Tab.later HT.out HB.out) x.below
  have K1 : ∀ x : Later W0, Calls Tryd.prog 58 #[.int .i64 a, .int .i64 b] x.w fun e w1 => e = .returned (.int .i64 n) ∧ Below x.w.heap.size x.w w1 := fun x => by rw [HN.out]; exact specEaster a b x.w
  have K2 : ∀ x : Later W0, Calls Tryd.prog 59 #[.int .i64 c, .int .i64 d] x.w fun e w1 => e = .returned (.int .i64 (easterTable c d)) ∧ Below x.w.heap.size x.w w1 := fun x => implEasterTable c d x.w (KT x)
  have K3 : ∀ x : Later W0, Calls Tryd.prog 60 #[.int .i64 c, .int .i64 d] x.w fun e w1 => e = .returned (.int .i64 (easterTable c d)) ∧ Below x.w.heap.size x.w w1 := fun x => specEasterTable c d x.w
  have K4 : ∀ x : Later W0, Calls Tryd.prog 61 #[.int .i64 e, .int .i64 f] x.w fun z w1 => z = .returned (.int .i64 (fullMoon e f)) ∧ Below x.w.heap.size x.w w1 := fun x => implFullMoon e f x.w (KT x)
  have K5 : ∀ x : Later W0, Calls Tryd.prog 62 #[.int .i64 e, .int .i64 f] x.w fun z w1 => z = .returned (.int .i64 (fullMoon e f)) ∧ Below x.w.heap.size x.w w1 := fun x => specFullMoon e f x.w
  have K6 : ∀ x : Later W0, Calls Tryd.prog 63 #[.int .i64 g, .int .i64 h] x.w fun z w1 => z = .returned (.int .i64 (epact g h)) ∧ Below x.w.heap.size x.w w1 := fun x => implEpact g h x.w (KT x)
  have K7 : ∀ x : Later W0, Calls Tryd.prog 64 #[.int .i64 g, .int .i64 h] x.w fun z w1 => z = .returned (.int .i64 (epact g h)) ∧ w1 = x.w := fun x => specEpact g h x.w
  have K8 : ∀ x : Later W0, Calls Tryd.prog 65 #[.int .i64 i] x.w fun z w1 => z = .returned (.int .i64 (golden i)) ∧ w1 = x.w := fun x => implGolden i x.w
  have K9 : ∀ x : Later W0, Calls Tryd.prog 66 #[.int .i64 i] x.w fun z w1 => z = .returned (.int .i64 (golden i)) ∧ w1 = x.w := fun x => specGolden i x.w
  have K10 : ∀ x : Later W0, Calls Tryd.prog 67 #[.int .i64 j, .int .i64 k] x.w fun z w1 => z = .returned (.string (letter j k)) ∧ Below x.w.heap.size x.w w1 := fun x => implLetter j k x.w (KT x)
  have K11 : ∀ x : Later W0, Calls Tryd.prog 68 #[.int .i64 j, .int .i64 k] x.w fun z w1 => z = .returned (.string (letter j k)) ∧ Below x.w.heap.size x.w w1 := fun x => specLetter j k x.w
  have K12 : ∀ x : Later W0, Calls Tryd.prog 69 #[.int .i64 l, .int .i64 m] x.w fun z w1 => z = .returned (.int .i64 (easterDays l m)) ∧ Below x.w.heap.size x.w w1 := fun x => implEasterDays l m x.w (KT x)
  have K13 : ∀ x : Later W0, Calls Tryd.prog 70 #[.int .i64 l, .int .i64 m] x.w fun z w1 => z = .returned (.int .i64 (easterDays l m)) ∧ Below x.w.heap.size x.w w1 := fun x => specEasterDays l m x.w
  have K14 : ∀ x : Later W0, Calls Tryd.prog 72 #[.int .i64 o, .int .i64 p, .int .i64 q] x.w fun z w1 => ∃ u, z = .returned u ∧ MovRow x.w w1 u (moves o p q) ∧ Below x.w.heap.size x.w w1 := fun x => specMoves o p q x.w
  have K15 : ∀ (x : Later W0) u, IntRow x.w u (moves o p q) → Calls Tryd.prog 71 #[v, u] x.w fun z w1 => z = .returned (.bool true) ∧ Below x.w.heap.size x.w w1 := fun x u hu => sameInts v u _ x.w (by have := moves_len o p q; omega) (HR.out.below x.below) hu
  have K16 : ∀ x : Later W0, Calls Tryd.prog 59 #[.int .i64 a, .int .i64 b] x.w fun e w1 => e = .returned (.int .i64 n) ∧ Below x.w.heap.size x.w w1 := fun x => by rw [HN.out, ← easter_table]; exact implEasterTable a b x.w (KT x)
  have F1 := hideP (moves_facts o p q)
  have F2 := hideP (moves_b o p q)
  generalize moves o p q = xs at *
  generalize easterTable c d = r1 at *
  generalize fullMoon e f = r2 at *
  generalize epact g h = r3 at *
  generalize golden i = r4 at *
  generalize letter j k = r5 at *
  generalize easterDays l m = r6 at *
  have KT' := hideP KT
  clear KT HT HC KC HB0 HB1 HB2 HB3 HB4 HB5 HB6 HB7 HB8 HB9
  go_wp2_with fail
  refine (K1 ⟨W0, Below.refl _ _⟩).mono ?_
  rintro _ w1 ⟨rfl, hb⟩
  obtain ⟨x1, rfl⟩ := Later.of hb
  clear hb
  go_wp2_with fail
  refine (K2 x1).mono ?_
  rintro _ w1 ⟨rfl, hb⟩
  obtain ⟨x2, rfl⟩ := x1.next hb
  clear hb
  go_wp2_with fail
  refine (K3 x2).mono ?_
  rintro _ w1 ⟨rfl, hb⟩
  obtain ⟨x3, rfl⟩ := x2.next hb
  clear hb
  go_wp2_with fail
  refine (K4 x3).mono ?_
  rintro _ w1 ⟨rfl, hb⟩
  obtain ⟨x4, rfl⟩ := x3.next hb
  clear hb
  go_wp2_with fail
  refine (K5 x4).mono ?_
  rintro _ w1 ⟨rfl, hb⟩
  obtain ⟨x5, rfl⟩ := x4.next hb
  clear hb
  go_wp2_with fail
  refine (K6 x5).mono ?_
  rintro _ w1 ⟨rfl, hb⟩
  obtain ⟨x6, rfl⟩ := x5.next hb
  clear hb
  go_wp2_with fail
  refine (K7 x6).mono ?_
  rintro _ w1 ⟨rfl, rfl⟩
  go_wp2_with fail
  refine (K8 x6).mono ?_
  rintro _ w1 ⟨rfl, rfl⟩
  go_wp2_with fail
  refine (K9 x6).mono ?_
  rintro _ w1 ⟨rfl, rfl⟩
  go_wp2_with fail
  refine (K10 x6).mono ?_
  rintro _ w1 ⟨rfl, hb⟩
  obtain ⟨x7, rfl⟩ := x6.next hb
  clear hb
  go_wp2_with fail
  refine (K11 x7).mono ?_
  rintro _ w1 ⟨rfl, hb⟩
  obtain ⟨x8, rfl⟩ := x7.next hb
  clear hb
  go_wp2_with fail
  refine (K12 x8).mono ?_
  rintro _ w1 ⟨rfl, hb⟩
  obtain ⟨x9, rfl⟩ := x8.next hb
  clear hb
  go_wp2_with fail
  refine (K13 x9).mono ?_
  rintro _ w1 ⟨rfl, hb⟩
  obtain ⟨x10, rfl⟩ := x9.next hb
  clear hb
  go_wp2_with fail
  refine (K14 x10).mono ?_
  rintro _ w1 ⟨u, rfl, hu, hb⟩
  obtain ⟨x11, rfl⟩ := x10.next hb
  have HU := hideP hu.row
  clear hb hu
  go_wp2_with fail
  refine (K15 x11 u HU.out).mono ?_
  rintro _ w1 ⟨rfl, hb⟩
  obtain ⟨x12, rfl⟩ := x11.next hb
  clear hb K1 K2 K3 K4 K5 K6 K7 K8 K9 K10 K11 K12 K13 K14 K15 HU
  obtain ⟨ad, cp, rfl, hcells⟩ := HR.out
  have HX := hideP hcells
  clear hcells HR
  have hL : xs.length ≤ 36 := by rcases F1.out with h | h <;> omega
  generalize hLL : xs.length = L at *
  --@LOOP
  go_wp2_with fail
  go_loopw [21, 22] (fun s i wr => ∃ k : Nat, k ≤ L ∧ i = .int .i64 (k : Int) ∧ s = .int .i64 (sumTo xs k) ∧ wr = x12.w) (fun _ i _ => L - (intOf i).toNat)
  case atStart => exact ⟨0, Nat.zero_le _, rfl, rfl, rfl⟩
  case round =>
    obtain ⟨k', hk, rfl, rfl, rfl⟩ := hrel
    by_cases hlt : k' < L
    · obtain ⟨g1, rfl, _, e1⟩ := HX.out k' hlt
      have e2 : x12.w.cell? ⟨g1, k', none⟩ = some (.int .i64 (xs.getD k' 0)) := Later.at e1 x12
      have hs := sumTo_b xs F2.out k'
      have hz := F2.out k'
      have HS : Hid (sumTo xs (k' + 1) = sumTo xs k' + xs.getD k' 0) := rfl
      clear e1 K16
      generalize xs.getD k' 0 = z at *
      generalize sumTo xs k' = s at *
      go_wp2_with fail
      exact ⟨⟨k' + 1, by omega, by go_num, by rw [HS.out], by first | rfl | trivial⟩, by simp [intOf]; omega⟩
    · have hkL : k' = L := by omega
      subst hkL
      rcases F1.out with h0 | ⟨h36, hsum, hfirst, hp, hpq, hq⟩
      · subst h0
        rw [show sumTo xs 0 = 0 from rfl]
        clear F1 F2 HX
        go_wp2_with fail
        refine (K16 x12).mono ?_
        rintro _ w1 ⟨rfl, hb⟩
        obtain ⟨x13, rfl⟩ := x12.next hb
        clear hb K16
        by_cases hy : yearP a b
        · have FA := hideP (easter_fact hy)
          have FE := hideP (easter_eq hy)
          have FM : Hid (fullMoon a b = march a b + moonOff a b) := by unfold Hid fullMoon; rw [if_pos hy]
          have FB := easter_b hy
          have FB2 := fullMoon_b hy
          rw [← HN.out] at FB
          have KD : ∀ x : Later W0, Calls Tryd.prog 19 #[.int .i64 a, .int .i64 n] x.w fun e w1 => e = .returned (.tuple #[.agg #[.int .i64 a, .int .i64 b, .int .i64 (sumE a b / 31), .int .i64 (sumE a b % 31 + 1)], .bool true]) ∧ Below x.w.heap.size x.w w1 := fun x => by
            rw [← dateR_yes (easter_dateOf hy), ← HN.out]
            exact implDateOf a n x.w (KT'.out x)
          have hmoon : 1 ≤ n - fullMoon a b ∧ n - fullMoon a b ≤ 7 := by
            have h1 := FA.out
            rw [HN.out, FE.out, FM.out]
            omega
          have hweek : n % 7 = 0 := by
            rw [HN.out, FE.out]
            exact FA.out.2.2.2.2
          have hs1 := FA.out.1
          have hs2 := FA.out.2.1
          obtain ⟨m1, hm1⟩ : ∃ m1, m1 = sumE a b / 31 := ⟨_, rfl⟩
          obtain ⟨d1, hd1⟩ : ∃ d1, d1 = sumE a b % 31 + 1 := ⟨_, rfl⟩
          have hmd : (m1 = 3 ∧ 22 ≤ d1 ∧ d1 ≤ 31) ∨ (m1 = 4 ∧ 1 ≤ d1 ∧ d1 ≤ 25) := by omega
          rw [← hm1, ← hd1] at KD
          clear hm1 hd1 FA FE hs1 hs2
          go_wp2_with fail
          refine (KD x13).mono ?_
          rintro _ w1 ⟨rfl, hb⟩
          obtain ⟨x14, rfl⟩ := x13.next hb
          clear hb KD
          go_wp2_with fail
          obtain ⟨V0, hV0⟩ : ∃ V0, V0 = x14.w.alloc (.cells #[.int .i64 a, .int .i64 b, .int .i64 m1, .int .i64 d1] 25) := ⟨_, rfl⟩
          have hBW : Below W0.heap.size W0 V0 := by rw [hV0]; exact x14.below.alloc x14.below.size _
          have HBV : Hid (Below w'.heap.size w' V0) := HB.out.trans (hBW.mono HB.out.size)
          have c0 : ∀ y : Later V0, y.w.cell? ⟨x14.w.heap.size, 0, none⟩ = some (.int .i64 a) := Later.new hV0 0 rfl
          have c1 : ∀ y : Later V0, y.w.cell? ⟨x14.w.heap.size, 1, none⟩ = some (.int .i64 b) := Later.new hV0 1 rfl
          have c2 : ∀ y : Later V0, y.w.cell? ⟨x14.w.heap.size, 2, none⟩ = some (.int .i64 m1) := Later.new hV0 2 rfl
          have c3 : ∀ y : Later V0, y.w.cell? ⟨x14.w.heap.size, 3, none⟩ = some (.int .i64 d1) := Later.new hV0 3 rfl
          have KF := implFullMoon a b V0 (KT'.out ⟨V0, hBW⟩)
          have KW : ∀ W, Calls Tryd.prog 39 #[.int .i64 n] W fun e w' => e = .returned (.int .i64 0) ∧ w' = W := fun W => by rw [← hweek]; exact implWeek n W (by omega)
          clear hweek hBW FM hy
          generalize fullMoon a b = M at *
          rw [← hV0]
          clear hV0
          refine KF.mono ?_
          rintro _ w1 ⟨rfl, hb⟩
          obtain ⟨y1, rfl⟩ := Later.of hb
          clear hb
          rcases hmd with ⟨rfl, h22, h31⟩ | ⟨rfl, h01, h25⟩
          · clear KF
            go_wp2_with fail
            refine (KW _).mono ?_
            rintro _ w1 ⟨rfl, rfl⟩
            go_wp2_with fail
            go_ret
            exact ⟨rfl, HBV.out.trans (y1.below.mono HBV.out.size)⟩
          · clear KF
            go_wp2_with fail
            refine (KW _).mono ?_
            rintro _ w1 ⟨rfl, rfl⟩
            go_wp2_with fail
            go_ret
            exact ⟨rfl, HBV.out.trans (y1.below.mono HBV.out.size)⟩
        · have hz : n = 0 := by rw [HN.out]; unfold easter; rw [if_neg hy]
          subst hz
          have hno : a < 0 ∨ 1 < a ∨ b < 1 ∨ 3000 < b := by unfold yearP at hy; omega
          clear hy HN
          by_cases q1 : a < 0
          · go_wp2_with fail
            go_ret
            exact ⟨rfl, HB.out.trans (x13.below.mono HB.out.size)⟩
          by_cases q2 : 1 < a
          · go_wp2_with fail
            go_ret
            exact ⟨rfl, HB.out.trans (x13.below.mono HB.out.size)⟩
          by_cases q3 : b < 1
          · go_wp2_with fail
            go_ret
            exact ⟨rfl, HB.out.trans (x13.below.mono HB.out.size)⟩
          have q4 : 3000 < b := by omega
          go_wp2_with fail
          go_ret
          exact ⟨rfl, HB.out.trans (x13.below.mono HB.out.size)⟩
      · subst h36
        obtain ⟨g1, rfl, _, e1⟩ := HX.out 0 (by omega)
        have e2 : x12.w.cell? ⟨g1, 0, none⟩ = some (.int .i64 0) := by rw [← hfirst]; exact Later.at e1 x12
        rw [hsum]
        clear e1 F1 F2 HX hsum hfirst
        go_wp2_with fail
        refine (K16 x12).mono ?_
        rintro _ w1 ⟨rfl, hb⟩
        obtain ⟨x13, rfl⟩ := x12.next hb
        clear hb K16
        by_cases hy : yearP a b
        · have FA := hideP (easter_fact hy)
          have FE := hideP (easter_eq hy)
          have FM : Hid (fullMoon a b = march a b + moonOff a b) := by unfold Hid fullMoon; rw [if_pos hy]
          have FB := easter_b hy
          have FB2 := fullMoon_b hy
          rw [← HN.out] at FB
          have KD : ∀ x : Later W0, Calls Tryd.prog 19 #[.int .i64 a, .int .i64 n] x.w fun e w1 => e = .returned (.tuple #[.agg #[.int .i64 a, .int .i64 b, .int .i64 (sumE a b / 31), .int .i64 (sumE a b % 31 + 1)], .bool true]) ∧ Below x.w.heap.size x.w w1 := fun x => by
            rw [← dateR_yes (easter_dateOf hy), ← HN.out]
            exact implDateOf a n x.w (KT'.out x)
          have hmoon : 1 ≤ n - fullMoon a b ∧ n - fullMoon a b ≤ 7 := by
            have h1 := FA.out
            rw [HN.out, FE.out, FM.out]
            omega
          have hweek : n % 7 = 0 := by
            rw [HN.out, FE.out]
            exact FA.out.2.2.2.2
          have hs1 := FA.out.1
          have hs2 := FA.out.2.1
          obtain ⟨m1, hm1⟩ : ∃ m1, m1 = sumE a b / 31 := ⟨_, rfl⟩
          obtain ⟨d1, hd1⟩ : ∃ d1, d1 = sumE a b % 31 + 1 := ⟨_, rfl⟩
          have hmd : (m1 = 3 ∧ 22 ≤ d1 ∧ d1 ≤ 31) ∨ (m1 = 4 ∧ 1 ≤ d1 ∧ d1 ≤ 25) := by omega
          rw [← hm1, ← hd1] at KD
          clear hm1 hd1 FA FE hs1 hs2
          go_wp2_with fail
          refine (KD x13).mono ?_
          rintro _ w1 ⟨rfl, hb⟩
          obtain ⟨x14, rfl⟩ := x13.next hb
          clear hb KD
          go_wp2_with fail
          obtain ⟨V0, hV0⟩ : ∃ V0, V0 = x14.w.alloc (.cells #[.int .i64 a, .int .i64 b, .int .i64 m1, .int .i64 d1] 25) := ⟨_, rfl⟩
          have hBW : Below W0.heap.size W0 V0 := by rw [hV0]; exact x14.below.alloc x14.below.size _
          have HBV : Hid (Below w'.heap.size w' V0) := HB.out.trans (hBW.mono HB.out.size)
          have c0 : ∀ y : Later V0, y.w.cell? ⟨x14.w.heap.size, 0, none⟩ = some (.int .i64 a) := Later.new hV0 0 rfl
          have c1 : ∀ y : Later V0, y.w.cell? ⟨x14.w.heap.size, 1, none⟩ = some (.int .i64 b) := Later.new hV0 1 rfl
          have c2 : ∀ y : Later V0, y.w.cell? ⟨x14.w.heap.size, 2, none⟩ = some (.int .i64 m1) := Later.new hV0 2 rfl
          have c3 : ∀ y : Later V0, y.w.cell? ⟨x14.w.heap.size, 3, none⟩ = some (.int .i64 d1) := Later.new hV0 3 rfl
          have KF := implFullMoon a b V0 (KT'.out ⟨V0, hBW⟩)
          have KW : ∀ W, Calls Tryd.prog 39 #[.int .i64 n] W fun e w' => e = .returned (.int .i64 0) ∧ w' = W := fun W => by rw [← hweek]; exact implWeek n W (by omega)
          clear hweek hBW FM hy
          generalize fullMoon a b = M at *
          rw [← hV0]
          clear hV0
          refine KF.mono ?_
          rintro _ w1 ⟨rfl, hb⟩
          obtain ⟨y1, rfl⟩ := Later.of hb
          clear hb
          rcases hmd with ⟨rfl, h22, h31⟩ | ⟨rfl, h01, h25⟩
          · clear KF
            go_wp2_with fail
            refine (KW _).mono ?_
            rintro _ w1 ⟨rfl, rfl⟩
            go_wp2_with fail
            go_ret
            exact ⟨rfl, HBV.out.trans (y1.below.mono HBV.out.size)⟩
          · clear KF
            go_wp2_with fail
            refine (KW _).mono ?_
            rintro _ w1 ⟨rfl, rfl⟩
            go_wp2_with fail
            go_ret
            exact ⟨rfl, HBV.out.trans (y1.below.mono HBV.out.size)⟩
        · have hz : n = 0 := by rw [HN.out]; unfold easter; rw [if_neg hy]
          subst hz
          have hno : a < 0 ∨ 1 < a ∨ b < 1 ∨ 3000 < b := by unfold yearP at hy; omega
          clear hy HN
          by_cases q1 : a < 0
          · go_wp2_with fail
            go_ret
            exact ⟨rfl, HB.out.trans (x13.below.mono HB.out.size)⟩
          by_cases q2 : 1 < a
          · go_wp2_with fail
            go_ret
            exact ⟨rfl, HB.out.trans (x13.below.mono HB.out.size)⟩
          by_cases q3 : b < 1
          · go_wp2_with fail
            go_ret
            exact ⟨rfl, HB.out.trans (x13.below.mono HB.out.size)⟩
          have q4 : 3000 < b := by omega
          go_wp2_with fail
          go_ret
          exact ⟨rfl, HB.out.trans (x13.below.mono HB.out.size)⟩
end Go.Proofs.YtckjcaloofjeoaaDoor.ctr
