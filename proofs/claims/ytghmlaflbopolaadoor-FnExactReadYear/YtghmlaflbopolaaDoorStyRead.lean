/- Contracts of ReadYear of both sides: each answers the plain reading of a text of years, at every text of at most 1048576 bytes, where the library's table of powers of ten holds its numbers. -/
import Derived.Test.YtghmlaflbopolaaDoorStyText
import Derived.Test.YtghmlaflbopolaaDoorCutByte
import Derived.Test.YtghmlaflbopolaaDoorReadImpl
import Derived.Test.YtghmlaflbopolaaDoorRowBase
namespace Go.Proofs.YtghmlaflbopolaaDoor.ctr
open Go.RowKit

theorem eq_str {a b : ByteArray} (h : a = b) : (a.toList == b.toList) = true := by rw [h]; simp
theorem ne_str {a b : ByteArray} (h : a ≠ b) : (a.toList == b.toList) = false := by
  cases hq : (a.toList == b.toList)
  · rfl
  · exact absurd (str_eq hq) h

set_option maxRecDepth 100000 in
set_option maxHeartbeats 2000000 in
theorem specReadYear (s : ByteArray) (w : World) (hs : s.size ≤ 1048576) : Calls Tryd.prog 39 #[.string s] w fun e w' => e = .returned (.tuple #[.int .i64 (readYr s).1, .int .i64 (readYr s).2.1, .bool (readYr s).2.2]) ∧ Below w.heap.size w w' := by
  have hne := cut_ne s 47
  have hz0 := cut_short s 47 0
  have hz1 := cut_short s 47 1
  have hcl := cut_long s 47
  have KC := l01Cut s 47 w hs
  obtain ⟨R1, R2, R3, hR⟩ : ∃ R1 R2 R3, readYr s = (R1, R2, R3) := ⟨_, _, _, rfl⟩
  rw [hR]
  have HV := hideP hR
  unfold readYr at HV
  clear hR
  generalize cut s 47 = xs at *
  have hl0 : 0 < xs.length := by
    rcases xs with _ | _
    · exact absurd rfl hne
    · simp
  obtain ⟨n0, hn0⟩ : ∃ n0, n0 = xs.getD 0 ⟨#[]⟩ := ⟨_, rfl⟩
  obtain ⟨n1, hn1⟩ : ∃ n1, n1 = xs.getD 1 ⟨#[]⟩ := ⟨_, rfl⟩
  rw [← hn0, ← hn1] at HV
  rw [← hn0] at hz0
  rw [← hn1] at hz1
  have HN0 := hideP hn0
  have HN1 := hideP hn1
  clear hn0 hn1
  have KR0 : ∀ W, Calls Tryd.prog 75 #[.string n0] W fun e w' => e = .returned (.int .i64 (readDec n0)) ∧ Below W.heap.size W w' := fun W => calls_bel (specReadDec _ W (by unfold maxLen; omega))
  have KR1 : ∀ W, Calls Tryd.prog 75 #[.string n1] W fun e w' => e = .returned (.int .i64 (readDec n1)) ∧ Below W.heap.size W w' := fun W => calls_bel (specReadDec _ W (by unfold maxLen; omega))
  have KT : ∀ y z W, Calls Tryd.prog 37 #[.int .i64 y, .int .i64 z] W fun e w' => e = .returned (.string (yearText y z)) ∧ Below W.heap.size W w' := fun y z W => specYearText y z W
  generalize readDec n0 = y at *
  generalize readDec n1 = z at *
  go_enter Tryd.func39, Tryd.ntmps39
  go_wp2_with fail
  refine KC.mono ?_
  rintro e W1 ⟨v, rfl, hr, hb1⟩
  obtain ⟨g, cap, rfl, hg, hgl, hst, _⟩ := own_row hr hne
  have B1 := hideP hb1
  have e0 : W1.cell? ⟨g, 0, none⟩ = some (.string n0) := by rw [HN0.out]; exact hst 0 hl0
  have HST := hideP hst
  clear hr hb1 hst KC
  go_wp2_with fail
  refine (KR0 _).mono ?_
  rintro e W2 ⟨rfl, hb2⟩
  have B2 : Hid (Below w.heap.size w W2) := B1.out.trans (hb2.mono B1.out.size)
  have HST2 := hideP (HST.out.below hb2 hgl)
  clear hb2 e0
  by_cases h2 : xs.length = 2
  · rw [if_pos h2] at HV
    have h2' : ((xs.length : Int) == 2) = true := by simp [h2]
    have hl1 : 1 < xs.length := by omega
    have e1 : W2.cell? ⟨g, 1, none⟩ = some (.string n1) := by rw [HN1.out]; exact HST2.out 1 hl1
    have hi1 : (1 : Int) < (xs.length : Int) := by omega
    go_wp2_with fail
    refine (KR1 _).mono ?_
    rintro e W3 ⟨rfl, hb3⟩
    have B3 : Hid (Below w.heap.size w W3) := B2.out.trans (hb3.mono B2.out.size)
    clear hb3 e1
    by_cases hz : s.size = 0
    · have hE := empty_yes hz
      have HE : Hid ((0, 0, false) = (R1, R2, R3)) := by unfold Hid; rw [← HV.out]; unfold rdParts; rw [if_pos (.inl hz)]
      obtain ⟨rfl, rfl, rfl⟩ : 0 = R1 ∧ 0 = R2 ∧ false = R3 := by simpa using HE.out
      clear HE HV KT
      go_wp2
      go_ret3
      exact ⟨rfl, B3.out⟩
    have hE := empty_no hz
    by_cases ht : yearText y z = s
    · have hq := eq_str ht
      have HE : Hid ((y, z, true) = (R1, R2, R3)) := by unfold Hid; rw [← HV.out]; unfold rdParts; rw [if_neg (fun h => h.elim hz (fun h => h ht))]
      obtain ⟨rfl, rfl, rfl⟩ : y = R1 ∧ z = R2 ∧ true = R3 := by simpa using HE.out
      have K := KT y z
      clear HE HV KT ht
      generalize yearText y z = t at *
      go_wp2_with fail
      refine (K _).mono ?_
      rintro e W4 ⟨rfl, hb4⟩
      have B4 : Hid (Below w.heap.size w W4) := B3.out.trans (hb4.mono B3.out.size)
      clear hb4
      go_wp2
      go_ret3
      exact ⟨rfl, B4.out⟩
    · have hq := ne_str ht
      have HE : Hid ((0, 0, false) = (R1, R2, R3)) := by unfold Hid; rw [← HV.out]; unfold rdParts; rw [if_pos (.inr ht)]
      obtain ⟨rfl, rfl, rfl⟩ : 0 = R1 ∧ 0 = R2 ∧ false = R3 := by simpa using HE.out
      have K := KT y z
      clear HE HV KT ht
      generalize yearText y z = t at *
      go_wp2_with fail
      refine (K _).mono ?_
      rintro e W4 ⟨rfl, hb4⟩
      have B4 : Hid (Below w.heap.size w W4) := B3.out.trans (hb4.mono B3.out.size)
      clear hb4
      go_wp2
      go_ret3
      exact ⟨rfl, B4.out⟩
  · rw [if_neg h2] at HV
    have h2' : ((xs.length : Int) == 2) = false := by simp; omega
    by_cases hz : s.size = 0
    · have hE := empty_yes hz
      have HE : Hid ((0, 0, false) = (R1, R2, R3)) := by unfold Hid; rw [← HV.out]; unfold rdParts; rw [if_pos (.inl hz)]
      obtain ⟨rfl, rfl, rfl⟩ : 0 = R1 ∧ 0 = R2 ∧ false = R3 := by simpa using HE.out
      clear HE HV KT
      go_wp2
      go_ret3
      exact ⟨rfl, B2.out⟩
    have hE := empty_no hz
    by_cases ht : yearText y y = s
    · have hq := eq_str ht
      have HE : Hid ((y, y, true) = (R1, R2, R3)) := by unfold Hid; rw [← HV.out]; unfold rdParts; rw [if_neg (fun h => h.elim hz (fun h => h ht))]
      obtain ⟨rfl, rfl, rfl⟩ : y = R1 ∧ y = R2 ∧ true = R3 := by simpa using HE.out
      have K := KT y y
      clear HE HV KT ht
      generalize yearText y y = t at *
      go_wp2_with fail
      refine (K _).mono ?_
      rintro e W4 ⟨rfl, hb4⟩
      have B4 : Hid (Below w.heap.size w W4) := B2.out.trans (hb4.mono B2.out.size)
      clear hb4
      go_wp2
      go_ret3
      exact ⟨rfl, B4.out⟩
    · have hq := ne_str ht
      have HE : Hid ((0, 0, false) = (R1, R2, R3)) := by unfold Hid; rw [← HV.out]; unfold rdParts; rw [if_pos (.inr ht)]
      obtain ⟨rfl, rfl, rfl⟩ : 0 = R1 ∧ 0 = R2 ∧ false = R3 := by simpa using HE.out
      have K := KT y y
      clear HE HV KT ht
      generalize yearText y y = t at *
      go_wp2_with fail
      refine (K _).mono ?_
      rintro e W4 ⟨rfl, hb4⟩
      have B4 : Hid (Below w.heap.size w W4) := B2.out.trans (hb4.mono B2.out.size)
      clear hb4
      go_wp2
      go_ret3
      exact ⟨rfl, B4.out⟩

set_option maxRecDepth 100000 in
set_option maxHeartbeats 2000000 in
theorem implReadYear (s : ByteArray) (w : World) (hs : s.size ≤ 1048576) (hP : Pow w) : Calls Tryd.prog 40 #[.string s] w fun e w' => e = .returned (.tuple #[.int .i64 (readYr s).1, .int .i64 (readYr s).2.1, .bool (readYr s).2.2]) ∧ Below w.heap.size w w' := by
  have HP := hideP hP
  clear hP
  obtain ⟨R1, R2, R3, hR⟩ : ∃ R1 R2 R3, readYr s = (R1, R2, R3) := ⟨_, _, _, rfl⟩
  rw [hR]
  have KT : ∀ y z W, Pow W → Calls Tryd.prog 38 #[.int .i64 y, .int .i64 z] W fun e w' => e = .returned (.string (yearText y z)) ∧ Below W.heap.size W w' := fun y z W h => implYearText y z W h
  rcases cut_first s 47 with ⟨p, hp, hix, hat, hno⟩ | ⟨hix, hno⟩
  · have KC : Calls Tryd.prog 76 #[.string s, .string ⟨#[47]⟩] w fun e w' => e = .returned (.tuple #[.string (s.extract 0 p), .string (s.extract (p + 1) s.size), .bool true]) ∧ Below w.heap.size w w' := cutFace s _ _ 47 _ w (cutHit s 47 p w hs hp hix)
    have hz0 : (s.extract 0 p).size ≤ s.size := by rw [ByteArray.size_extract]; omega
    have hz1 : (s.extract (p + 1) s.size).size ≤ s.size := by rw [ByteArray.size_extract]; omega
    have HV := hideP ((rd_hit s p hp hat hno).symm.trans hR)
    clear hix hat hno hR
    generalize s.extract 0 p = n0 at *
    generalize s.extract (p + 1) s.size = n1 at *
    have KR0 : ∀ W, Pow W → Calls Tryd.prog 77 #[.string n0] W fun e w' => e = .returned (.int .i64 (readDec n0)) ∧ Below W.heap.size W w' := fun W h => implReadDec n0 W (by unfold maxLen; omega) h
    have KR1 : ∀ W, Pow W → Calls Tryd.prog 77 #[.string n1] W fun e w' => e = .returned (.int .i64 (readDec n1)) ∧ Below W.heap.size W w' := fun W h => implReadDec n1 W (by unfold maxLen; omega) h
    generalize readDec n0 = y at *
    generalize readDec n1 = z at *
    have K := KT y z
    clear KT
    generalize yearText y z = t at *
    go_enter Tryd.func40, Tryd.ntmps40
    go_wp2_with fail
    refine KC.mono ?_
    rintro e W1 ⟨rfl, hb1⟩
    have B1 := hideP hb1
    clear hb1 KC
    go_wp2_with fail
    refine (KR0 _ (pow_later HP.out B1.out)).mono ?_
    rintro e W2 ⟨rfl, hb2⟩
    have B2 : Hid (Below w.heap.size w W2) := B1.out.trans (hb2.mono B1.out.size)
    clear hb2 KR0
    go_wp2_with fail
    refine (KR1 _ (pow_later HP.out B2.out)).mono ?_
    rintro e W3 ⟨rfl, hb3⟩
    have B3 : Hid (Below w.heap.size w W3) := B2.out.trans (hb3.mono B2.out.size)
    clear hb3 KR1
    go_wp2_with fail
    refine (K _ (pow_later HP.out B3.out)).mono ?_
    rintro e W4 ⟨rfl, hb4⟩
    have B4 : Hid (Below w.heap.size w W4) := B3.out.trans (hb4.mono B3.out.size)
    clear hb4
    by_cases hz : t.size = 0
    · have hE := empty_yes hz
      have HE : Hid ((0, 0, false) = (R1, R2, R3)) := by unfold Hid; rw [← HV.out]; unfold rdText; rw [if_pos (.inl hz)]
      obtain ⟨rfl, rfl, rfl⟩ : 0 = R1 ∧ 0 = R2 ∧ false = R3 := by simpa using HE.out
      clear HE HV K
      go_wp2
      go_ret3
      exact ⟨rfl, B4.out⟩
    have hE := empty_no hz
    by_cases ht : t = s
    · have hq := eq_str ht
      have HE : Hid ((y, z, true) = (R1, R2, R3)) := by unfold Hid; rw [← HV.out]; unfold rdText; rw [if_neg (fun h => h.elim hz (fun h => h ht))]
      obtain ⟨rfl, rfl, rfl⟩ : y = R1 ∧ z = R2 ∧ true = R3 := by simpa using HE.out
      clear HE HV ht K
      go_wp2
      go_ret3
      exact ⟨rfl, B4.out⟩
    · have hq := ne_str ht
      have HE : Hid ((0, 0, false) = (R1, R2, R3)) := by unfold Hid; rw [← HV.out]; unfold rdText; rw [if_pos (.inr ht)]
      obtain ⟨rfl, rfl, rfl⟩ : 0 = R1 ∧ 0 = R2 ∧ false = R3 := by simpa using HE.out
      clear HE HV ht K
      go_wp2
      go_ret3
      exact ⟨rfl, B4.out⟩
  · have KC : Calls Tryd.prog 76 #[.string s, .string ⟨#[47]⟩] w fun e w' => e = .returned (.tuple #[.string s, .string ⟨#[]⟩, .bool false]) ∧ Below w.heap.size w w' := cutFace s _ _ 47 _ w (cutMiss s 47 w hix)
    have HV := hideP ((rd_miss s hno).symm.trans hR)
    clear hix hno hR
    have KR0 : ∀ W, Pow W → Calls Tryd.prog 77 #[.string s] W fun e w' => e = .returned (.int .i64 (readDec s)) ∧ Below W.heap.size W w' := fun W h => implReadDec s W (by unfold maxLen; omega) h
    generalize readDec s = y at *
    have K := KT y y
    clear KT
    generalize yearText y y = t at *
    go_enter Tryd.func40, Tryd.ntmps40
    go_wp2_with fail
    refine KC.mono ?_
    rintro e W1 ⟨rfl, hb1⟩
    have B1 := hideP hb1
    clear hb1 KC
    go_wp2_with fail
    refine (KR0 _ (pow_later HP.out B1.out)).mono ?_
    rintro e W2 ⟨rfl, hb2⟩
    have B2 : Hid (Below w.heap.size w W2) := B1.out.trans (hb2.mono B1.out.size)
    clear hb2 KR0
    go_wp2_with fail
    refine (K _ (pow_later HP.out B2.out)).mono ?_
    rintro e W4 ⟨rfl, hb4⟩
    have B4 : Hid (Below w.heap.size w W4) := B2.out.trans (hb4.mono B2.out.size)
    clear hb4
    by_cases hz : t.size = 0
    · have hE := empty_yes hz
      have HE : Hid ((0, 0, false) = (R1, R2, R3)) := by unfold Hid; rw [← HV.out]; unfold rdText; rw [if_pos (.inl hz)]
      obtain ⟨rfl, rfl, rfl⟩ : 0 = R1 ∧ 0 = R2 ∧ false = R3 := by simpa using HE.out
      clear HE HV K
      go_wp2
      go_ret3
      exact ⟨rfl, B4.out⟩
    have hE := empty_no hz
    by_cases ht : t = s
    · have hq := eq_str ht
      have HE : Hid ((y, y, true) = (R1, R2, R3)) := by unfold Hid; rw [← HV.out]; unfold rdText; rw [if_neg (fun h => h.elim hz (fun h => h ht))]
      obtain ⟨rfl, rfl, rfl⟩ : y = R1 ∧ y = R2 ∧ true = R3 := by simpa using HE.out
      clear HE HV ht K
      go_wp2
      go_ret3
      exact ⟨rfl, B4.out⟩
    · have hq := ne_str ht
      have HE : Hid ((0, 0, false) = (R1, R2, R3)) := by unfold Hid; rw [← HV.out]; unfold rdText; rw [if_pos (.inr ht)]
      obtain ⟨rfl, rfl, rfl⟩ : 0 = R1 ∧ 0 = R2 ∧ false = R3 := by simpa using HE.out
      clear HE HV ht K
      go_wp2
      go_ret3
      exact ⟨rfl, B4.out⟩
end Go.Proofs.YtghmlaflbopolaaDoor.ctr
