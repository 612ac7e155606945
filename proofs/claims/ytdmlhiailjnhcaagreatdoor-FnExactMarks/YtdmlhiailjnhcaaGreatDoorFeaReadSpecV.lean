/- Contracts of the model's ReadFeast and FeastPlus: each answers its plain function, at every text of at most 1048576 bytes. -/
import Derived.Test.YtdmlhiailjnhcaaGreatDoorJnVar
import Derived.Test.YtdmlhiailjnhcaaGreatDoorJnVag
import Derived.Test.YtdmlhiailjnhcaaGreatDoorJnVam
import Derived.Test.YtdmlhiailjnhcaaGreatDoorJnVaf
namespace Go.Proofs.YtdmlhiailjnhcaaGreatDoor.ctr
open Go.RowKit
set_option maxRecDepth 100000 in
set_option maxHeartbeats 2000000 in
theorem specReadF (s : ByteArray) (w : World) (hs : s.size ≤ 1048576) : CR 67 #[.string s] w (.tuple #[.int .i64 (readFeast s).1, .int .i64 (readFeast s).2]) := by
  have hne := cut_ne s 43
  have hz0 := cut_short s 43 0
  have hz1 := cut_short s 43 1
  have hcl := cut_long s 43
  have KC := l01Cut s 43 w hs
  have HV : Hid (readFeast s = readParts (cut s 43)) := rfl
  rw [HV.out]
  clear HV
  generalize cut s 43 = xs at *
  have hl0 : 0 < xs.length := by
    rcases xs with _ | _
    · exact absurd rfl hne
    · simp
  have HV : Hid (readParts xs = if xs.length = 1 then (findFeast (xs.getD 0 ⟨#[]⟩), 0) else if findFeast (xs.getD 0 ⟨#[]⟩) < 0 ∨ 2 < xs.length ∨ readDec (xs.getD 1 ⟨#[]⟩) < 1 ∨ 99 < readDec (xs.getD 1 ⟨#[]⟩) then (-1, 0) else (findFeast (xs.getD 0 ⟨#[]⟩), readDec (xs.getD 1 ⟨#[]⟩))) := rfl
  obtain ⟨R, hR⟩ : ∃ R, R = readParts xs := ⟨_, rfl⟩
  rw [← hR]
  have HR := hideP (hR.trans HV.out)
  clear hR HV
  obtain ⟨n0, hn0⟩ : ∃ n0, n0 = xs.getD 0 ⟨#[]⟩ := ⟨_, rfl⟩
  obtain ⟨n1, hn1⟩ : ∃ n1, n1 = xs.getD 1 ⟨#[]⟩ := ⟨_, rfl⟩
  rw [← hn0, ← hn1] at HR
  rw [← hn0] at hz0
  rw [← hn1] at hz1
  have HN0 := hideP hn0
  have HN1 := hideP hn1
  clear hn0 hn1
  have KF : ∀ W, CR 120 #[.string n0] W (.int .i64 (findFeast n0)) := fun W => specFind _ W
  have KR : ∀ W, Calls Tryz.prog 121 #[.string n1] W fun e w' => e = .returned (.int .i64 (readDec n1)) ∧ w' = W := fun W => specReadDec _ W (by unfold maxLen; omega)
  have hfb := find_b n0
  generalize findFeast n0 = at0 at *
  generalize readDec n1 = kk at *
  go_enter Tryz.func67, Tryz.ntmps67
  go_wp2_with fail
  refine KC.mono ?_
  rintro e W1 ⟨v, rfl, hr, hb1⟩
  obtain ⟨g, cap, rfl, hg, hgl, hst, _⟩ := own_row hr hne
  have B1 := hideP hb1
  have e0 : W1.cell? ⟨g, 0, none⟩ = some (.string n0) := by rw [HN0.out]; exact hst 0 hl0
  have HST := hideP hst
  clear hr hb1 hst KC
  go_wp2_with fail
  refine (KF _).mono ?_
  rintro e W2 ⟨rfl, hb2⟩
  have B2 : Hid (Below w.heap.size w W2) := B1.out.trans (hb2.mono B1.out.size)
  have HST2 := hideP (HST.out.below hb2 hgl)
  clear hb2 e0
  by_cases h1 : xs.length = 1
  · have HE := hideP (HR.out.trans (if_pos h1))
    clear HR
    have h1' : ((xs.length : Int) == 1) = true := by simp [h1]
    go_wp2
    go_ret2
    rw [HE.out]
    exact ⟨rfl, B2.out⟩
  have h1' : ((xs.length : Int) == 1) = false := by simp; omega
  have HE := hideP (HR.out.trans (if_neg h1))
  have hl1 : 1 < xs.length := by omega
  have e1 : W2.cell? ⟨g, 1, none⟩ = some (.string n1) := by rw [HN1.out]; exact HST2.out 1 hl1
  have hi1 : (1 : Int) < (xs.length : Int) := by omega
  clear HR
  go_wp2_with fail
  refine (KR _).mono ?_
  rintro e w3 ⟨rfl, rfl⟩
  clear e1
  by_cases q1 : at0 < 0
  · have HE2 := hideP (HE.out.trans (if_pos (.inl q1)))
    clear HE
    go_wp2
    go_ret2
    rw [HE2.out]
    exact ⟨rfl, B2.out⟩
  by_cases q2 : 2 < xs.length
  · have HE2 := hideP (HE.out.trans (if_pos (.inr (.inl q2))))
    have q2' : (2 : Int) < (xs.length : Int) := by omega
    clear HE
    go_wp2
    go_ret2
    rw [HE2.out]
    exact ⟨rfl, B2.out⟩
  have q2' : ¬ (2 : Int) < (xs.length : Int) := by omega
  have KI : ∀ W, Calls Tryz.prog 45 #[.int .i64 kk, .int .i64 1, .int .i64 99] W fun e w' => e = .returned (.bool (inB kk 1 99)) ∧ w' = W := l01In kk 1 99
  by_cases q3 : kk < 1 ∨ 99 < kk
  · have HE2 := hideP (HE.out.trans (if_pos (.inr (.inr q3))))
    rw [inB_false q3] at KI
    clear HE q3
    go_wp2_with fail
    refine (KI _).mono ?_
    rintro e w3 ⟨rfl, rfl⟩
    go_wp2
    go_ret2
    rw [HE2.out]
    exact ⟨rfl, B2.out⟩
  · have HE2 := hideP (HE.out.trans (if_neg (fun h => by omega)))
    rw [inB_true (by omega) (by omega)] at KI
    clear HE q3
    go_wp2_with fail
    refine (KI _).mono ?_
    rintro e w3 ⟨rfl, rfl⟩
    go_wp2
    go_ret2
    rw [HE2.out]
    exact ⟨rfl, B2.out⟩
end Go.Proofs.YtdmlhiailjnhcaaGreatDoor.ctr
