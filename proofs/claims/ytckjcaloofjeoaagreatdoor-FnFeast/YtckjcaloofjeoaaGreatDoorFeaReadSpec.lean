/- Contracts of the model's ReadFeast and FeastPlus: each answers its plain function, at every text of at most 1048576 bytes. -/
import Derived.Test.YtckjcaloofjeoaaGreatDoorFeaRead
import Derived.Test.YtckjcaloofjeoaaGreatDoorFeaFind
import Derived.Test.YtckjcaloofjeoaaGreatDoorFeaDayCtr
import Derived.Test.YtckjcaloofjeoaaGreatDoorRowBase
namespace Go.Proofs.YtckjcaloofjeoaaGreatDoor.ctr
open Go.RowKit

set_option maxRecDepth 100000 in
set_option maxHeartbeats 2000000 in
theorem specRead (s : ByteArray) (w : World) (hs : s.size ≤ 1048576) : Calls Tryz.prog 15 #[.string s] w fun e w' => e = .returned (.tuple #[.int .i64 (readFeast s).1, .int .i64 (readFeast s).2]) ∧ Below w.heap.size w w' := by
  have hne := cut_ne s 43
  have hz0 := cut_short s 43 0
  have hz1 := cut_short s 43 1
  have hcl := cut_long s 43
  have KC := l01Cut s 43 w hs
  have HV : Hid (readFeast s = readParts (cut s 43)) := rfl
  rw [HV.out]
  clear HV
  generalize cut s 43 = xs at *
  have hl0 : 0 < xs.length := by
    rcases xs with _ | _
    · exact absurd rfl hne
    · simp
  have HV : Hid (readParts xs = if xs.length = 1 then (findFeast (xs.getD 0 ⟨#[]⟩), 0) else if findFeast (xs.getD 0 ⟨#[]⟩) < 0 ∨ 2 < xs.length ∨ readDec (xs.getD 1 ⟨#[]⟩) < 1 ∨ 99 < readDec (xs.getD 1 ⟨#[]⟩) then (-1, 0) else (findFeast (xs.getD 0 ⟨#[]⟩), readDec (xs.getD 1 ⟨#[]⟩))) := rfl
  obtain ⟨R, hR⟩ : ∃ R, R = readParts xs := ⟨_, rfl⟩
  rw [← hR]
  have HR := hideP (hR.trans HV.out)
  clear hR HV
  obtain ⟨n0, hn0⟩ : ∃ n0, n0 = xs.getD 0 ⟨#[]⟩ := ⟨_, rfl⟩
  obtain ⟨n1, hn1⟩ : ∃ n1, n1 = xs.getD 1 ⟨#[]⟩ := ⟨_, rfl⟩
  rw [← hn0, ← hn1] at HR
  rw [← hn0] at hz0
  rw [← hn1] at hz1
  have HN0 := hideP hn0
  have HN1 := hideP hn1
  clear hn0 hn1
  have KF : ∀ W, Calls Tryz.prog 23 #[.string n0] W fun e w' => e = .returned (.int .i64 (findFeast n0)) ∧ Below W.heap.size W w' := fun W => specFind _ W
  have KR : ∀ W, Calls Tryz.prog 46 #[.string n1] W fun e w' => e = .returned (.int .i64 (readDec n1)) ∧ w' = W := fun W => specReadDec _ W (by unfold maxLen; omega)
  have hfb := find_b n0
  generalize findFeast n0 = at0 at *
  generalize readDec n1 = kk at *
  go_enter Tryz.func15, Tryz.ntmps15
  go_wp2_with fail
  refine KC.mono ?_
  rintro e W1 ⟨v, rfl, hr, hb1⟩
  obtain ⟨g, cap, rfl, hg, hgl, hst, _⟩ := own_row hr hne
  have B1 := hideP hb1
  have e0 : W1.cell? ⟨g, 0, none⟩ = some (.string n0) := by rw [HN0.out]; exact hst 0 hl0
  have HST := hideP hst
  clear hr hb1 hst KC
  go_wp2_with fail
  refine (KF _).mono ?_
  rintro e W2 ⟨rfl, hb2⟩
  have B2 : Hid (Below w.heap.size w W2) := B1.out.trans (hb2.mono B1.out.size)
  have HST2 := hideP (HST.out.below hb2 hgl)
  clear hb2 e0
  by_cases h1 : xs.length = 1
  · have HE := hideP (HR.out.trans (if_pos h1))
    clear HR
    have h1' : ((xs.length : Int) == 1) = true := by simp [h1]
    go_wp2
    go_ret2
    rw [HE.out]
    exact ⟨rfl, B2.out⟩
  have h1' : ((xs.length : Int) == 1) = false := by simp; omega
  have HE := hideP (HR.out.trans (if_neg h1))
  have hl1 : 1 < xs.length := by omega
  have e1 : W2.cell? ⟨g, 1, none⟩ = some (.string n1) := by rw [HN1.out]; exact HST2.out 1 hl1
  have hi1 : (1 : Int) < (xs.length : Int) := by omega
  clear HR
  go_wp2_with fail
  refine (KR _).mono ?_
  rintro e w3 ⟨rfl, rfl⟩
  clear e1
  by_cases q1 : at0 < 0
  · have HE2 := hideP (HE.out.trans (if_pos (.inl q1)))
    clear HE
    go_wp2
    go_ret2
    rw [HE2.out]
    exact ⟨rfl, B2.out⟩
  by_cases q2 : 2 < xs.length
  · have HE2 := hideP (HE.out.trans (if_pos (.inr (.inl q2))))
    have q2' : (2 : Int) < (xs.length : Int) := by omega
    clear HE
    go_wp2
    go_ret2
    rw [HE2.out]
    exact ⟨rfl, B2.out⟩
  have q2' : ¬ (2 : Int) < (xs.length : Int) := by omega
  have KI : ∀ W, Calls Tryz.prog 47 #[.int .i64 kk, .int .i64 1, .int .i64 99] W fun e w' => e = .returned (.bool (inB kk 1 99)) ∧ w' = W := l01In kk 1 99
  by_cases q3 : kk < 1 ∨ 99 < kk
  · have HE2 := hideP (HE.out.trans (if_pos (.inr (.inr q3))))
    rw [inB_false q3] at KI
    clear HE q3
    go_wp2_with fail
    refine (KI _).mono ?_
    rintro e w3 ⟨rfl, rfl⟩
    go_wp2
    go_ret2
    rw [HE2.out]
    exact ⟨rfl, B2.out⟩
  · have HE2 := hideP (HE.out.trans (if_neg (fun h => by omega)))
    rw [inB_true (by omega) (by omega)] at KI
    clear HE q3
    go_wp2_with fail
    refine (KI _).mono ?_
    rintro e w3 ⟨rfl, rfl⟩
    go_wp2
    go_ret2
    rw [HE2.out]
    exact ⟨rfl, B2.out⟩

set_option maxRecDepth 100000 in
set_option maxHeartbeats 2000000 in
theorem specPlus (c y : Int) (s : ByteArray) (w : World) (hs : s.size ≤ 1048576) : Calls Tryz.prog 26 #[.int .i64 c, .int .i64 y, .string s] w fun e w' => e = .returned (.int .i64 (feastPlus c y s)) ∧ Below w.heap.size w w' := by
  have KR := specRead s w hs
  have hrb := readFeast_b s
  have HV : Hid (feastPlus c y s = if (readFeast s).1 < 0 ∨ ¬ yearP c y then 0 else (feaAt (readFeast s).1.toNat).day c y + (readFeast s).2) := rfl
  obtain ⟨R, hR⟩ : ∃ R, R = feastPlus c y s := ⟨_, rfl⟩
  rw [← hR]
  have HR := hideP (hR.trans HV.out)
  clear hR HV
  generalize readFeast s = rf at *
  obtain ⟨i, k⟩ := rf
  simp only at hrb HR KR
  obtain ⟨hi1, hi2, hk1, hk2⟩ := hrb
  have KY : ∀ W, Calls Tryz.prog 52 #[.int .i64 c, .int .i64 y] W fun e w' => e = .returned (.bool (yearB c y)) ∧ w' = W := specYearOk c y
  by_cases q1 : i < 0
  · have HE := hideP (HR.out.trans (if_pos (.inl q1)))
    clear HR
    go_enter Tryz.func26, Tryz.ntmps26
    go_wp2_with fail
    refine KR.mono ?_
    rintro e W1 ⟨rfl, hb1⟩
    go_wp2
    go_ret
    exact ⟨ret_int HE.out.symm, hb1⟩
  by_cases q2 : yearP c y
  case neg =>
    have HE := hideP (HR.out.trans (if_pos (.inr q2)))
    rw [yearB_false q2] at KY
    clear HR q2
    go_enter Tryz.func26, Tryz.ntmps26
    go_wp2_with fail
    refine KR.mono ?_
    rintro e W1 ⟨rfl, hb1⟩
    have B1 := hideP hb1
    clear hb1
    go_wp2_with fail
    refine (KY _).mono ?_
    rintro e w3 ⟨rfl, rfl⟩
    go_wp2
    go_ret
    exact ⟨ret_int HE.out.symm, B1.out⟩
  obtain ⟨j, rfl⟩ := Int.eq_ofNat_of_zero_le (show 0 ≤ i by omega)
  have HE := hideP (HR.out.trans (if_neg (fun h => h.elim q1 (fun h => h q2))))
  rw [yearB_true q2] at KY
  have hj : j < 20 := by omega
  clear HR q2
  have hdb := Fea.day_b (feaAt j) c y
  go_enter Tryz.func26, Tryz.ntmps26
  go_wp2_with fail
  refine KR.mono ?_
  rintro e W1 ⟨rfl, hb1⟩
  have B1 := hideP hb1
  clear hb1
  go_wp2_with fail
  refine (KY _).mono ?_
  rintro e w3 ⟨rfl, rfl⟩
  go_wp2_with fail
  refine (specFeasts _).mono ?_
  rintro e W2 ⟨v, rfl, hr, hb2⟩
  obtain ⟨g, cap, rfl, hg, hc⟩ := hr.row
  have B2 : Hid (Below w.heap.size w W2) := B1.out.trans (hb2.mono B1.out.size)
  have c0 := hc j hj 0 (by omega)
  have c1 := hc j hj 1 (by omega)
  have c2 := hc j hj 2 (by omega)
  have c3 := hc j hj 3 (by omega)
  have c4 := hc j hj 4 (by omega)
  clear hr hb2 hc
  have hsz := feaAt_size0 ⟨j, hj⟩
  dsimp only at hsz
  have HE2 : Hid (R = (feaAt j).day c y + k) := HE.out
  clear HE
  generalize feaAt j = f at *
  obtain ⟨s', fm, o, m, d⟩ := f
  simp only [Fea.cs, List.getElem?_cons_zero, List.getElem?_cons_succ, Nat.add_zero] at c0 c1 c2 c3 c4
  dsimp only at hsz
  have KF : ∀ W, Calls Tryz.prog 19 #[.int .i64 c, .int .i64 y, .agg #[.string s', .bool fm, .int .i64 o, .int .i64 m, .int .i64 d]] W fun e w' => e = .returned (.int .i64 (Fea.day ⟨s', fm, o, m, d⟩ c y)) ∧ Below W.heap.size W w' := fun W => specFeaDay c y s' fm o m d W (by unfold maxLen; omega)
  generalize Fea.day ⟨s', fm, o, m, d⟩ c y = day at *
  go_wp2_with fail
  refine (KF _).mono ?_
  rintro e W3 ⟨rfl, hb3⟩
  have B3 : Hid (Below w.heap.size w W3) := B2.out.trans (hb3.mono B2.out.size)
  clear hb3
  go_wp2
  go_ret
  exact ⟨ret_int HE2.out.symm, B3.out⟩
end Go.Proofs.YtckjcaloofjeoaaGreatDoor.ctr
