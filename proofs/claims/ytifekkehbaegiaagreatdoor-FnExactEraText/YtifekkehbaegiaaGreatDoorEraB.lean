/- Plain laws of eras, of no program: which era is right, the number of a day's year, the span of a number, the days of a number. Contracts of both EraYear and EraSpan, and of the program's numbering with its two closures: each answers its plain function, where the table of months holds its numbers. Contracts of both EraSpan: each answers its plain function, where the table of months holds its numbers. Contracts of both EraDays: each answers, in a row of its own, the days whose number is told; nothing that was there turns. Contracts of both EraText and of the program's eraNumber: each answers its plain text, where the program's tables hold what they must. -/
import Derived.Test.YtifekkehbaegiaaGreatDoorStyPlain2
import Derived.Test.YtifekkehbaegiaaGreatDoorEraA
import Derived.Test.YtifekkehbaegiaaGreatDoorStyFun
import Derived.Test.YtifekkehbaegiaaGreatDoorFloorCtr
import Derived.PlainAid
import Derived.Test.YtifekkehbaegiaaGreatDoorStySol
import Derived.Test.YtifekkehbaegiaaGreatDoorTexA
import Derived.Test.YtifekkehbaegiaaGreatDoorRomA
import Derived.Deep.RegionWith
namespace Go.Proofs.YtifekkehbaegiaaGreatDoor.ctr
open Go.RowKit

/-- The number of a year that the style tells. -/
def eraNum (add cyc y : Int) : Int := if cyc = 0 then y + add else (y + add - 1) % cyc + 1
theorem eraNum_cyc {add cyc y : Int} (h : 2 ≤ cyc) : 1 ≤ eraNum add cyc y ∧ eraNum add cyc y ≤ cyc := by
  unfold eraNum
  rw [if_neg (by omega)]
  have h1 := Int.emod_nonneg (y + add - 1) (show cyc ≠ 0 by omega)
  have h2 := Int.emod_lt_of_pos (y + add - 1) (show 0 < cyc by omega)
  omega
theorem eraNum_bound {s : ByteArray} {st add cyc y : Int} (h : eraOkB s st add cyc = true) (h1 : 1 ≤ y) (h2 : y ≤ 3000) : 1 ≤ eraNum add cyc y ∧ eraNum add cyc y ≤ 12000 := by
  obtain ⟨_, _, a1, a2, hc⟩ := eraOk_parts h
  rcases hc with hc | ⟨c1, c2⟩
  · unfold eraNum
    rw [if_pos hc]
    omega
  · have := eraNum_cyc (add := add) (y := y) c1
    omega
/-- The number of the year in which a day is, and whether there is one. -/
noncomputable def eraYr (c : Int) (s : ByteArray) (st add cyc n : Int) : Int × Bool :=
  if eraOkB s st add cyc = true ∧ (styYear c st n).2 = true then (eraNum add cyc (styYear c st n).1, true) else (0, false)
theorem eraYr_bad {c : Int} {s : ByteArray} {st add cyc n : Int} (h : eraOkB s st add cyc = false) : eraYr c s st add cyc n = (0, false) := by
  unfold eraYr
  rw [if_neg (by rw [h]; simp)]
theorem eraYr_no {c : Int} {s : ByteArray} {st add cyc n : Int} (h : styYear c st n = (0, false)) : eraYr c s st add cyc n = (0, false) := by
  unfold eraYr
  rw [if_neg (by rw [h]; simp)]
theorem eraYr_yes {c : Int} {s : ByteArray} {st add cyc n y : Int} (h : eraOkB s st add cyc = true) (h' : styYear c st n = (y, true)) : eraYr c s st add cyc n = (eraNum add cyc y, true) := by
  unfold eraYr
  rw [if_pos ⟨h, by rw [h']⟩, h']
theorem sty_cases (c s n : Int) : styYear c s n = (0, false) ∨ ∃ y, styYear c s n = (y, true) ∧ yearP c y ∧ styleP s ∧ start c s y ≤ n ∧ n < start c s (y + 1) ∧ -1 ≤ n ∧ n ≤ 1096000 := by
  by_cases h : (dateOf c n).2.2.2.2 = true ∧ styleP s ∧ 1 ≤ rawYear c s (dateOf c n).2.1 n ∧ rawYear c s (dateOf c n).2.1 n ≤ 3000
  · right
    obtain ⟨a, Y, m, d, hd⟩ : ∃ a Y m d, dateOf c n = (a, Y, m, d, true) := ⟨_, _, _, _, by rw [← h.1]⟩
    obtain ⟨rfl, hP, hn⟩ := date_back hd
    have e : styYear a s n = (rawYear a s (dateOf a n).2.1 n, true) := by unfold styYear; rw [if_pos h]
    have k := (sty_iff hP.1 hd).1 e
    have hl := line_in hP.1 (dateP_month hP).1 (dateP_month hP).2 hP.2.2.2.1 hP.2.2.2.2
    rw [← lineD_dayOf hP, hn] at hl
    have f1 := first_le' hP.1 hP.2.1
    have f2 := first_le' hP.1 (show Y + 1 ≤ 3001 by have := hP.2.2.1; omega)
    refine ⟨_, e, ⟨hP.1, k.2.1, k.2.2.1⟩, k.1, k.2.2.2.1, k.2.2.2.2, ?_, ?_⟩
    · rcases hP.1 with rfl | rfl
      · rw [first_jul] at f1; omega
      · rw [first_gre] at f1; omega
    · rcases hP.1 with rfl | rfl
      · rw [first_jul 3001] at f2; omega
      · rw [first_gre 3001] at f2; omega
  · left
    unfold styYear
    rw [if_neg h]
/-- What EraYear answers: nothing, or a number of a day that lies in the number's year. -/
theorem eraYr_cases (c : Int) (s : ByteArray) (st add cyc n : Int) : eraYr c s st add cyc n = (0, false) ∨ ∃ y, eraOkB s st add cyc = true ∧ yearP c y ∧ styYear c st n = (y, true) ∧ eraYr c s st add cyc n = (eraNum add cyc y, true) ∧ start c st y ≤ n ∧ n < start c st (y + 1) ∧ -1 ≤ n ∧ n ≤ 1096000 := by
  cases ho : eraOkB s st add cyc
  · exact .inl (eraYr_bad ho)
  · rcases sty_cases c st n with h | ⟨y, h, hy, _, h1, h2, h3, h4⟩
    · exact .inl (eraYr_no h)
    · exact .inr ⟨y, rfl, hy, h, eraYr_yes ho h, h1, h2, h3, h4⟩
theorem eraYr_bound (c : Int) (s : ByteArray) (st add cyc n : Int) : 0 ≤ (eraYr c s st add cyc n).1 ∧ (eraYr c s st add cyc n).1 ≤ 12000 := by
  rcases eraYr_cases c s st add cyc n with h | ⟨y, h1, h2, _, h3, _⟩
  · rw [h]; simp
  · rw [h3]
    have := eraNum_bound h1 h2.2.1 h2.2.2
    exact ⟨by show 0 ≤ eraNum add cyc y; omega, this.2⟩

/-- The first and the last day of a number's year. -/
def eraSpan (c : Int) (s : ByteArray) (st add cyc k : Int) : Int × Int :=
  if eraOkB s st add cyc = true ∧ cyc = 0 ∧ yearP c (k - add) then (start c st (k - add), start c st (k - add + 1) - 1) else (0, 0)
/-- A day is in the span of its year. -/
theorem span_of {c : Int} {s : ByteArray} {st add cyc n : Int} (h : (eraYr c s st add cyc n).2 = true) (hc : cyc = 0) : (eraSpan c s st add cyc (eraYr c s st add cyc n).1).1 ≤ n ∧ n ≤ (eraSpan c s st add cyc (eraYr c s st add cyc n).1).2 := by
  rcases eraYr_cases c s st add cyc n with h' | ⟨y, h1, h2, _, h3, h4, h5, _⟩
  · rw [h'] at h; simp at h
  · rw [h3]
    subst hc
    have e : eraNum add 0 y = y + add := by unfold eraNum; rw [if_pos rfl]
    dsimp only
    rw [e]
    unfold eraSpan
    rw [show y + add - add = y by omega, if_pos ⟨h1, rfl, h2⟩]
    exact ⟨h4, by show n ≤ start c st (y + 1) - 1; omega⟩

/-- The era of a name: the empty one for none. -/
def eraOf (s : ByteArray) : Era := if findEra s = -1 then era0 else eraAt (findEra s).toNat
theorem eraOf_no {s : ByteArray} (h : findEra s = -1) : eraOf s = era0 := by unfold eraOf; rw [if_pos h]
theorem eraOf_at {s : ByteArray} {k : Nat} (h : findEra s = (k : Int)) : eraOf s = eraAt k := by
  unfold eraOf
  rw [if_neg (by omega), h]
  rfl
/-- The number of a day's year by the era of a name. -/
noncomputable def yrOf (c : Int) (s : ByteArray) (n : Int) : Int × Bool := eraYr c (eraOf s).name (eraOf s).st (eraOf s).add (eraOf s).cyc n
theorem yrOf_no {c : Int} {s : ByteArray} {n : Int} (h : findEra s = -1) : yrOf c s n = (0, false) := by
  unfold yrOf
  rw [eraOf_no h]
  exact eraYr_bad eraOk_zero
theorem yrOf_at {c : Int} {s : ByteArray} {n : Int} {k : Nat} (h : findEra s = (k : Int)) : yrOf c s n = eraYr c (eraAt k).name (eraAt k).st (eraAt k).add (eraAt k).cyc n := by
  unfold yrOf
  rw [eraOf_at h]
theorem yrOf_far {c : Int} {s : ByteArray} {n : Int} (h : n < -1 ∨ 1096000 < n) : yrOf c s n = (0, false) := by
  unfold yrOf
  rcases eraYr_cases c (eraOf s).name (eraOf s).st (eraOf s).add (eraOf s).cyc n with h' | ⟨_, _, _, _, _, _, _, h1, h2⟩
  · exact h'
  · omega
/-- Whether a day has a number by the era of a name. -/
noncomputable def hasB (c : Int) (s : ByteArray) (k n : Int) : Bool := (yrOf c s n).2 && decide ((yrOf c s n).1 = k)
theorem hasB_far {c : Int} {s : ByteArray} {k n : Int} (h : n < -1 ∨ 1096000 < n) : hasB c s k n = false := by unfold hasB; rw [yrOf_far h]; rfl
theorem hasB_no {c : Int} {s : ByteArray} {k n : Int} (h : findEra s = -1) : hasB c s k n = false := by unfold hasB; rw [yrOf_no h]; rfl
/-- The days of a number among the first k of those from a day on. -/
noncomputable def daysTo (c : Int) (s : ByteArray) (k f : Int) (j : Nat) : List Int := ((List.range j).map (fun i : Nat => f + (i : Int))).filter (hasB c s k)
def spanP (f t : Int) : Prop := f ≤ t ∧ t - f < 800
instance (f t : Int) : Decidable (spanP f t) := by unfold spanP; infer_instance
noncomputable def eraDays (c : Int) (s : ByteArray) (k f t : Int) : List Int := if spanP f t then daysTo c s k f (t - f + 1).toNat else []
theorem daysTo_len (c : Int) (s : ByteArray) (k f : Int) (j : Nat) : (daysTo c s k f j).length ≤ j := by
  unfold daysTo
  refine Nat.le_trans (List.length_filter_le _ _) ?_
  simp
theorem eraDays_len (c : Int) (s : ByteArray) (k f t : Int) : (eraDays c s k f t).length ≤ 800 := by
  unfold eraDays
  split
  · rename_i h
    have := daysTo_len c s k f (t - f + 1).toNat
    unfold spanP at h
    omega
  · simp
theorem daysTo_hit {c : Int} {s : ByteArray} {k f : Int} {j : Nat} (h : hasB c s k (f + (j : Int)) = true) : daysTo c s k f (j + 1) = daysTo c s k f j ++ [f + (j : Int)] := by
  unfold daysTo
  rw [List.range_succ, List.map_append, List.filter_append]
  simp [h]
theorem daysTo_miss {c : Int} {s : ByteArray} {k f : Int} {j : Nat} (h : hasB c s k (f + (j : Int)) = false) : daysTo c s k f (j + 1) = daysTo c s k f j := by
  unfold daysTo
  rw [List.range_succ, List.map_append, List.filter_append]
  simp [h]
theorem daysTo_none {c : Int} {s : ByteArray} {k f : Int} {j : Nat} (h : ∀ i : Nat, i < j → hasB c s k (f + (i : Int)) = false) : daysTo c s k f j = [] := by
  unfold daysTo
  rw [List.filter_eq_nil_iff]
  intro x hx
  obtain ⟨i, hi, rfl⟩ := List.mem_map.1 hx
  rw [h i (List.mem_range.1 hi)]
  simp
/-- Beyond the bounds that the model asks of both ends no day has a number. -/
theorem eraDays_far {c : Int} {s : ByteArray} {k f t : Int} (h : ¬ ((-1000 ≤ f ∧ f ≤ 1200000) ∧ (-1000 ≤ t ∧ t ≤ 1200000))) : eraDays c s k f t = [] := by
  unfold eraDays
  split
  · rename_i hs
    unfold spanP at hs
    exact daysTo_none (fun i hi => hasB_far (by omega))
  · rfl
theorem eraDays_no {c : Int} {s : ByteArray} {k f t : Int} (h : findEra s = -1) : eraDays c s k f t = [] := by
  unfold eraDays
  split
  · exact daysTo_none (fun i _ => hasB_no h)
  · rfl
theorem eraDays_out {c : Int} {s : ByteArray} {k f t : Int} (h : ¬ spanP f t) : eraDays c s k f t = [] := by unfold eraDays; rw [if_neg h]
theorem eraDays_in {c : Int} {s : ByteArray} {k f t : Int} (h : spanP f t) : eraDays c s k f t = daysTo c s k f (t - f + 1).toNat := by unfold eraDays; rw [if_pos h]
/-- The days rise. -/
theorem daysTo_rise (c : Int) (s : ByteArray) (k f : Int) (j : Nat) : (daysTo c s k f j).Pairwise (· < ·) := by
  unfold daysTo
  refine List.Pairwise.filter _ ?_
  rw [List.pairwise_map]
  refine List.Pairwise.imp ?_ (List.pairwise_lt_range (n := j))
  intro a b h
  omega
theorem eraDays_rise (c : Int) (s : ByteArray) (k f t : Int) : (eraDays c s k f t).Pairwise (· < ·) := by
  unfold eraDays
  split
  · exact daysTo_rise _ _ _ _ _
  · simp
theorem eraDays_up (c : Int) (s : ByteArray) (k f t : Int) (j : Nat) (h : j + 1 < (eraDays c s k f t).length) : (eraDays c s k f t).getD j 0 < (eraDays c s k f t).getD (j + 1) 0 := by
  have := List.pairwise_iff_getElem.1 (eraDays_rise c s k f t) j (j + 1) (by omega) h (by omega)
  rw [List.getD, List.getD, List.getElem?_eq_getElem (by omega), List.getElem?_eq_getElem h]
  exact this
end Go.Proofs.YtifekkehbaegiaaGreatDoor.ctr

namespace Go.Proofs.YtifekkehbaegiaaGreatDoor.ctr
open Go.RowKit

noncomputable def eraR (c : Int) (s : ByteArray) (st ad cy n : Int) : Value := .tuple #[.int .i64 (eraYr c s st ad cy n).1, .bool (eraYr c s st ad cy n).2]
theorem eraR_of {c : Int} {s : ByteArray} {st ad cy n y : Int} {b : Bool} (h : eraYr c s st ad cy n = (y, b)) : eraR c s st ad cy n = .tuple #[.int .i64 y, .bool b] := by unfold eraR; rw [h]
theorem ret_to {v v' : Value} (h : v' = v) : Ending.returned v = Ending.returned v' := by rw [h]
theorem implNum1 (x : Int) (w : World) : Calls Tryz.prog 73 #[.int .i64 x] w fun e w' => e = .returned (.int .i64 x) ∧ w' = w := by
  go_enter Tryz.func73, Tryz.ntmps73
  go_wp2
  go_ret
  exact ⟨rfl, rfl⟩
theorem floor_small {a b : Int} (hb : 0 < b) (ha : 0 ≤ a) : floorMod a b = a % b := by
  unfold floorMod
  rw [if_neg (by omega), Int.tmod_eq_emod_of_nonneg ha, if_neg (by have := Int.emod_nonneg a (show b ≠ 0 by omega); omega)]
theorem implNum2 (x cy : Int) (B : Nat) (w : World) (hc : w.cell? ⟨B, 0, none⟩ = some (.int .i64 cy)) (x1 : 1 ≤ x) (x2 : x ≤ 12000) (c1 : 2 ≤ cy) (c2 : cy ≤ 600) :
    Calls Tryz.prog 74 #[.int .i64 x, .pointer (some ⟨B, 0, none⟩)] w fun e w' => e = .returned (.int .i64 ((x - 1) % cy + 1)) ∧ w' = w := by
  have KF : Calls Tryz.prog 75 #[.int .i64 (x - 1), .int .i64 cy] w fun e w' => e = .returned (.int .i64 ((x - 1) % cy)) ∧ w' = w := by
    rw [← floor_small (by omega) (by omega)]
    exact implFloorMod (x - 1) cy w (by omega)
  have m1 := Int.emod_nonneg (x - 1) (show cy ≠ 0 by omega)
  have m2 := Int.emod_lt_of_pos (x - 1) (show 0 < cy by omega)
  generalize (x - 1) % cy = M at *
  go_enter Tryz.func74, Tryz.ntmps74
  go_wp2_with fail
  refine KF.mono ?_
  rintro e w1 ⟨rfl, rfl⟩
  go_wp2
  go_ret
  exact ⟨rfl, rfl⟩
theorem implNumbering0 (w : World) : Calls Tryz.prog 38 #[.int .i64 0] w fun e w' => e = .returned (.func (.func 73) #[] #[]) ∧ Below w.heap.size w w' := by
  go_enter Tryz.func38, Tryz.ntmps38
  go_wp2
  go_ret
  exact ⟨rfl, (Below.refl _ _).alloc (Nat.le_refl _) _⟩
theorem implNumbering (cy : Int) (w : World) (h : cy ≠ 0) : Calls Tryz.prog 38 #[.int .i64 cy] w fun e w' => e = .returned (.func (.func 74) #[] #[.pointer (some ⟨w.heap.size, 0, none⟩)]) ∧ w' = w.alloc (.cells #[.int .i64 cy] 3) := by
  have h' : (cy == 0) = false := by simp [h]
  go_enter Tryz.func38, Tryz.ntmps38
  go_wp2
  go_ret
  exact ⟨rfl, rfl⟩

set_option maxHeartbeats 2000000 in
theorem implEraYear (c : Int) (s : ByteArray) (st ad cy n : Int) (w : World) (hs : s.size ≤ maxLen) (hT : Tab w) : Calls Tryz.prog 8 #[.int .i64 c, .agg #[.string s, .int .i64 st, .int .i64 ad, .int .i64 cy], .int .i64 n] w fun e w' => e = .returned (eraR c s st ad cy n) ∧ Below w.heap.size w w' := by
  obtain ⟨W0, hW0, c0, c1, c2, c3, hBl⟩ := era_box w s st ad cy 25
  have HW0 := hideP hW0
  have HBl := hideP hBl
  have KT : ∀ x : Later W0, Tab x.w := fun x => hT.later (hBl x)
  have KO : ∀ x : Later W0, Calls Tryz.prog 21 #[.agg #[.string s, .int .i64 st, .int .i64 ad, .int .i64 cy]] x.w fun e w' => e = .returned (.bool (eraOkB s st ad cy)) ∧ Below x.w.heap.size x.w w' := fun x => implEraOk s st ad cy x.w hs
  have KS : ∀ x : Later W0, Calls Tryz.prog 37 #[.int .i64 c, .int .i64 st, .int .i64 n] x.w fun e w' => e = .returned (styR c st n) ∧ Below x.w.heap.size x.w w' := fun x => implStyleYear c st n x.w (KT x)
  clear hs hW0 hBl hT KT
  cases ho : eraOkB s st ad cy
  · simp only [ho] at KO
    have HR := hideP (eraR_of (eraYr_bad (c := c) (n := n) ho))
    clear ho KS
    go_enter Tryz.func8, Tryz.ntmps8
    go_wp2_with fail
    rw [← HW0.out]
    refine (KO ⟨W0, Below.refl _ _⟩).mono ?_
    rintro e w1 ⟨rfl, hb⟩
    obtain ⟨x1, rfl⟩ := Later.of hb
    clear hb
    go_wp2
    go_returns
    exact ⟨ret_to HR.out, HBl.out x1⟩
  simp only [ho] at KO
  rcases sty_cases c st n with hn | ⟨y, hy, hP, _⟩
  · simp only [styR_no hn] at KS
    have HR := hideP (eraR_of (eraYr_no (s := s) (add := ad) (cyc := cy) hn))
    clear hn ho
    go_enter Tryz.func8, Tryz.ntmps8
    go_wp2_with fail
    rw [← HW0.out]
    refine (KO ⟨W0, Below.refl _ _⟩).mono ?_
    rintro e w1 ⟨rfl, hb⟩
    obtain ⟨x1, rfl⟩ := Later.of hb
    clear hb
    go_wp2_with fail
    refine (KS x1).mono ?_
    rintro e w2 ⟨rfl, hb⟩
    obtain ⟨x2, rfl⟩ := x1.next hb
    clear hb
    go_wp2
    go_returns
    exact ⟨ret_to HR.out, HBl.out x2⟩
  simp only [styR_yes hy] at KS
  have HR := hideP (eraR_of (eraYr_yes ho hy))
  obtain ⟨_, _, a1, a2, hcy⟩ := eraOk_parts ho
  have y1 := hP.2.1
  have y2 := hP.2.2
  clear ho hy hP
  rcases hcy with rfl | ⟨d1, d2⟩
  · have HN : Hid (eraNum ad 0 y = y + ad) := by unfold Hid eraNum; rw [if_pos rfl]
    rw [HN.out] at HR
    go_enter Tryz.func8, Tryz.ntmps8
    go_wp2_with fail
    rw [← HW0.out]
    refine (KO ⟨W0, Below.refl _ _⟩).mono ?_
    rintro e w1 ⟨rfl, hb⟩
    obtain ⟨x1, rfl⟩ := Later.of hb
    clear hb
    go_wp2_with fail
    refine (KS x1).mono ?_
    rintro e w2 ⟨rfl, hb⟩
    obtain ⟨x2, rfl⟩ := x1.next hb
    clear hb
    go_wp2_with fail
    refine (implNumbering0 _).mono ?_
    rintro e w3 ⟨rfl, hb⟩
    obtain ⟨x3, rfl⟩ := x2.next hb
    clear hb
    go_wp2_with fail
    refine (implNum1 (y + ad) _).mono ?_
    rintro e w4 ⟨rfl, rfl⟩
    go_wp2
    go_returns
    exact ⟨ret_to HR.out, HBl.out x3⟩
  · have HN : Hid (eraNum ad cy y = (y + ad - 1) % cy + 1) := by unfold Hid eraNum; rw [if_neg (by omega)]
    rw [HN.out] at HR
    have hc0 : cy ≠ 0 := by omega
    go_enter Tryz.func8, Tryz.ntmps8
    go_wp2_with fail
    rw [← HW0.out]
    refine (KO ⟨W0, Below.refl _ _⟩).mono ?_
    rintro e w1 ⟨rfl, hb⟩
    obtain ⟨x1, rfl⟩ := Later.of hb
    clear hb
    go_wp2_with fail
    refine (KS x1).mono ?_
    rintro e w2 ⟨rfl, hb⟩
    obtain ⟨x2, rfl⟩ := x1.next hb
    clear hb
    go_wp2_with fail
    refine (implNumbering cy _ hc0).mono ?_
    rintro e w3 ⟨rfl, hw3⟩
    have hc3 : w3.cell? ⟨x2.w.heap.size, 0, none⟩ = some (.int .i64 cy) := by rw [hw3, World.cell?_alloc_at _ _ _ _ rfl]; rfl
    obtain ⟨x3, rfl⟩ := x2.next (w' := w3) (by rw [hw3]; exact (Below.refl _ _).alloc (Nat.le_refl _) _)
    clear hw3
    go_wp2_with fail
    refine (implNum2 (y + ad) cy x2.w.heap.size _ hc3 (by omega) (by omega) d1 d2).mono ?_
    rintro e w4 ⟨rfl, rfl⟩
    generalize (y + ad - 1) % cy = M at *
    go_wp2
    go_returns
    exact ⟨ret_to HR.out, HBl.out x3⟩

set_option maxHeartbeats 2000000 in
theorem specEraYear (c : Int) (s : ByteArray) (st ad cy n : Int) (w : World) (hs : s.size ≤ maxLen) : Calls Tryz.prog 9 #[.int .i64 c, .agg #[.string s, .int .i64 st, .int .i64 ad, .int .i64 cy], .int .i64 n] w fun e w' => e = .returned (eraR c s st ad cy n) ∧ Below w.heap.size w w' := by
  obtain ⟨W0, hW0, c0, c1, c2, c3, hBl⟩ := era_box w s st ad cy 25
  have HW0 := hideP hW0
  have HBl := hideP hBl
  have KO : ∀ x : Later W0, Calls Tryz.prog 22 #[.agg #[.string s, .int .i64 st, .int .i64 ad, .int .i64 cy]] x.w fun e w' => e = .returned (.bool (eraOkB s st ad cy)) ∧ Below x.w.heap.size x.w w' := fun x => specEraOk s st ad cy x.w hs
  have KS : ∀ x : Later W0, Calls Tryz.prog 39 #[.int .i64 c, .int .i64 st, .int .i64 n] x.w fun e w' => e = .returned (styR c st n) ∧ Below x.w.heap.size x.w w' := fun x => specStyleYear c st n x.w
  clear hs hW0 hBl
  cases ho : eraOkB s st ad cy
  · simp only [ho] at KO
    have HR := hideP (eraR_of (eraYr_bad (c := c) (n := n) ho))
    clear ho
    obtain ⟨y, b, hy⟩ : ∃ y b, styR c st n = .tuple #[.int .i64 y, .bool b] := ⟨_, _, rfl⟩
    simp only [hy] at KS
    go_enter Tryz.func9, Tryz.ntmps9
    go_wp2_with fail
    rw [← HW0.out]
    refine (KS ⟨W0, Below.refl _ _⟩).mono ?_
    rintro e w1 ⟨rfl, hb⟩
    obtain ⟨x1, rfl⟩ := Later.of hb
    clear hb
    go_wp2_with fail
    refine (KO x1).mono ?_
    rintro e w2 ⟨rfl, hb⟩
    obtain ⟨x2, rfl⟩ := x1.next hb
    clear hb
    go_wp2
    go_returns
    exact ⟨ret_to HR.out, HBl.out x2⟩
  simp only [ho] at KO
  rcases sty_cases c st n with hn | ⟨y, hy, hP, _⟩
  · simp only [styR_no hn] at KS
    have HR := hideP (eraR_of (eraYr_no (s := s) (add := ad) (cyc := cy) hn))
    clear hn ho
    go_enter Tryz.func9, Tryz.ntmps9
    go_wp2_with fail
    rw [← HW0.out]
    refine (KS ⟨W0, Below.refl _ _⟩).mono ?_
    rintro e w1 ⟨rfl, hb⟩
    obtain ⟨x1, rfl⟩ := Later.of hb
    clear hb
    go_wp2_with fail
    refine (KO x1).mono ?_
    rintro e w2 ⟨rfl, hb⟩
    obtain ⟨x2, rfl⟩ := x1.next hb
    clear hb
    go_wp2
    go_returns
    exact ⟨ret_to HR.out, HBl.out x2⟩
  simp only [styR_yes hy] at KS
  have HR := hideP (eraR_of (eraYr_yes ho hy))
  obtain ⟨_, _, a1, a2, hcy⟩ := eraOk_parts ho
  have y1 := hP.2.1
  have y2 := hP.2.2
  clear ho hy hP
  rcases hcy with rfl | ⟨d1, d2⟩
  · have HN : Hid (eraNum ad 0 y = y + ad) := by unfold Hid eraNum; rw [if_pos rfl]
    rw [HN.out] at HR
    go_enter Tryz.func9, Tryz.ntmps9
    go_wp2_with fail
    rw [← HW0.out]
    refine (KS ⟨W0, Below.refl _ _⟩).mono ?_
    rintro e w1 ⟨rfl, hb⟩
    obtain ⟨x1, rfl⟩ := Later.of hb
    clear hb
    go_wp2_with fail
    refine (KO x1).mono ?_
    rintro e w2 ⟨rfl, hb⟩
    obtain ⟨x2, rfl⟩ := x1.next hb
    clear hb
    go_wp2
    go_returns
    exact ⟨ret_to HR.out, HBl.out x2⟩
  · have HN : Hid (eraNum ad cy y = (y + ad - 1) % cy + 1) := by unfold Hid eraNum; rw [if_neg (by omega)]
    rw [HN.out] at HR
    have hc0 : (cy == 0) = false := by simp; omega
    have hc1 : ¬ cy = 0 := by omega
    have m1 : 0 ≤ (y + ad - 1) % cy := Int.emod_nonneg _ (by omega)
    have m2 : (y + ad - 1) % cy < 600 := by
      have := Int.emod_lt_of_pos (y + ad - 1) (show 0 < cy by omega)
      omega
    go_enter Tryz.func9, Tryz.ntmps9
    go_wp2_with fail
    rw [← HW0.out]
    refine (KS ⟨W0, Below.refl _ _⟩).mono ?_
    rintro e w1 ⟨rfl, hb⟩
    obtain ⟨x1, rfl⟩ := Later.of hb
    clear hb
    go_wp2_with fail
    refine (KO x1).mono ?_
    rintro e w2 ⟨rfl, hb⟩
    obtain ⟨x2, rfl⟩ := x1.next hb
    clear hb
    go_wp2
    go_returns
    exact ⟨ret_to HR.out, HBl.out x2⟩
end Go.Proofs.YtifekkehbaegiaaGreatDoor.ctr

namespace Go.Proofs.YtifekkehbaegiaaGreatDoor.ctr
open Go.RowKit

def spanR (c : Int) (s : ByteArray) (st ad cy k : Int) : Value := .tuple #[.int .i64 (eraSpan c s st ad cy k).1, .int .i64 (eraSpan c s st ad cy k).2]
theorem spanR_no {c : Int} {s : ByteArray} {st ad cy k : Int} (h : ¬ (eraOkB s st ad cy = true ∧ cy = 0 ∧ yearP c (k - ad))) : spanR c s st ad cy k = .tuple #[.int .i64 0, .int .i64 0] := by unfold spanR eraSpan; rw [if_neg h]
theorem spanR_yes {c : Int} {s : ByteArray} {st ad cy k : Int} (h : eraOkB s st ad cy = true ∧ cy = 0 ∧ yearP c (k - ad)) : spanR c s st ad cy k = .tuple #[.int .i64 (start c st (k - ad)), .int .i64 (start c st (k - ad + 1) - 1)] := by unfold spanR eraSpan; rw [if_pos h]

set_option maxHeartbeats 2000000 in
theorem implEraSpan (c : Int) (s : ByteArray) (st ad cy k : Int) (w : World) (hs : s.size ≤ maxLen) (hT : Tab w) (hk : -9223372036854775808 ≤ k ∧ k ≤ 9223372036854775807) : Calls Tryz.prog 11 #[.int .i64 c, .agg #[.string s, .int .i64 st, .int .i64 ad, .int .i64 cy], .int .i64 k] w fun e w' => e = .returned (spanR c s st ad cy k) ∧ Below w.heap.size w w' := by
  obtain ⟨W0, hW0, c0, c1, c2, c3, hBl⟩ := era_box w s st ad cy 25
  have HW0 := hideP hW0
  have HBl := hideP hBl
  have KT : ∀ x : Later W0, Tab x.w := fun x => hT.later (hBl x)
  obtain ⟨y, hy⟩ : ∃ y, wrap64 (k - ad) = y := ⟨_, rfl⟩
  have KO : ∀ x : Later W0, Calls Tryz.prog 21 #[.agg #[.string s, .int .i64 st, .int .i64 ad, .int .i64 cy]] x.w fun e w' => e = .returned (.bool (eraOkB s st ad cy)) ∧ Below x.w.heap.size x.w w' := fun x => implEraOk s st ad cy x.w hs
  have KY : ∀ x : Later W0, Calls Tryz.prog 42 #[.int .i64 c, .int .i64 y] x.w fun e w' => e = .returned (.bool (yearB c y)) ∧ Below x.w.heap.size x.w w' := fun x => implYearOk c y x.w (KT x)
  have KB : ∀ x : Later W0, Calls Tryz.prog 43 #[.int .i64 c, .int .i64 st, .int .i64 y] x.w fun e w' => e = .returned (.int .i64 (yearStart c st y)) ∧ Below x.w.heap.size x.w w' := fun x => implYearStart c st y x.w (KT x)
  have KD : ∀ x : Later W0, Calls Tryz.prog 44 #[.int .i64 c, .int .i64 st, .int .i64 y] x.w fun e w' => e = .returned (.int .i64 (yearDays c st y)) ∧ Below x.w.heap.size x.w w' := fun x => implYearDays c st y x.w (KT x)
  clear hs hW0 hBl hT KT
  cases ho : eraOkB s st ad cy
  · simp only [ho] at KO
    have HR := hideP (spanR_no (c := c) (k := k) (fun h => by rw [ho] at h; cases h.1))
    clear ho KY KB KD hk
    go_enter Tryz.func11, Tryz.ntmps11
    go_wp2_with fail
    rw [← HW0.out]
    refine (KO ⟨W0, Below.refl _ _⟩).mono ?_
    rintro e w1 ⟨rfl, hb⟩
    obtain ⟨x1, rfl⟩ := Later.of hb
    clear hb
    go_wp2
    go_returns
    exact ⟨ret_to HR.out, HBl.out x1⟩
  simp only [ho] at KO
  obtain ⟨_, hst, a1, a2, hcy⟩ := eraOk_parts ho
  by_cases hc0 : cy = 0
  case neg =>
    have HR := hideP (spanR_no (c := c) (k := k) (s := s) (st := st) (ad := ad) (fun h => hc0 h.2.1))
    have hc1 : (cy == 0) = false := by simp [hc0]
    clear ho KY KB KD hk hcy
    go_enter Tryz.func11, Tryz.ntmps11
    go_wp2_with fail
    rw [← HW0.out]
    refine (KO ⟨W0, Below.refl _ _⟩).mono ?_
    rintro e w1 ⟨rfl, hb⟩
    obtain ⟨x1, rfl⟩ := Later.of hb
    clear hb
    go_wp2
    go_returns
    exact ⟨ret_to HR.out, HBl.out x1⟩
  subst hc0
  by_cases hP : yearP c y
  case neg =>
    simp only [yearB_false hP] at KY
    have HR := hideP (spanR_no (c := c) (k := k) (s := s) (st := st) (ad := ad) (cy := 0) (fun h => hP (by
      have h1 := h.2.2.2.1
      have h2 := h.2.2.2.2
      rw [← hy, in_range (k - ad) (by omega)]
      exact h.2.2)))
    clear ho KB KD hk hcy hP
    go_enter Tryz.func11, Tryz.ntmps11
    go_wp2_with fail
    rw [← HW0.out]
    refine (KO ⟨W0, Below.refl _ _⟩).mono ?_
    rintro e w1 ⟨rfl, hb⟩
    obtain ⟨x1, rfl⟩ := Later.of hb
    clear hb
    go_wp2_with fail
    refine (KY x1).mono ?_
    rintro e w2 ⟨rfl, hb⟩
    obtain ⟨x2, rfl⟩ := x1.next hb
    clear hb
    go_wp2
    go_returns
    exact ⟨ret_to HR.out, HBl.out x2⟩
  have hyk : k - ad = y := by
    have h1 := hP.2.1
    have h2 := hP.2.2
    unfold wrap64 at hy
    omega
  simp only [yearB_true hP] at KY
  have HR := hideP (spanR_yes (k := k) (s := s) (ad := ad) ⟨ho, rfl, by rw [hyk]; exact hP⟩)
  have hb1 := start_bound hP.1 hst hP.2.1 (show y ≤ 3900 by have := hP.2.2; omega)
  have hb2 := start_bound hP.1 hst (show 1 ≤ y + 1 by have := hP.2.1; omega) (show y + 1 ≤ 3900 by have := hP.2.2; omega)
  have e1 : yearStart c st y = start c st y := by unfold yearStart; rw [if_pos ⟨hP, hst⟩]
  have e2 : yearDays c st y = start c st (y + 1) - start c st y := by unfold yearDays; rw [if_pos ⟨hP, hst⟩]
  rw [hyk] at HR
  simp only [e1] at KB
  simp only [e2] at KD
  clear ho hk hcy hP hyk e1 e2 hst
  generalize start c st (y + 1) = R1 at *
  generalize start c st y = R0 at *
  go_enter Tryz.func11, Tryz.ntmps11
  go_wp2_with fail
  rw [← HW0.out]
  refine (KO ⟨W0, Below.refl _ _⟩).mono ?_
  rintro e w1 ⟨rfl, hb⟩
  obtain ⟨x1, rfl⟩ := Later.of hb
  clear hb
  go_wp2_with fail
  refine (KY x1).mono ?_
  rintro e w2 ⟨rfl, hb⟩
  obtain ⟨x2, rfl⟩ := x1.next hb
  clear hb
  go_wp2_with fail
  refine (KB x2).mono ?_
  rintro e w3 ⟨rfl, hb⟩
  obtain ⟨x3, rfl⟩ := x2.next hb
  clear hb
  go_wp2_with fail
  refine (KD x3).mono ?_
  rintro e w4 ⟨rfl, hb⟩
  obtain ⟨x4, rfl⟩ := x3.next hb
  clear hb
  go_wp2
  go_returns
  refine ⟨ret_to (HR.out.trans ?_), HBl.out x4⟩
  have e : R0 + (R1 - R0) - 1 = R1 - 1 := by omega
  rw [e]
  rfl

set_option maxHeartbeats 2000000 in
theorem specEraSpan (c : Int) (s : ByteArray) (st ad cy k : Int) (w : World) (hs : s.size ≤ maxLen) : Calls Tryz.prog 12 #[.int .i64 c, .agg #[.string s, .int .i64 st, .int .i64 ad, .int .i64 cy], .int .i64 k] w fun e w' => e = .returned (spanR c s st ad cy k) ∧ Below w.heap.size w w' := by
  obtain ⟨W0, hW0, c0, c1, c2, c3, hBl⟩ := era_box w s st ad cy 25
  have HW0 := hideP hW0
  have HBl := hideP hBl
  have KO : ∀ x : Later W0, Calls Tryz.prog 22 #[.agg #[.string s, .int .i64 st, .int .i64 ad, .int .i64 cy]] x.w fun e w' => e = .returned (.bool (eraOkB s st ad cy)) ∧ Below x.w.heap.size x.w w' := fun x => specEraOk s st ad cy x.w hs
  have KI : ∀ x : Later W0, Calls Tryz.prog 45 #[.int .i64 k, .int .i64 0, .int .i64 20000] x.w fun e w' => e = .returned (.bool (inB k 0 20000)) ∧ Below x.w.heap.size x.w w' := fun x => calls_below (l01In k 0 20000 x.w)
  have KY : ∀ x : Later W0, Calls Tryz.prog 46 #[.int .i64 c, .int .i64 (k - ad)] x.w fun e w' => e = .returned (.bool (yearB c (k - ad))) ∧ Below x.w.heap.size x.w w' := fun x => calls_below (specYearOk c (k - ad) x.w)
  clear hs hW0 hBl
  cases ho : eraOkB s st ad cy
  · simp only [ho] at KO
    have HR := hideP (spanR_no (c := c) (k := k) (fun h => by rw [ho] at h; cases h.1))
    clear ho KY KI
    go_enter Tryz.func12, Tryz.ntmps12
    go_wp2_with fail
    rw [← HW0.out]
    refine (KO ⟨W0, Below.refl _ _⟩).mono ?_
    rintro e w1 ⟨rfl, hb⟩
    obtain ⟨x1, rfl⟩ := Later.of hb
    clear hb
    go_wp2
    go_returns
    exact ⟨ret_to HR.out, HBl.out x1⟩
  simp only [ho] at KO
  obtain ⟨_, hst, a1, a2, hcy⟩ := eraOk_parts ho
  by_cases hc0 : cy = 0
  case neg =>
    have HR := hideP (spanR_no (c := c) (k := k) (s := s) (st := st) (ad := ad) (fun h => hc0 h.2.1))
    have hc1 : (cy == 0) = false := by simp [hc0]
    clear ho KY KI hcy
    go_enter Tryz.func12, Tryz.ntmps12
    go_wp2_with fail
    rw [← HW0.out]
    refine (KO ⟨W0, Below.refl _ _⟩).mono ?_
    rintro e w1 ⟨rfl, hb⟩
    obtain ⟨x1, rfl⟩ := Later.of hb
    clear hb
    go_wp2
    go_returns
    exact ⟨ret_to HR.out, HBl.out x1⟩
  subst hc0
  by_cases hK : 0 ≤ k ∧ k ≤ 20000
  case neg =>
    simp only [inB_false (show k < 0 ∨ 20000 < k by omega)] at KI
    have HR := hideP (spanR_no (c := c) (k := k) (s := s) (st := st) (ad := ad) (cy := 0) (fun h => hK (by
      have h1 := h.2.2.2.1
      have h2 := h.2.2.2.2
      omega)))
    clear ho KY hcy hK
    go_enter Tryz.func12, Tryz.ntmps12
    go_wp2_with fail
    rw [← HW0.out]
    refine (KO ⟨W0, Below.refl _ _⟩).mono ?_
    rintro e w1 ⟨rfl, hb⟩
    obtain ⟨x1, rfl⟩ := Later.of hb
    clear hb
    go_wp2_with fail
    refine (KI x1).mono ?_
    rintro e w2 ⟨rfl, hb⟩
    obtain ⟨x2, rfl⟩ := x1.next hb
    clear hb
    go_wp2
    go_returns
    exact ⟨ret_to HR.out, HBl.out x2⟩
  simp only [inB_true hK.1 hK.2] at KI
  obtain ⟨k1, k2⟩ := hK
  by_cases hP : yearP c (k - ad)
  case neg =>
    simp only [yearB_false hP] at KY
    have HR := hideP (spanR_no (c := c) (k := k) (s := s) (st := st) (ad := ad) (cy := 0) (fun h => hP h.2.2))
    clear ho hcy hP
    go_enter Tryz.func12, Tryz.ntmps12
    go_wp2_with fail
    rw [← HW0.out]
    refine (KO ⟨W0, Below.refl _ _⟩).mono ?_
    rintro e w1 ⟨rfl, hb⟩
    obtain ⟨x1, rfl⟩ := Later.of hb
    clear hb
    go_wp2_with fail
    refine (KI x1).mono ?_
    rintro e w2 ⟨rfl, hb⟩
    obtain ⟨x2, rfl⟩ := x1.next hb
    clear hb
    go_wp2_with fail
    refine (KY x2).mono ?_
    rintro e w3 ⟨rfl, hb⟩
    obtain ⟨x3, rfl⟩ := x2.next hb
    clear hb
    go_wp2
    go_returns
    exact ⟨ret_to HR.out, HBl.out x3⟩
  simp only [yearB_true hP] at KY
  have HR := hideP (spanR_yes (k := k) (s := s) (ad := ad) ⟨ho, rfl, hP⟩)
  have K1 : ∀ x : Later W0, Calls Tryz.prog 47 #[.int .i64 c, .int .i64 st, .int .i64 (k - ad + 1)] x.w fun e w' => e = .returned (.int .i64 (start c st (k - ad + 1))) ∧ Below x.w.heap.size x.w w' := fun x => specStart c st (k - ad + 1) x.w hP.1 hst (by have := hP.2.1; omega) (by have := hP.2.2; omega)
  have K0 : ∀ x : Later W0, Calls Tryz.prog 47 #[.int .i64 c, .int .i64 st, .int .i64 (k - ad)] x.w fun e w' => e = .returned (.int .i64 (start c st (k - ad))) ∧ Below x.w.heap.size x.w w' := fun x => specStart c st (k - ad) x.w hP.1 hst hP.2.1 (by have := hP.2.2; omega)
  have hb1 := start_bound hP.1 hst hP.2.1 (show k - ad ≤ 3900 by have := hP.2.2; omega)
  have hb2 := start_bound hP.1 hst (show 1 ≤ k - ad + 1 by have := hP.2.1; omega) (show k - ad + 1 ≤ 3900 by have := hP.2.2; omega)
  have h1 := hP.2.1
  have h2 := hP.2.2
  obtain ⟨R1, hR1⟩ : ∃ R, R = start c st (k - ad + 1) := ⟨_, rfl⟩
  obtain ⟨R0, hR0⟩ : ∃ R, R = start c st (k - ad) := ⟨_, rfl⟩
  rw [← hR1] at HR K1 hb2
  rw [← hR0] at HR K0 hb1
  clear ho hcy hP hst hR1 hR0
  obtain ⟨Y0, hY0⟩ : ∃ Y, k - ad = Y := ⟨_, rfl⟩
  simp only [hY0] at KY K1 K0 h1 h2
  obtain ⟨Y1, hY1⟩ : ∃ Y, Y0 + 1 = Y := ⟨_, rfl⟩
  simp only [hY1] at K1
  have q1 : IntKind.i64.wrap (Y0 + 1) = Y1 := by rw [PlainAid.i64_is]; unfold wrap64; omega
  go_enter Tryz.func12, Tryz.ntmps12
  go_wp2_with fail
  rw [← HW0.out]
  refine (KO ⟨W0, Below.refl _ _⟩).mono ?_
  rintro e w1 ⟨rfl, hb⟩
  obtain ⟨x1, rfl⟩ := Later.of hb
  clear hb
  go_wp2_with fail
  refine (KI x1).mono ?_
  rintro e w2 ⟨rfl, hb⟩
  obtain ⟨x2, rfl⟩ := x1.next hb
  clear hb
  go_wp2_with fail
  refine (KY x2).mono ?_
  rintro e w3 ⟨rfl, hb⟩
  obtain ⟨x3, rfl⟩ := x2.next hb
  clear hb
  go_wp2_with fail
  refine wp_region_later (W := W0) x3.below (by kernel_rfl) (by kernel_rfl) ?_
  repeat (go_big_quiet_step (first | (go_at_call_of 47 Y1; exact calls_later (K1 _)) | (go_at_call_of 47 Y0; exact calls_later (K0 _))))
  refine wpQuiet_nil ?_
  intro _ hw'
  obtain ⟨x, rfl⟩ := hw'
  go_wp2
  go_returns
  exact ⟨ret_to HR.out, HBl.out x⟩
end Go.Proofs.YtifekkehbaegiaaGreatDoor.ctr

namespace Go.Proofs.YtifekkehbaegiaaGreatDoor.ctr
open Go.RowKit

theorem own_mono1 {w : World} {b b' e size : Nat} {v : Value} {n : Nat} {xs : List Value} (h : w.ownsRow b e size v n xs) (hb : b' ≤ b) : w.ownsRow b' e size v n xs := by
  obtain ⟨h1, h | ⟨g, cap, cur, hv, hg, hr⟩⟩ := h
  · exact ⟨h1, .inl h⟩
  · exact ⟨h1, .inr ⟨g, cap, cur, hv, Nat.le_trans hb hg, hr⟩⟩
theorem ISt.done {w w0 W : World} {o : Value} {xs : List Int} (h : ISt w o xs W) (hb : Below w0.heap.size w0 w) : MovRow w0 W o xs ∧ Below w0.heap.size w0 W :=
  ⟨own_ints (e := 3) (own_mono1 h.row hb.size), hb.trans (h.below.mono hb.size)⟩
theorem eraDays_all {c : Int} {s : ByteArray} {k f t : Int} (h : t - f < 800) : eraDays c s k f t = daysTo c s k f (t - f + 1).toNat := by
  by_cases hs : spanP f t
  · exact eraDays_in hs
  · rw [eraDays_out hs]
    unfold spanP at hs
    rw [show (t - f + 1).toNat = 0 by omega]
    rfl
theorem eraR_yr {c : Int} {s : ByteArray} {n : Int} : eraR c (eraOf s).name (eraOf s).st (eraOf s).add (eraOf s).cyc n = .tuple #[.int .i64 (yrOf c s n).1, .bool (yrOf c s n).2] := rfl
theorem eraOf_size (s : ByteArray) : (eraOf s).name.size ≤ 16 := by
  rcases find_cases s with h | ⟨k, hk, h, _⟩
  · rw [eraOf_no h]; decide
  · rw [eraOf_at h]; exact eraAt_size0 ⟨k, hk⟩

set_option maxRecDepth 100000 in
set_option maxHeartbeats 4000000 in
theorem specEraDays (c : Int) (s : ByteArray) (k f t : Int) (w : World) : Calls Tryz.prog 28 #[.int .i64 c, .string s, .int .i64 k, .int .i64 f, .int .i64 t] w fun e w' => ∃ v, e = .returned v ∧ MovRow w w' v (eraDays c s k f t) ∧ Below w.heap.size w w' := by
  obtain ⟨i0, hi, hz0, hz1, hz2⟩ := info_parts info_int
  have KF : ∀ W, Calls Tryz.prog 24 #[.string s] W fun e w' => e = .returned (.int .i64 (findEra s)) ∧ Below W.heap.size W w' := specFindEra s
  have K1 : ∀ W, Calls Tryz.prog 45 #[.int .i64 f, .int .i64 (-1000), .int .i64 1200000] W fun e w' => e = .returned (.bool (inB f (-1000) 1200000)) ∧ Below W.heap.size W w' := fun W => calls_below (l01In f (-1000) 1200000 W)
  have K2 : ∀ W, Calls Tryz.prog 45 #[.int .i64 t, .int .i64 (-1000), .int .i64 1200000] W fun e w' => e = .returned (.bool (inB t (-1000) 1200000)) ∧ Below W.heap.size W w' := fun W => calls_below (l01In t (-1000) 1200000 W)
  have S0 : Hid (ISt w (.slice (some ⟨w.heap.size, 0, none⟩) 0 0) [] (w.alloc (.cells #[] 3))) := ⟨iown_empty w _, (Below.refl _ _).alloc (Nat.le_refl _) _⟩
  rcases find_cases s with hf | ⟨q, hq, hf, hn⟩
  · rw [eraDays_no hf]
    rw [hf] at KF
    clear hf K1 K2
    go_enter Tryz.func28, Tryz.ntmps28
    go_wp2_with fail
    refine (KF _).mono ?_
    rintro e w1 ⟨rfl, hb⟩
    have S1 := hideP (S0.out.later hb)
    clear hb
    go_wp2
    go_ret
    exact ⟨_, rfl, S1.out.done (Below.refl _ _)⟩
  rw [hf] at KF
  clear hn
  by_cases hF : -1000 ≤ f ∧ f ≤ 1200000
  case neg =>
    simp only [inB_false (show f < -1000 ∨ 1200000 < f by omega)] at K1
    rw [eraDays_far (fun h => hF h.1)]
    clear hf K2 hF
    go_enter Tryz.func28, Tryz.ntmps28
    go_wp2_with fail
    refine (KF _).mono ?_
    rintro e w1 ⟨rfl, hb⟩
    have S1 := hideP (S0.out.later hb)
    clear hb
    go_wp2_with fail
    refine (K1 _).mono ?_
    rintro e w2 ⟨rfl, hb⟩
    have S2 := hideP (S1.out.later hb)
    clear hb
    go_wp2
    go_ret
    exact ⟨_, rfl, S2.out.done (Below.refl _ _)⟩
  simp only [inB_true hF.1 hF.2] at K1
  by_cases hG : -1000 ≤ t ∧ t ≤ 1200000
  case neg =>
    simp only [inB_false (show t < -1000 ∨ 1200000 < t by omega)] at K2
    rw [eraDays_far (fun h => hG h.2)]
    clear hf hF hG
    go_enter Tryz.func28, Tryz.ntmps28
    go_wp2_with fail
    refine (KF _).mono ?_
    rintro e w1 ⟨rfl, hb⟩
    have S1 := hideP (S0.out.later hb)
    clear hb
    go_wp2_with fail
    refine (K1 _).mono ?_
    rintro e w2 ⟨rfl, hb⟩
    have S2 := hideP (S1.out.later hb)
    clear hb
    go_wp2_with fail
    refine (K2 _).mono ?_
    rintro e w3 ⟨rfl, hb⟩
    have S3 := hideP (S2.out.later hb)
    clear hb
    go_wp2
    go_ret
    exact ⟨_, rfl, S3.out.done (Below.refl _ _)⟩
  simp only [inB_true hG.1 hG.2] at K2
  obtain ⟨f1, f2⟩ := hF
  obtain ⟨t1, t2⟩ := hG
  by_cases hD : t - f < 800
  case neg =>
    rw [eraDays_out (fun h => hD h.2)]
    have hd : decide (800 ≤ t - f) = true := decide_eq_true (by omega)
    clear hf
    go_enter Tryz.func28, Tryz.ntmps28
    go_wp2_with fail
    refine (KF _).mono ?_
    rintro e w1 ⟨rfl, hb⟩
    have S1 := hideP (S0.out.later hb)
    clear hb
    go_wp2_with fail
    refine (K1 _).mono ?_
    rintro e w2 ⟨rfl, hb⟩
    have S2 := hideP (S1.out.later hb)
    clear hb
    go_wp2_with fail
    refine (K2 _).mono ?_
    rintro e w3 ⟨rfl, hb⟩
    have S3 := hideP (S2.out.later hb)
    clear hb
    go_wp2
    go_ret
    exact ⟨_, rfl, S3.out.done (Below.refl _ _)⟩
  rw [eraDays_all hD]
  have KY : ∀ n W, Calls Tryz.prog 9 #[.int .i64 c, .agg #[.string (eraAt q).name, .int .i64 (eraAt q).st, .int .i64 (eraAt q).add, .int .i64 (eraAt q).cyc], .int .i64 n] W fun e w' => e = .returned (.tuple #[.int .i64 (yrOf c s n).1, .bool (yrOf c s n).2]) ∧ Below W.heap.size W w' := fun n W => by
    have h := specEraYear c (eraAt q).name (eraAt q).st (eraAt q).add (eraAt q).cyc n W (by have := eraAt_size0 ⟨q, hq⟩; unfold maxLen; dsimp only at this; omega)
    rw [← eraR_yr, eraOf_at hf]
    exact h
  have hd : decide (800 ≤ t - f) = false := decide_eq_false (by omega)
  have KYh := hideP KY
  clear hf KY
  go_enter Tryz.func28, Tryz.ntmps28
  go_wp2_with fail
  refine (KF _).mono ?_
  rintro e w1 ⟨rfl, hb⟩
  have S1 := hideP (S0.out.later hb)
  clear hb
  go_wp2_with fail
  refine (K1 _).mono ?_
  rintro e w2 ⟨rfl, hb⟩
  have S2 := hideP (S1.out.later hb)
  clear hb
  go_wp2_with fail
  refine (K2 _).mono ?_
  rintro e w3 ⟨rfl, hb⟩
  have S3 := hideP (S2.out.later hb)
  clear hb S0 S1 S2 KF K1 K2
  go_wp2_with fail
  go_loopw [11, 13] (fun o i wr => ∃ j : Nat, j ≤ (t - f + 1).toNat ∧ i = .int .i64 (f + (j : Int)) ∧ ISt w o (daysTo c s k f j) wr) (fun _ i _ => (t - intOf i + 1).toNat)
  case atStart => exact ⟨0, Nat.zero_le _, by simp, S3.out⟩
  case round =>
    obtain ⟨j, hj, rfl, hS⟩ := hrel
    have S := hideP hS
    clear hS S3
    by_cases hlt : f + (j : Int) ≤ t
    · have hl := daysTo_len c s k f j
      obtain ⟨y, b, hyr⟩ : ∃ y b, yrOf c s (f + (j : Int)) = (y, b) := ⟨_, _, rfl⟩
      have KY := KYh.out (f + (j : Int))
      rw [hyr] at KY
      have HH : Hid (hasB c s k (f + (j : Int)) = (b && decide (y = k))) := by unfold Hid hasB; rw [hyr]
      have H1 := hideP (daysTo_hit (c := c) (s := s) (k := k) (f := f) (j := j))
      have H0 := hideP (daysTo_miss (c := c) (s := s) (k := k) (f := f) (j := j))
      clear hyr
      generalize daysTo c s k f j = xs at *
      go_wp2_with fail
      refine (specEras _).mono ?_
      rintro e W1 ⟨v, rfl, hr, hb⟩
      obtain ⟨g, cap, rfl, hg, H⟩ := hr.row.at
      obtain ⟨d0, d1, d2, d3⟩ := H W1 (Below.refl _ _) q hq
      have S1 := hideP (S.out.later hb)
      clear hb hr H
      generalize eraAt q = er at *
      obtain ⟨nm, st, ad, cy⟩ := er
      dsimp only at d0 d1 d2 d3 KY
      go_wp2_with fail
      refine (KY _).mono ?_
      rintro e W2 ⟨rfl, hb⟩
      have S2 := hideP (S1.out.later hb)
      clear hb d0 d1 d2 d3
      cases b
      · have HN := hideP (H0.out (by rw [HH.out]; rfl))
        go_wp2
        exact ⟨⟨j + 1, by omega, by apply congrArg (Value.int .i64); omega, by rw [HN.out]; exact S2.out⟩, by simp [intOf]; omega⟩
      · by_cases hy : y = k
        · have HN := hideP (H1.out (by rw [HH.out, decide_eq_true hy]; rfl))
          subst hy
          go_wp2_with (at_builtin; refine wpList_append_own _ rfl _ _ 38 rfl w.heap.size 3 i0 (.int .i64 0) 1 8 Tryz.underlying38 hi hz0 hz1 hz2 rfl (by decide) _ _ _ rfl (S2.out.row.alloc _) ⟨W2.heap.size, 0, none⟩ 1 1 [.int .i64 (f + (j : Int))] rfl rfl (cell_one_new _ _ _) (by simp [Value.oneCell']) (by unfold maxLen; omega) (by omega) (by have := S2.out.below.size; rw [inew]; omega) ?_; intro v' w9 hown' hgrow _)
          refine ⟨⟨j + 1, by omega, by apply congrArg (Value.int .i64); omega, ?_⟩, by simp [intOf]; omega⟩
          rw [HN.out]
          exact S2.out.app (f + (j : Int)) hown' hgrow
        · have HN := hideP (H0.out (by rw [HH.out, decide_eq_false hy]; rfl))
          have hy' : (y == k) = false := by simp [hy]
          go_wp2
          exact ⟨⟨j + 1, by omega, by apply congrArg (Value.int .i64); omega, by rw [HN.out]; exact S2.out⟩, by simp [intOf]; omega⟩
    · have hjn : j = (t - f + 1).toNat := by omega
      rw [hjn] at S
      go_wp2
      go_ret
      exact ⟨_, rfl, S.out.done (Below.refl _ _)⟩

theorem u64_apart {f t : Int} (h : f ≤ t) (hf : -9223372036854775808 ≤ f) (ht : t ≤ 9223372036854775807) : IntKind.u64.wrap (IntKind.u64.wrap t - IntKind.u64.wrap f) = t - f := by
  have e : ∀ x : Int, IntKind.u64.wrap x = x % 18446744073709551616 := fun x => by simp [IntKind.wrap, IntKind.signed, IntKind.bits]
  rw [e, e, e]
  omega

theorem field0 (nm : ByteArray) (st ad cy x : Int) (W : World) : (Instr.field 71 (.agg #[.string nm, .int .i64 st, .int .i64 ad, .int .i64 cy, .int .i64 x]) 0).run Tryz.prog W = .ok (.agg #[.string nm, .int .i64 st, .int .i64 ad, .int .i64 cy]) W := by kernel_rfl
set_option maxRecDepth 100000 in
set_option maxHeartbeats 4000000 in
theorem implEraDays (c : Int) (s : ByteArray) (k f t : Int) (w : World) (hT : Tab w) (hf : -9223372036854775808 ≤ f) (ht : t ≤ 9223372036854775807) : Calls Tryz.prog 16 #[.int .i64 c, .string s, .int .i64 k, .int .i64 f, .int .i64 t] w fun e w' => ∃ v, e = .returned v ∧ MovRow w w' v (eraDays c s k f t) ∧ Below w.heap.size w w' := by
  obtain ⟨i0, hi, hz0, hz1, hz2⟩ := info_parts info_int
  by_cases h1 : f ≤ t
  case neg =>
    rw [eraDays_out (fun h => h1 h.1)]
    go_enter Tryz.func16, Tryz.ntmps16
    go_wp2
    go_ret
    exact ⟨_, rfl, movRow_nil _ _, Below.refl _ _⟩
  have hu := u64_apart h1 hf ht
  by_cases h2 : t - f < 800
  case neg =>
    rw [eraDays_out (fun h => h2 h.2)]
    go_enter Tryz.func16, Tryz.ntmps16
    go_wp2
    go_ret
    exact ⟨_, rfl, movRow_nil _ _, Below.refl _ _⟩
  rw [eraDays_all h2]
  have KY : ∀ n W, Tab W → Calls Tryz.prog 8 #[.int .i64 c, .agg #[.string (eraOf s).name, .int .i64 (eraOf s).st, .int .i64 (eraOf s).add, .int .i64 (eraOf s).cyc], .int .i64 n] W fun e w' => e = .returned (.tuple #[.int .i64 (yrOf c s n).1, .bool (yrOf c s n).2]) ∧ Below W.heap.size W w' := fun n W hTW => by
    rw [← eraR_yr]
    exact implEraYear c (eraOf s).name (eraOf s).st (eraOf s).add (eraOf s).cyc n W (by have := eraOf_size s; unfold maxLen; omega) hTW
  have KYh := hideP KY
  have HT := hideP hT
  clear KY hT
  go_enter Tryz.func16, Tryz.ntmps16
  go_wp2_with fail
  refine (implMap _).mono ?_
  rintro e W1 ⟨M, rfl, hM, hg, hb⟩
  have HB1 := hideP hb
  clear hb
  have hlook : (Instr.lookup 72 (.map (some M)) (.string s) false).run Tryz.prog W1 = .ok (placed (eraOf s) (findEra s).toNat) W1 := by
    rcases run_look W1 M hM s with ⟨hf, hr⟩ | ⟨q, hq, hf, hn, hr⟩
    · have := hr false
      rw [this, eraOf_no hf, hf]
      rfl
    · have := hr false
      rw [this, eraOf_at hf, hf]
      rfl
  clear hM
  unfold placed at hlook
  generalize (((findEra s).toNat : Nat) : Int) = at0 at *
  generalize eraOf s = er at *
  obtain ⟨nm, st, ad, cy⟩ := er
  dsimp only at hlook KYh
  have hfld := field0 nm st ad cy at0
  go_wp2_with fail
  obtain ⟨Wb, hWb⟩ : ∃ Wb, Wb = W1.alloc (.cells #[.string nm, .int .i64 st, .int .i64 ad, .int .i64 cy] 25) := ⟨_, rfl⟩
  have HE : Hid (∀ W, Below Wb.heap.size Wb W → Blk W W1.heap.size #[.string nm, .int .i64 st, .int .i64 ad, .int .i64 cy] 25) := fun W h => by
    rw [hWb] at h
    exact (Blk.new W1 _ _).below h (by rw [inew]; omega)
  have HBb : Hid (Below w.heap.size w Wb) := by unfold Hid; rw [hWb]; exact HB1.out.alloc HB1.out.size _
  rw [← hWb]
  clear hWb hlook hu
  go_loopw [12, 36] (fun o i wr => ∃ j : Nat, j ≤ (t - f + 1).toNat ∧ i = .int .i64 (j : Int) ∧ ISt Wb o (daysTo c s k f j) wr) (fun _ i _ => (t - f + 1).toNat - (intOf i).toNat)
  case atStart => exact ⟨0, Nat.zero_le _, rfl, ISt.nil Wb⟩
  case round =>
    obtain ⟨j, hj, rfl, hS⟩ := hrel
    have S := hideP hS
    clear hS
    by_cases hlt : (j : Int) < t - f + 1
    · have hl := daysTo_len c s k f j
      obtain ⟨y, b, hyr⟩ : ∃ y b, yrOf c s (f + (j : Int)) = (y, b) := ⟨_, _, rfl⟩
      have KY := KYh.out (f + (j : Int)) wr (HT.out.later (HBb.out.trans (S.out.below.mono HBb.out.size)))
      rw [hyr] at KY
      have HH : Hid (hasB c s k (f + (j : Int)) = (b && decide (y = k))) := by unfold Hid hasB; rw [hyr]
      have H1 := hideP (daysTo_hit (c := c) (s := s) (k := k) (f := f) (j := j))
      have H0 := hideP (daysTo_miss (c := c) (s := s) (k := k) (f := f) (j := j))
      have hE := HE.out wr S.out.below
      have d0 := hE.cell 0 rfl
      have d1 := hE.cell 1 rfl
      have d2 := hE.cell 2 rfl
      have d3 := hE.cell 3 rfl
      clear hyr hE
      generalize daysTo c s k f j = xs at *
      go_wp2_with fail
      refine KY.mono ?_
      rintro e W2 ⟨rfl, hb⟩
      have S2 := hideP (S.out.later hb)
      clear hb d0 d1 d2 d3
      cases b
      · have HN := hideP (H0.out (by rw [HH.out]; rfl))
        go_wp2
        exact ⟨⟨j + 1, by omega, by go_num, by rw [HN.out]; exact S2.out⟩, by simp [intOf]; omega⟩
      · by_cases hy : y = k
        · have HN := hideP (H1.out (by rw [HH.out, decide_eq_true hy]; rfl))
          subst hy
          go_wp2_with (at_builtin; refine wpList_append_own _ rfl _ _ 38 rfl Wb.heap.size 3 i0 (.int .i64 0) 1 8 Tryz.underlying38 hi hz0 hz1 hz2 rfl (by decide) _ _ _ rfl (S2.out.row.alloc _) ⟨W2.heap.size, 0, none⟩ 1 1 [.int .i64 (f + (j : Int))] rfl rfl (cell_one_new _ _ _) (by simp [Value.oneCell']) (by unfold maxLen; omega) (by omega) (by have := S2.out.below.size; rw [inew]; omega) ?_; intro v' w9 hown' hgrow _)
          refine ⟨⟨j + 1, by omega, by go_num, ?_⟩, by simp [intOf]; omega⟩
          rw [HN.out]
          exact S2.out.app (f + (j : Int)) hown' hgrow
        · have HN := hideP (H0.out (by rw [HH.out, decide_eq_false hy]; rfl))
          have hy' : (y == k) = false := by simp [hy]
          go_wp2
          exact ⟨⟨j + 1, by omega, by go_num, by rw [HN.out]; exact S2.out⟩, by simp [intOf]; omega⟩
    · have hjn : j = (t - f + 1).toNat := by omega
      rw [hjn] at S
      go_wp2
      go_ret
      exact ⟨_, rfl, S.out.done HBb.out⟩
end Go.Proofs.YtifekkehbaegiaaGreatDoor.ctr

namespace Go.Proofs.YtifekkehbaegiaaGreatDoor.ctr
open Go.RowKit

/-- A number as a numeral, or in digits above the numerals. -/
def numText (k : Int) : ByteArray := if 3999 < k then itoaB k else putRoman k
theorem num_dec {k : Int} (h : 3999 < k) : numText k = itoaB k := by unfold numText; rw [if_pos h]
theorem num_rom {k : Int} (h : ¬ 3999 < k) : numText k = putRoman k := by unfold numText; rw [if_neg h]
theorem rom_size (k : Int) : (putRoman k).size ≤ 15 := by
  unfold putRoman
  split
  · rename_i h
    show (roman k.toNat).length ≤ 15
    unfold roman
    rw [List.length_append, List.length_append, List.length_append, manyL_len]
    have h1 := digL_len (k.toNat / 100 % 10) 67 68 77
    have h2 := digL_len (k.toNat / 10 % 10) 88 76 67
    have h3 := digL_len (k.toNat % 10) 73 86 88
    omega
  · show 0 ≤ 15
    omega
theorem dec_size5 {e : Int} (h0 : 0 ≤ e) (h1 : e ≤ 12000) : (itoaB e).size ≤ 5 := by
  have hi : Lib.itoa e = Lib.decDigits e.toNat := by unfold Lib.itoa; rw [if_neg (by omega)]
  have hs : (itoaB e).size = (Lib.decDigits e.toNat).length := by show (Lib.itoa e).length = _; rw [hi]
  rw [hs]
  exact dec_len 4 e.toNat (by have : (10 : Nat) ^ (4 + 1) = 100000 := rfl; omega)
theorem num_size {k : Int} (h0 : 0 ≤ k) (h1 : k ≤ 12000) : (numText k).size ≤ 15 := by
  unfold numText
  split
  · have := dec_size5 h0 h1
    omega
  · exact rom_size k
noncomputable def eraText (c : Int) (s : ByteArray) (n : Int) : ByteArray := if (yrOf c s n).2 = true then s ++ ⟨#[32]⟩ ++ numText (yrOf c s n).1 else noText
theorem text_no {c : Int} {s : ByteArray} {n y : Int} (h : yrOf c s n = (y, false)) : eraText c s n = noText := by unfold eraText; rw [h]; rfl
theorem text_yes {c : Int} {s : ByteArray} {n y : Int} (h : yrOf c s n = (y, true)) : eraText c s n = s ++ ⟨#[32]⟩ ++ numText y := by unfold eraText; rw [h]; rfl
theorem yr_bound {c : Int} {s : ByteArray} {n y : Int} {b : Bool} (h : yrOf c s n = (y, b)) : 0 ≤ y ∧ y ≤ 12000 := by
  have := eraYr_bound c (eraOf s).name (eraOf s).st (eraOf s).add (eraOf s).cyc n
  unfold yrOf at h
  rw [h] at this
  exact this
theorem implEraNumber (k : Int) (w : World) (h0 : 0 ≤ k) (h1 : k ≤ 12000) (hP : Pow w) (hS : Shp w) : Calls Tryz.prog 63 #[.int .i64 k] w fun e w' => e = .returned (.string (numText k)) ∧ Below w.heap.size w w' := by
  by_cases h : 3999 < k
  · have K : Calls Tryz.prog 67 #[.int .i64 k] w fun e w' => e = .returned (.string (itoaB k)) ∧ Below w.heap.size w w' := implDecText k w (by omega) (by omega) hP
    rw [num_dec h]
    generalize itoaB k = t at *
    clear hP hS
    go_enter Tryz.func63, Tryz.ntmps63
    go_wp2_with fail
    refine K.mono ?_
    rintro e w1 ⟨rfl, hb⟩
    go_wp2
    go_ret
    exact ⟨rfl, hb⟩
  · have K : Calls Tryz.prog 87 #[.int .i64 k] w fun e w' => e = .returned (.string (putRoman k)) ∧ Below w.heap.size w w' := implPutRoman k w hS
    rw [num_rom h]
    generalize putRoman k = t at *
    clear hP hS
    go_enter Tryz.func63, Tryz.ntmps63
    go_wp2_with fail
    refine K.mono ?_
    rintro e w1 ⟨rfl, hb⟩
    go_wp2
    go_ret
    exact ⟨rfl, hb⟩

set_option maxRecDepth 100000 in
set_option maxHeartbeats 2000000 in
theorem specEraText (c : Int) (s : ByteArray) (n : Int) (w : World) : Calls Tryz.prog 26 #[.int .i64 c, .string s, .int .i64 n] w fun e w' => e = .returned (.string (eraText c s n)) ∧ Below w.heap.size w w' := by
  have KF : ∀ W, Calls Tryz.prog 24 #[.string s] W fun e w' => e = .returned (.int .i64 (findEra s)) ∧ Below W.heap.size W w' := specFindEra s
  rcases find_cases s with hf | ⟨q, hq, hf, hn⟩
  · rw [text_no (yrOf_no hf)]
    rw [hf] at KF
    unfold noText
    clear hf
    go_enter Tryz.func26, Tryz.ntmps26
    go_wp2_with fail
    refine (KF _).mono ?_
    rintro e w1 ⟨rfl, hb⟩
    go_wp2
    go_ret
    exact ⟨rfl, hb⟩
  have hsz : s.size ≤ 16 := by rw [← hn]; exact eraAt_size0 ⟨q, hq⟩
  have KY : ∀ W, Calls Tryz.prog 9 #[.int .i64 c, .agg #[.string (eraAt q).name, .int .i64 (eraAt q).st, .int .i64 (eraAt q).add, .int .i64 (eraAt q).cyc], .int .i64 n] W fun e w' => e = .returned (.tuple #[.int .i64 (yrOf c s n).1, .bool (yrOf c s n).2]) ∧ Below W.heap.size W w' := fun W => by
    have h := specEraYear c (eraAt q).name (eraAt q).st (eraAt q).add (eraAt q).cyc n W (by have := eraAt_size0 ⟨q, hq⟩; unfold maxLen; dsimp only at this; omega)
    rw [← eraR_yr, eraOf_at hf]
    exact h
  rw [hf] at KF
  clear hn
  obtain ⟨y, b, hyr⟩ : ∃ y b, yrOf c s n = (y, b) := ⟨_, _, rfl⟩
  obtain ⟨y0, y1⟩ := yr_bound hyr
  rw [hyr] at KY
  clear hf
  cases b
  · rw [text_no hyr]
    unfold noText
    clear hyr
    go_enter Tryz.func26, Tryz.ntmps26
    go_wp2_with fail
    refine (KF _).mono ?_
    rintro e w1 ⟨rfl, hb⟩
    obtain ⟨x1, rfl⟩ := Later.of hb
    clear hb
    go_wp2_with fail
    refine (specEras _).mono ?_
    rintro e W1 ⟨v, rfl, hr, hb⟩
    obtain ⟨g, cap, rfl, hg, H⟩ := hr.row.at
    obtain ⟨d0, d1, d2, d3⟩ := H W1 (Below.refl _ _) q hq
    obtain ⟨x2, rfl⟩ := x1.next hb
    clear hb hr H
    generalize eraAt q = er at *
    obtain ⟨nm, st, ad, cy⟩ := er
    dsimp only at d0 d1 d2 d3 KY
    go_wp2_with fail
    refine (KY _).mono ?_
    rintro e w3 ⟨rfl, hb⟩
    obtain ⟨x3, rfl⟩ := x2.next hb
    clear hb d0 d1 d2 d3
    go_wp2
    go_ret
    exact ⟨rfl, x3.below⟩
  rw [text_yes hyr]
  clear hyr
  have s1 : (s ++ (⟨#[32]⟩ : ByteArray)).size ≤ 17 := by rw [ByteArray.size_append]; show s.size + 1 ≤ 17; omega
  by_cases h : 3999 < y
  · have KD : ∀ W, Calls Tryz.prog 64 #[.int .i64 y] W fun e w' => e = .returned (.string (itoaB y)) ∧ Below W.heap.size W w' := fun W => calls_bel (specDecText y W (by omega) (by omega))
    rw [num_dec h]
    have s2 := dec_size5 y0 y1
    generalize itoaB y = t at *
    go_enter Tryz.func26, Tryz.ntmps26
    go_wp2_with fail
    refine (KF _).mono ?_
    rintro e w1 ⟨rfl, hb⟩
    obtain ⟨x1, rfl⟩ := Later.of hb
    clear hb
    go_wp2_with fail
    refine (specEras _).mono ?_
    rintro e W1 ⟨v, rfl, hr, hb⟩
    obtain ⟨g, cap, rfl, hg, H⟩ := hr.row.at
    obtain ⟨d0, d1, d2, d3⟩ := H W1 (Below.refl _ _) q hq
    obtain ⟨x2, rfl⟩ := x1.next hb
    clear hb hr H
    generalize eraAt q = er at *
    obtain ⟨nm, st, ad, cy⟩ := er
    dsimp only at d0 d1 d2 d3 KY
    go_wp2_with fail
    refine (KY _).mono ?_
    rintro e w3 ⟨rfl, hb⟩
    obtain ⟨x3, rfl⟩ := x2.next hb
    clear hb d0 d1 d2 d3
    go_wp2_with fail
    refine (KD _).mono ?_
    rintro e w4 ⟨rfl, hb⟩
    obtain ⟨x4, rfl⟩ := x3.next hb
    clear hb
    go_wp2
    go_ret
    exact ⟨rfl, x4.below⟩
  · have KD : ∀ W, Calls Tryz.prog 65 #[.int .i64 y] W fun e w' => e = .returned (.string (putRoman y)) ∧ Below W.heap.size W w' := fun W => calls_bel (specPutRoman y W)
    rw [num_rom h]
    have s2 := rom_size y
    generalize putRoman y = t at *
    go_enter Tryz.func26, Tryz.ntmps26
    go_wp2_with fail
    refine (KF _).mono ?_
    rintro e w1 ⟨rfl, hb⟩
    obtain ⟨x1, rfl⟩ := Later.of hb
    clear hb
    go_wp2_with fail
    refine (specEras _).mono ?_
    rintro e W1 ⟨v, rfl, hr, hb⟩
    obtain ⟨g, cap, rfl, hg, H⟩ := hr.row.at
    obtain ⟨d0, d1, d2, d3⟩ := H W1 (Below.refl _ _) q hq
    obtain ⟨x2, rfl⟩ := x1.next hb
    clear hb hr H
    generalize eraAt q = er at *
    obtain ⟨nm, st, ad, cy⟩ := er
    dsimp only at d0 d1 d2 d3 KY
    go_wp2_with fail
    refine (KY _).mono ?_
    rintro e w3 ⟨rfl, hb⟩
    obtain ⟨x3, rfl⟩ := x2.next hb
    clear hb d0 d1 d2 d3
    go_wp2_with fail
    refine (KD _).mono ?_
    rintro e w4 ⟨rfl, hb⟩
    obtain ⟨x4, rfl⟩ := x3.next hb
    clear hb
    go_wp2
    go_ret
    exact ⟨rfl, x4.below⟩

set_option maxRecDepth 100000 in
set_option maxHeartbeats 2000000 in
theorem implEraText (c : Int) (s : ByteArray) (n : Int) (w : World) (hT : Tab w) (hP : Pow w) (hS : Shp w) : Calls Tryz.prog 25 #[.int .i64 c, .string s, .int .i64 n] w fun e w' => e = .returned (.string (eraText c s n)) ∧ Below w.heap.size w w' := by
  have KY : ∀ W, Tab W → Calls Tryz.prog 8 #[.int .i64 c, .agg #[.string (eraOf s).name, .int .i64 (eraOf s).st, .int .i64 (eraOf s).add, .int .i64 (eraOf s).cyc], .int .i64 n] W fun e w' => e = .returned (.tuple #[.int .i64 (yrOf c s n).1, .bool (yrOf c s n).2]) ∧ Below W.heap.size W w' := fun W hTW => by
    rw [← eraR_yr]
    exact implEraYear c (eraOf s).name (eraOf s).st (eraOf s).add (eraOf s).cyc n W (by have := eraOf_size s; unfold maxLen; omega) hTW
  have KYh := hideP KY
  have HT := hideP hT
  have HP := hideP hP
  have HS := hideP hS
  clear KY hT hP hS
  obtain ⟨y, b, hyr⟩ : ∃ y b, yrOf c s n = (y, b) := ⟨_, _, rfl⟩
  obtain ⟨y0, y1⟩ := yr_bound hyr
  rw [hyr] at KYh
  have hname : b = true → (eraOf s).name = s := fun hb => by
    rcases find_cases s with hf | ⟨q, _, hf, hn⟩
    · rw [yrOf_no hf] at hyr
      have : b = false := (congrArg Prod.snd hyr).symm
      rw [this] at hb
      cases hb
    · rw [eraOf_at hf]
      exact hn
  have hsz := eraOf_size s
  have HN := hideP hname
  have HTX : Hid (eraText c s n = if b = true then s ++ ⟨#[32]⟩ ++ numText y else noText) := by unfold Hid eraText; rw [hyr]
  clear hname hyr
  go_enter Tryz.func25, Tryz.ntmps25
  go_wp2_with fail
  refine (implMap _).mono ?_
  rintro e W1 ⟨M, rfl, hM, hg, hb⟩
  have HB1 := hideP hb
  clear hb
  have hlook : (Instr.lookup 72 (.map (some M)) (.string s) false).run Tryz.prog W1 = .ok (placed (eraOf s) (findEra s).toNat) W1 := by
    rcases run_look W1 M hM s with ⟨hf, hr⟩ | ⟨q, hq, hf, hn, hr⟩
    · have := hr false
      rw [this, eraOf_no hf, hf]
      rfl
    · have := hr false
      rw [this, eraOf_at hf, hf]
      rfl
  clear hM
  unfold placed at hlook
  generalize (((findEra s).toNat : Nat) : Int) = at0 at *
  generalize eraOf s = er at *
  obtain ⟨nm, st, ad, cy⟩ := er
  dsimp only at hlook KYh HN hsz
  have hfld := field0 nm st ad cy at0
  go_wp2_with fail
  obtain ⟨Wb, hWb⟩ : ∃ Wb, Wb = W1.alloc (.cells #[.string nm, .int .i64 st, .int .i64 ad, .int .i64 cy] 25) := ⟨_, rfl⟩
  have c0 : ∀ x : Later Wb, x.w.cell? ⟨W1.heap.size, 0, none⟩ = some (.string nm) := Later.new hWb 0 rfl
  have HBb : Hid (Below w.heap.size w Wb) := by unfold Hid; rw [hWb]; exact HB1.out.alloc HB1.out.size _
  rw [← hWb]
  clear hWb hlook hfld
  refine (KYh.out Wb (HT.out.later HBb.out)).mono ?_
  rintro e w3 ⟨rfl, hb⟩
  obtain ⟨x3, rfl⟩ := Later.of hb
  clear hb
  have HBl : Hid (∀ x : Later Wb, Below w.heap.size w x.w) := fun x => HBb.out.trans (x.below.mono HBb.out.size)
  cases b
  · have HX := hideP (HTX.out.trans (if_neg (by simp)))
    clear c0
    go_wp2
    go_ret
    exact ⟨ret_to (congrArg Value.string HX.out), HBl.out x3⟩
  · have HX := hideP (HTX.out.trans (if_pos rfl))
    obtain rfl : nm = s := HN.out rfl
    have KN : ∀ x : Later Wb, Calls Tryz.prog 63 #[.int .i64 y] x.w fun e w' => e = .returned (.string (numText y)) ∧ Below x.w.heap.size x.w w' := fun x => implEraNumber y x.w y0 y1 (pow_later HP.out (HBl.out x)) (HS.out.later (HBl.out x))
    have s1 : (nm ++ (⟨#[32]⟩ : ByteArray)).size ≤ 17 := by rw [ByteArray.size_append]; show nm.size + 1 ≤ 17; omega
    have s2 := num_size y0 y1
    clear HTX HN KYh
    generalize numText y = t at *
    go_wp2_with fail
    refine wp_region_later (W := Wb) x3.below (by kernel_rfl) (by kernel_rfl) ?_
    repeat (go_big_quiet_step (first | (go_at_call 63; exact calls_later (KN _)) | fail))
    refine wpQuiet_nil ?_
    intro _ hw'
    obtain ⟨x, rfl⟩ := hw'
    go_wp2
    go_ret
    exact ⟨ret_to (congrArg Value.string HX.out), HBl.out x⟩
end Go.Proofs.YtifekkehbaegiaaGreatDoor.ctr
