/- Plain laws of eras, of no program: which era is right, the number of a day's year, the span of a number, the days of a number. -/
import Derived.Test.YtifekkehbaegiaaGreatDoorStyPlain2
import Derived.Test.YtifekkehbaegiaaGreatDoorEraOkCtr
namespace Go.Proofs.YtifekkehbaegiaaGreatDoor.ctr
open Go.RowKit

/-- The number of a year that the style tells. -/
def eraNum (add cyc y : Int) : Int := if cyc = 0 then y + add else (y + add - 1) % cyc + 1
theorem eraNum_cyc {add cyc y : Int} (h : 2 ≤ cyc) : 1 ≤ eraNum add cyc y ∧ eraNum add cyc y ≤ cyc := by
  unfold eraNum
  rw [if_neg (by omega)]
  have h1 := Int.emod_nonneg (y + add - 1) (show cyc ≠ 0 by omega)
  have h2 := Int.emod_lt_of_pos (y + add - 1) (show 0 < cyc by omega)
  omega
theorem eraNum_bound {s : ByteArray} {st add cyc y : Int} (h : eraOkB s st add cyc = true) (h1 : 1 ≤ y) (h2 : y ≤ 3000) : 1 ≤ eraNum add cyc y ∧ eraNum add cyc y ≤ 12000 := by
  obtain ⟨_, _, a1, a2, hc⟩ := eraOk_parts h
  rcases hc with hc | ⟨c1, c2⟩
  · unfold eraNum
    rw [if_pos hc]
    omega
  · have := eraNum_cyc (add := add) (y := y) c1
    omega
/-- The number of the year in which a day is, and whether there is one. -/
noncomputable def eraYr (c : Int) (s : ByteArray) (st add cyc n : Int) : Int × Bool :=
  if eraOkB s st add cyc = true ∧ (styYear c st n).2 = true then (eraNum add cyc (styYear c st n).1, true) else (0, false)
theorem eraYr_bad {c : Int} {s : ByteArray} {st add cyc n : Int} (h : eraOkB s st add cyc = false) : eraYr c s st add cyc n = (0, false) := by
  unfold eraYr
  rw [if_neg (by rw [h]; simp)]
theorem eraYr_no {c : Int} {s : ByteArray} {st add cyc n : Int} (h : styYear c st n = (0, false)) : eraYr c s st add cyc n = (0, false) := by
  unfold eraYr
  rw [if_neg (by rw [h]; simp)]
theorem eraYr_yes {c : Int} {s : ByteArray} {st add cyc n y : Int} (h : eraOkB s st add cyc = true) (h' : styYear c st n = (y, true)) : eraYr c s st add cyc n = (eraNum add cyc y, true) := by
  unfold eraYr
  rw [if_pos ⟨h, by rw [h']⟩, h']
theorem sty_cases (c s n : Int) : styYear c s n = (0, false) ∨ ∃ y, styYear c s n = (y, true) ∧ yearP c y ∧ styleP s ∧ start c s y ≤ n ∧ n < start c s (y + 1) ∧ -1 ≤ n ∧ n ≤ 1096000 := by
  by_cases h : (dateOf c n).2.2.2.2 = true ∧ styleP s ∧ 1 ≤ rawYear c s (dateOf c n).2.1 n ∧ rawYear c s (dateOf c n).2.1 n ≤ 3000
  · right
    obtain ⟨a, Y, m, d, hd⟩ : ∃ a Y m d, dateOf c n = (a, Y, m, d, true) := ⟨_, _, _, _, by rw [← h.1]⟩
    obtain ⟨rfl, hP, hn⟩ := date_back hd
    have e : styYear a s n = (rawYear a s (dateOf a n).2.1 n, true) := by unfold styYear; rw [if_pos h]
    have k := (sty_iff hP.1 hd).1 e
    have hl := line_in hP.1 (dateP_month hP).1 (dateP_month hP).2 hP.2.2.2.1 hP.2.2.2.2
    rw [← lineD_dayOf hP, hn] at hl
    have f1 := first_le' hP.1 hP.2.1
    have f2 := first_le' hP.1 (show Y + 1 ≤ 3001 by have := hP.2.2.1; omega)
    refine ⟨_, e, ⟨hP.1, k.2.1, k.2.2.1⟩, k.1, k.2.2.2.1, k.2.2.2.2, ?_, ?_⟩
    · rcases hP.1 with rfl | rfl
      · rw [first_jul] at f1; omega
      · rw [first_gre] at f1; omega
    · rcases hP.1 with rfl | rfl
      · rw [first_jul 3001] at f2; omega
      · rw [first_gre 3001] at f2; omega
  · left
    unfold styYear
    rw [if_neg h]
/-- What EraYear answers: nothing, or a number of a day that lies in the number's year. -/
theorem eraYr_cases (c : Int) (s : ByteArray) (st add cyc n : Int) : eraYr c s st add cyc n = (0, false) ∨ ∃ y, eraOkB s st add cyc = true ∧ yearP c y ∧ styYear c st n = (y, true) ∧ eraYr c s st add cyc n = (eraNum add cyc y, true) ∧ start c st y ≤ n ∧ n < start c st (y + 1) ∧ -1 ≤ n ∧ n ≤ 1096000 := by
  cases ho : eraOkB s st add cyc
  · exact .inl (eraYr_bad ho)
  · rcases sty_cases c st n with h | ⟨y, h, hy, _, h1, h2, h3, h4⟩
    · exact .inl (eraYr_no h)
    · exact .inr ⟨y, rfl, hy, h, eraYr_yes ho h, h1, h2, h3, h4⟩
theorem eraYr_bound (c : Int) (s : ByteArray) (st add cyc n : Int) : 0 ≤ (eraYr c s st add cyc n).1 ∧ (eraYr c s st add cyc n).1 ≤ 12000 := by
  rcases eraYr_cases c s st add cyc n with h | ⟨y, h1, h2, _, h3, _⟩
  · rw [h]; simp
  · rw [h3]
    have := eraNum_bound h1 h2.2.1 h2.2.2
    exact ⟨by show 0 ≤ eraNum add cyc y; omega, this.2⟩

/-- The first and the last day of a number's year. -/
def eraSpan (c : Int) (s : ByteArray) (st add cyc k : Int) : Int × Int :=
  if eraOkB s st add cyc = true ∧ cyc = 0 ∧ yearP c (k - add) then (start c st (k - add), start c st (k - add + 1) - 1) else (0, 0)
/-- A day is in the span of its year. -/
theorem span_of {c : Int} {s : ByteArray} {st add cyc n : Int} (h : (eraYr c s st add cyc n).2 = true) (hc : cyc = 0) : (eraSpan c s st add cyc (eraYr c s st add cyc n).1).1 ≤ n ∧ n ≤ (eraSpan c s st add cyc (eraYr c s st add cyc n).1).2 := by
  rcases eraYr_cases c s st add cyc n with h' | ⟨y, h1, h2, _, h3, h4, h5, _⟩
  · rw [h'] at h; simp at h
  · rw [h3]
    subst hc
    have e : eraNum add 0 y = y + add := by unfold eraNum; rw [if_pos rfl]
    dsimp only
    rw [e]
    unfold eraSpan
    rw [show y + add - add = y by omega, if_pos ⟨h1, rfl, h2⟩]
    exact ⟨h4, by show n ≤ start c st (y + 1) - 1; omega⟩

/-- The era of a name: the empty one for none. -/
def eraOf (s : ByteArray) : Era := if findEra s = -1 then era0 else eraAt (findEra s).toNat
theorem eraOf_no {s : ByteArray} (h : findEra s = -1) : eraOf s = era0 := by unfold eraOf; rw [if_pos h]
theorem eraOf_at {s : ByteArray} {k : Nat} (h : findEra s = (k : Int)) : eraOf s = eraAt k := by
  unfold eraOf
  rw [if_neg (by omega), h]
  rfl
/-- The number of a day's year by the era of a name. -/
noncomputable def yrOf (c : Int) (s : ByteArray) (n : Int) : Int × Bool := eraYr c (eraOf s).name (eraOf s).st (eraOf s).add (eraOf s).cyc n
theorem yrOf_no {c : Int} {s : ByteArray} {n : Int} (h : findEra s = -1) : yrOf c s n = (0, false) := by
  unfold yrOf
  rw [eraOf_no h]
  exact eraYr_bad eraOk_zero
theorem yrOf_at {c : Int} {s : ByteArray} {n : Int} {k : Nat} (h : findEra s = (k : Int)) : yrOf c s n = eraYr c (eraAt k).name (eraAt k).st (eraAt k).add (eraAt k).cyc n := by
  unfold yrOf
  rw [eraOf_at h]
theorem yrOf_far {c : Int} {s : ByteArray} {n : Int} (h : n < -1 ∨ 1096000 < n) : yrOf c s n = (0, false) := by
  unfold yrOf
  rcases eraYr_cases c (eraOf s).name (eraOf s).st (eraOf s).add (eraOf s).cyc n with h' | ⟨_, _, _, _, _, _, _, h1, h2⟩
  · exact h'
  · omega
/-- Whether a day has a number by the era of a name. -/
noncomputable def hasB (c : Int) (s : ByteArray) (k n : Int) : Bool := (yrOf c s n).2 && decide ((yrOf c s n).1 = k)
theorem hasB_far {c : Int} {s : ByteArray} {k n : Int} (h : n < -1 ∨ 1096000 < n) : hasB c s k n = false := by unfold hasB; rw [yrOf_far h]; rfl
theorem hasB_no {c : Int} {s : ByteArray} {k n : Int} (h : findEra s = -1) : hasB c s k n = false := by unfold hasB; rw [yrOf_no h]; rfl
/-- The days of a number among the first k of those from a day on. -/
noncomputable def daysTo (c : Int) (s : ByteArray) (k f : Int) (j : Nat) : List Int := ((List.range j).map (fun i : Nat => f + (i : Int))).filter (hasB c s k)
def spanP (f t : Int) : Prop := f ≤ t ∧ t - f < 800
instance (f t : Int) : Decidable (spanP f t) := by unfold spanP; infer_instance
noncomputable def eraDays (c : Int) (s : ByteArray) (k f t : Int) : List Int := if spanP f t then daysTo c s k f (t - f + 1).toNat else []
theorem daysTo_len (c : Int) (s : ByteArray) (k f : Int) (j : Nat) : (daysTo c s k f j).length ≤ j := by
  unfold daysTo
  refine Nat.le_trans (List.length_filter_le _ _) ?_
  simp
theorem eraDays_len (c : Int) (s : ByteArray) (k f t : Int) : (eraDays c s k f t).length ≤ 800 := by
  unfold eraDays
  split
  · rename_i h
    have := daysTo_len c s k f (t - f + 1).toNat
    unfold spanP at h
    omega
  · simp
theorem daysTo_hit {c : Int} {s : ByteArray} {k f : Int} {j : Nat} (h : hasB c s k (f + (j : Int)) = true) : daysTo c s k f (j + 1) = daysTo c s k f j ++ [f + (j : Int)] := by
  unfold daysTo
  rw [List.range_succ, List.map_append, List.filter_append]
  simp [h]
theorem daysTo_miss {c : Int} {s : ByteArray} {k f : Int} {j : Nat} (h : hasB c s k (f + (j : Int)) = false) : daysTo c s k f (j + 1) = daysTo c s k f j := by
  unfold daysTo
  rw [List.range_succ, List.map_append, List.filter_append]
  simp [h]
theorem daysTo_none {c : Int} {s : ByteArray} {k f : Int} {j : Nat} (h : ∀ i : Nat, i < j → hasB c s k (f + (i : Int)) = false) : daysTo c s k f j = [] := by
  unfold daysTo
  rw [List.filter_eq_nil_iff]
  intro x hx
  obtain ⟨i, hi, rfl⟩ := List.mem_map.1 hx
  rw [h i (List.mem_range.1 hi)]
  simp
/-- Beyond the bounds that the model asks of both ends no day has a number. -/
theorem eraDays_far {c : Int} {s : ByteArray} {k f t : Int} (h : ¬ ((-1000 ≤ f ∧ f ≤ 1200000) ∧ (-1000 ≤ t ∧ t ≤ 1200000))) : eraDays c s k f t = [] := by
  unfold eraDays
  split
  · rename_i hs
    unfold spanP at hs
    exact daysTo_none (fun i hi => hasB_far (by omega))
  · rfl
theorem eraDays_no {c : Int} {s : ByteArray} {k f t : Int} (h : findEra s = -1) : eraDays c s k f t = [] := by
  unfold eraDays
  split
  · exact daysTo_none (fun i _ => hasB_no h)
  · rfl
theorem eraDays_out {c : Int} {s : ByteArray} {k f t : Int} (h : ¬ spanP f t) : eraDays c s k f t = [] := by unfold eraDays; rw [if_neg h]
theorem eraDays_in {c : Int} {s : ByteArray} {k f t : Int} (h : spanP f t) : eraDays c s k f t = daysTo c s k f (t - f + 1).toNat := by unfold eraDays; rw [if_pos h]
/-- The days rise. -/
theorem daysTo_rise (c : Int) (s : ByteArray) (k f : Int) (j : Nat) : (daysTo c s k f j).Pairwise (· < ·) := by
  unfold daysTo
  refine List.Pairwise.filter _ ?_
  rw [List.pairwise_map]
  refine List.Pairwise.imp ?_ (List.pairwise_lt_range (n := j))
  intro a b h
  omega
theorem eraDays_rise (c : Int) (s : ByteArray) (k f t : Int) : (eraDays c s k f t).Pairwise (· < ·) := by
  unfold eraDays
  split
  · exact daysTo_rise _ _ _ _ _
  · simp
theorem eraDays_up (c : Int) (s : ByteArray) (k f t : Int) (j : Nat) (h : j + 1 < (eraDays c s k f t).length) : (eraDays c s k f t).getD j 0 < (eraDays c s k f t).getD (j + 1) 0 := by
  have := List.pairwise_iff_getElem.1 (eraDays_rise c s k f t) j (j + 1) (by omega) h (by omega)
  rw [List.getD, List.getD, List.getElem?_eq_getElem (by omega), List.getElem?_eq_getElem h]
  exact this
end Go.Proofs.YtifekkehbaegiaaGreatDoor.ctr
