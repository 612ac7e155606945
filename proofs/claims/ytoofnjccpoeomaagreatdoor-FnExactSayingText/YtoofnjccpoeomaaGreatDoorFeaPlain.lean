/- Feasts: the plain functions of their days and of those that a day is. -/
import Derived.Test.YtoofnjccpoeomaaGreatDoorFeaList
import Derived.Test.YtoofnjccpoeomaaGreatDoorEasPlain
import Derived.Test.YtoofnjccpoeomaaGreatDoorNameCtr
namespace Go.Proofs.YtoofnjccpoeomaaGreatDoor.ctr
open Go.RowKit

/-- A feast that is one. -/
def feaOk (s : ByteArray) (mv : Bool) (o m d : Int) : Bool := nameOk s && (if mv = true then inB o (-63) 63 && decide (m = 0) && decide (d = 0) else decide (o = 0) && inB d 1 (monthDays 1 1999 m))
/-- Its day in a year. -/
def feaDay (c y : Int) (s : ByteArray) (mv : Bool) (o m d : Int) : Int := if feaOk s mv o m d = true ∧ yearP c y then (if mv = true then easter c y + o else dayOf c y m d) else 0
def Fea.ok (f : Fea) : Bool := feaOk f.name f.mv f.off f.m f.d
def Fea.day (f : Fea) (c y : Int) : Int := feaDay c y f.name f.mv f.off f.m f.d

theorem inB_iff {x a b : Int} : inB x a b = true ↔ a ≤ x ∧ x ≤ b := by simp [inB]
theorem days1 (m : Int) : monthDays 1 1999 m = monthDays 1 1 m := by
  by_cases h : 1 ≤ m ∧ m ≤ 12
  · rw [monthDays_plain (.inr rfl) h.1 h.2 (by rw [leap_gre]; omega), monthDays_plain (.inr rfl) h.1 h.2 (by rw [leap_gre]; omega)]
  · rw [monthDays_no (fun k => h k.2), monthDays_no (fun k => h k.2)]
theorem days_le {c : Int} (hc : c = 0 ∨ c = 1) (y m : Int) : monthDays 1 1999 m ≤ monthDays c y m := by
  by_cases h : 1 ≤ m ∧ m ≤ 12
  · rw [monthDays_plain (.inr rfl) h.1 h.2 (by rw [leap_gre]; omega)]
    by_cases hl : m = 2 ∧ leapP c y
    · rw [hl.1, monthDays_leap hc hl.2]
      decide
    · rw [monthDays_plain hc h.1 h.2 hl]
      omega
  · rw [monthDays_no (fun k => h k.2), monthDays_no (fun k => h k.2)]
    omega
theorem fixed_date {c y m d : Int} (hy : yearP c y) (h : inB d 1 (monthDays 1 1999 m) = true) : dateP c y m d := by
  have h1 := inB_iff.1 h
  have := days_le hy.1 y m
  exact ⟨hy.1, hy.2.1, hy.2.2, h1.1, by omega⟩
theorem fixed_day {c y m d : Int} (hy : yearP c y) (h : inB d 1 (monthDays 1 1999 m) = true) : dayOf c y m d = first c y + before c y (m - 1).toNat + d - 1 := by
  unfold dayOf
  rw [if_pos (fixed_date hy h)]
theorem easter_near {c y : Int} (h : yearP c y) : 0 < easter c y ∧ easter c y ≤ 3000000 := by
  have h1 := easter_fact h
  have h2 := march_b h
  rw [easter_eq h]
  omega
theorem feaDay_b (c y : Int) (s : ByteArray) (mv : Bool) (o m d : Int) : -3000 ≤ feaDay c y s mv o m d ∧ feaDay c y s mv o m d ≤ 3001000 := by
  unfold feaDay
  split
  · rename_i h
    cases mv
    · rw [if_neg (by decide)]
      have := dayOf_bound c y m d
      omega
    · rw [if_pos rfl]
      have h1 := easter_near h.2
      have h2 : inB o (-63) 63 = true := by
        have := h.1
        simp [feaOk] at this
        exact this.2.1.1
      have := inB_iff.1 h2
      omega
  · omega
theorem Fea.day_b (f : Fea) (c y : Int) : -3000 ≤ f.day c y ∧ f.day c y ≤ 3001000 := feaDay_b ..
theorem feaDay_no {c y : Int} {s : ByteArray} {mv : Bool} {o m d : Int} (h : feaOk s mv o m d = false) : feaDay c y s mv o m d = 0 := by
  unfold feaDay
  rw [if_neg (by rw [h]; simp)]
theorem feaDay_noYear {c y : Int} {s : ByteArray} {mv : Bool} {o m d : Int} (h : ¬ yearP c y) : feaDay c y s mv o m d = 0 := by
  unfold feaDay
  rw [if_neg (fun k => h k.2)]
theorem feaDay_mv {c y : Int} {s : ByteArray} {o m d : Int} (h : feaOk s true o m d = true) (hy : yearP c y) : feaDay c y s true o m d = easter c y + o := by
  unfold feaDay
  rw [if_pos ⟨h, hy⟩, if_pos rfl]
theorem feaDay_fix {c y : Int} {s : ByteArray} {o m d : Int} (h : feaOk s false o m d = true) (hy : yearP c y) : feaDay c y s false o m d = dayOf c y m d := by
  unfold feaDay
  rw [if_pos ⟨h, hy⟩, if_neg (by decide)]
theorem ok_mv {s : ByteArray} {o m d : Int} (h : feaOk s true o m d = true) : -63 ≤ o ∧ o ≤ 63 := by
  simp [feaOk] at h
  exact inB_iff.1 h.2.1.1
theorem ok_fix {s : ByteArray} {o m d : Int} (h : feaOk s false o m d = true) : inB d 1 (monthDays 1 1999 m) = true := by
  simp [feaOk] at h
  exact h.2.2

/-- The names of the first k feasts that are on day n of year y. -/
def onTo (c y n : Int) (k : Nat) : List ByteArray := ((feasts.take k).filter fun f => decide (f.day c y = n)).map Fea.name
theorem take_at (k : Nat) (h : k < 20) : feasts.take (k + 1) = feasts.take k ++ [feaAt k] := by
  rw [List.take_succ_eq_append_getElem (show k < feasts.length from h)]
  unfold feaAt
  rw [List.getD, List.getElem?_eq_getElem (show k < feasts.length from h)]
  rfl
theorem onTo_hit {c y n : Int} {k : Nat} (h : k < 20) (hn : (feaAt k).day c y = n) : onTo c y n (k + 1) = onTo c y n k ++ [(feaAt k).name] := by
  unfold onTo
  rw [take_at k h, List.filter_append, List.map_append]
  simp [hn]
theorem onTo_miss {c y n : Int} {k : Nat} (h : k < 20) (hn : (feaAt k).day c y ≠ n) : onTo c y n (k + 1) = onTo c y n k := by
  unfold onTo
  rw [take_at k h, List.filter_append, List.map_append]
  simp [hn]
theorem onTo_len (c y n : Int) (k : Nat) (h : k ≤ 20) : (onTo c y n k).length ≤ 20 := by
  unfold onTo
  rw [List.length_map]
  refine Nat.le_trans (List.length_filter_le _ _) ?_
  rw [List.length_take]
  omega

/-- The last feast of a kind among the first k that is not behind day n, and its day. -/
def lastStep (c y n : Int) (mv : Bool) (a : ByteArray × Int) (f : Fea) : ByteArray × Int := if f.mv = mv ∧ f.day c y ≤ n ∧ (a.1.size = 0 ∨ a.2 < f.day c y) then (f.name, f.day c y) else a
def lastTo (c y n : Int) (mv : Bool) (k : Nat) : ByteArray × Int := (feasts.take k).foldl (lastStep c y n mv) (⟨#[]⟩, 0)
theorem lastTo_succ (c y n : Int) (mv : Bool) (k : Nat) (h : k < 20) : lastTo c y n mv (k + 1) = lastStep c y n mv (lastTo c y n mv k) (feaAt k) := by
  unfold lastTo
  rw [take_at k h, List.foldl_append]
  rfl
theorem last_spec (c y n : Int) (mv : Bool) : ∀ k, k ≤ 20 → lastTo c y n mv k = (⟨#[]⟩, 0) ∨ ∃ i, i < k ∧ lastTo c y n mv k = ((feaAt i).name, (feaAt i).day c y) ∧ (feaAt i).mv = mv ∧ (feaAt i).day c y ≤ n
  | 0, _ => .inl rfl
  | k + 1, h => by
    rw [lastTo_succ _ _ _ _ _ (by omega)]
    unfold lastStep
    split
    · rename_i hk
      exact .inr ⟨k, by omega, rfl, hk.1, hk.2.1⟩
    · rcases last_spec c y n mv k (by omega) with e | ⟨i, hi, e, e2⟩
      · exact .inl e
      · exact .inr ⟨i, by omega, e, e2⟩
theorem last_b (c y n : Int) (mv : Bool) (k : Nat) (h : k ≤ 20) : (lastTo c y n mv k).1.size ≤ 16 ∧ -3000 ≤ (lastTo c y n mv k).2 ∧ (lastTo c y n mv k).2 ≤ 3001000 := by
  have hs : ∀ i : Fin 20, (feaAt i.val).name.size ≤ 16 := by decide
  rcases last_spec c y n mv k h with e | ⟨i, hi, e, _⟩
  · rw [e]
    refine ⟨by decide, ?_⟩
    simp
  · rw [e]
    exact ⟨hs ⟨i, by omega⟩, Fea.day_b _ c y⟩
theorem feaAt_size : ∀ i : Fin 20, (feaAt i.val).name.size ≤ 16 := by decide
theorem feaAt_some : ∀ i : Fin 20, (feaAt i.val).name.size ≠ 0 := by decide
theorem feaAt_ok : ∀ i : Fin 20, (feaAt i.val).ok = true := by decide
theorem feaAt_find : ∀ i : Fin 20, findFeast (feaAt i.val).name = (i.val : Int) := by decide
end Go.Proofs.YtoofnjccpoeomaaGreatDoor.ctr
