/- Plain laws of words and lines: the parts of a text, put together again, are the text; a month's name tells its month. -/
import Derived.Test.YtljlgnadomebcacDoorLinesSpec
import Derived.Test.YtljlgnadomebcacDoorMonthOfCtr
namespace Go.Proofs.YtljlgnadomebcacDoor.ctr
open Go.RowKit

/-- Texts put together with a byte between. -/
def join (g : UInt8) : List ByteArray → List UInt8
  | [] => []
  | [x] => x.data.toList
  | x :: y :: l => x.data.toList ++ g :: join g (y :: l)
theorem join_snoc (g : UInt8) : ∀ (xs : List ByteArray) (y : ByteArray), xs ≠ [] → join g (xs ++ [y]) = join g xs ++ g :: y.data.toList
  | [x], y, _ => rfl
  | x :: z :: l, y, _ => by
    have := join_snoc g (z :: l) y (by simp)
    show x.data.toList ++ g :: join g ((z :: l) ++ [y]) = (x.data.toList ++ g :: join g (z :: l)) ++ g :: y.data.toList
    rw [this]
    simp
theorem join_last (g : UInt8) (xs : List ByteArray) (y z : ByteArray) (c : List UInt8) (h : z.data.toList = y.data.toList ++ c) : join g (xs ++ [z]) = join g (xs ++ [y]) ++ c := by
  by_cases hx : xs = []
  · subst hx
    exact h
  · rw [join_snoc g xs z hx, join_snoc g xs y hx, h]
    simp
theorem ext_list (s : ByteArray) (i j : Nat) : (s.extract i j).data.toList = (s.data.toList.drop i).take (j - i) := by
  simp [ByteArray.data_extract, List.take_drop]
theorem join_parts (s : ByteArray) (g : UInt8) : ∀ k, k ≤ s.size → join g (partsTo s g.toNat k ++ [s.extract (startAt s g.toNat k) k]) = s.data.toList.take k
  | 0, _ => by simp [partsTo, startAt, join]
  | k + 1, hk => by
    have ih := join_parts s g k (by omega)
    have hlt : k < s.data.toList.length := hk
    have hst := start_le s g.toNat k
    rw [take_snoc s k hk, ← ih]
    by_cases h : bAt s k = (g.toNat : Int)
    · obtain ⟨hp, hs⟩ := parts_hit s g.toNat k h
      rw [hp, hs, join_snoc _ _ _ (by simp)]
      have hb : s[k] = g := by
        have := bAt_eq s k hk
        rw [h] at this
        exact UInt8.toNat_inj.1 (by omega)
      rw [hb, ext_list]
      simp
    · obtain ⟨hp, hs⟩ := parts_miss s g.toNat k h
      rw [hp, hs]
      refine join_last g _ (s.extract (startAt s g.toNat k) k) _ [s[k]] ?_
      rw [ext_list, ext_list]
      have e1 : k + 1 - startAt s g.toNat k = (k - startAt s g.toNat k) + 1 := by omega
      rw [e1, List.take_succ_eq_append_getElem (by simp; omega)]
      congr 1
      simp
      have e2 : startAt s g.toNat k + (k - startAt s g.toNat k) = k := by omega
      simp only [e2]
      rfl
theorem join_cut (s : ByteArray) (g : UInt8) : join g (cut s g.toNat) = s.data.toList := by
  unfold cut
  rw [join_parts s g s.size (Nat.le_refl _), take_all]
/-- Lines, each with its end. -/
def ended : List ByteArray → List UInt8
  | [] => []
  | x :: l => x.data.toList ++ 10 :: ended l
theorem ended_snoc : ∀ (xs : List ByteArray) (y : ByteArray), ended (xs ++ [y]) = ended xs ++ (y.data.toList ++ [10])
  | [], y => rfl
  | x :: l, y => by
    show x.data.toList ++ 10 :: ended (l ++ [y]) = (x.data.toList ++ 10 :: ended l) ++ (y.data.toList ++ [10])
    rw [ended_snoc l y]
    simp
theorem ended_join : ∀ xs : List ByteArray, xs ≠ [] → ended xs = join 10 xs ++ [10]
  | [x], _ => by simp [ended, join]
  | x :: y :: l, _ => by
    have := ended_join (y :: l) (by simp)
    show x.data.toList ++ 10 :: ended (y :: l) = (x.data.toList ++ 10 :: join 10 (y :: l)) ++ [10]
    rw [this]
    simp
theorem ended_lines (s : ByteArray) : ended (lines s) = s.data.toList ∨ ended (lines s) = s.data.toList ++ [10] := by
  have hj : join 10 (cut s 10) = s.data.toList := join_cut s 10
  unfold lines
  by_cases h : (lastPart s 10).size = 0
  · rw [if_pos h]
    left
    have hc : cut s 10 = partsTo s 10 s.size ++ [lastPart s 10] := rfl
    have hl : (lastPart s 10).data.toList = [] := by
      have : (lastPart s 10).data.size = 0 := h
      simpa using Array.eq_empty_of_size_eq_zero this
    by_cases hp : partsTo s 10 s.size = []
    · rw [hp] at hc ⊢
      rw [← hj, hc]
      show [] = (lastPart s 10).data.toList
      rw [hl]
    · rw [ended_join _ hp, ← hj, hc, join_snoc _ _ _ hp, hl]
  · rw [if_neg h, ended_join _ (cut_ne s 10), hj]
    exact .inr rfl
theorem month_back (m : Int) (h1 : 1 ≤ m) (h2 : m ≤ 12) : monthOf (monthText m) = m := by
  rcases month_cases h1 h2 with rfl | rfl | rfl | rfl | rfl | rfl | rfl | rfl | rfl | rfl | rfl | rfl <;> decide
theorem month_some (m : Int) (h1 : 1 ≤ m) (h2 : m ≤ 12) : (monthText m).toList.isEmpty = false := by
  rw [empty_iff]
  rcases month_cases h1 h2 with rfl | rfl | rfl | rfl | rfl | rfl | rfl | rfl | rfl | rfl | rfl | rfl <;> decide
theorem month_none (m : Int) (h : m < 1 ∨ 12 < m) : (monthText m).toList.isEmpty = true := by
  rw [monthText_no h, empty_iff]
  rfl
end Go.Proofs.YtljlgnadomebcacDoor.ctr
