/- Plain facts for the law FnEaster: what the counts of Moves sum up to. -/
import Derived.Test.YtckjcaloofjeoaaDoorMovWalk
namespace Go.Proofs.YtckjcaloofjeoaaDoor.ctr
open Go.RowKit

def sumTo (l : List Int) : Nat → Int
  | 0 => 0
  | k + 1 => sumTo l k + l.getD k 0
theorem sumTo_bump (l : List Int) (d : Nat) (hd : d < l.length) : ∀ k, sumTo (bump l d) k = sumTo l k + (if d < k then 1 else 0)
  | 0 => by simp [sumTo]
  | k + 1 => by
    simp only [sumTo]
    rw [sumTo_bump l d hd k, bump_at l d k hd]
    by_cases h : k = d
    · subst h
      rw [if_pos rfl, if_neg (by omega), if_pos (by omega)]
      omega
    · rw [if_neg h]
      by_cases h2 : d < k
      · rw [if_pos h2, if_pos (by omega)]; omega
      · rw [if_neg h2, if_neg (by omega)]; omega
theorem sumTo_zero : ∀ k, sumTo (List.replicate 36 0) k = 0
  | 0 => rfl
  | k + 1 => by
    simp only [sumTo]
    rw [sumTo_zero k, List.getD, List.getElem?_replicate]
    split <;> simp
theorem days_lt (c y : Int) : (easterDays c y).toNat < 36 := by
  by_cases h : yearP c y
  · have := easterDays_b h
    omega
  · unfold easterDays
    rw [if_neg h]
    decide
theorem cnt_sum (c a : Int) : ∀ n : Nat, sumTo (cnt c a n) 36 = n
  | 0 => sumTo_zero 36
  | n + 1 => by
    rw [cnt, sumTo_bump _ _ (by rw [cnt_len]; exact days_lt _ _), cnt_sum c a n, if_pos (days_lt _ _)]
    omega
theorem cnt_first {c a : Int} : ∀ n : Nat, (∀ i : Nat, i < n → yearP c (a + i)) → (cnt c a n).getD 0 0 = 0
  | 0, _ => rfl
  | n + 1, h => by
    have := easterDays_b (h n (by omega))
    rw [cnt, bump_at _ _ _ (by rw [cnt_len]; exact days_lt _ _), if_neg (by omega)]
    exact cnt_first n fun i hi => h i (by omega)
theorem sumTo_b (l : List Int) (h : ∀ j, 0 ≤ l.getD j 0 ∧ l.getD j 0 ≤ 1000) : ∀ k : Nat, 0 ≤ sumTo l k ∧ sumTo l k ≤ 1000 * k
  | 0 => by simp [sumTo]
  | k + 1 => by
    have h1 := sumTo_b l h k
    have h2 := h k
    simp only [sumTo]
    omega
/-- What the law asks of the counts. -/
theorem moves_facts (c a b : Int) : (moves c a b).length = 0 ∨ ((moves c a b).length = 36 ∧ sumTo (moves c a b) 36 = b - a + 1 ∧ (moves c a b).getD 0 0 = 0 ∧ 1 ≤ a ∧ a ≤ b ∧ b ≤ 3000) := by
  by_cases h : movesP c a b
  · refine .inr ?_
    unfold moves
    rw [if_pos h, cnt_len, cnt_sum, cnt_first _ (fun i hi => ⟨h.1.1, by have := h.1.2.1; omega, by have := h.2.1.2.2; omega⟩)]
    have h1 := h.1.2.1
    have h2 := h.2.1.2.2
    have h3 := h.2.2.1
    exact ⟨rfl, by omega, rfl, by omega, by omega, by omega⟩
  · refine .inl ?_
    unfold moves
    rw [if_neg h]
    rfl
theorem moves_b (c a b : Int) (j : Nat) : 0 ≤ (moves c a b).getD j 0 ∧ (moves c a b).getD j 0 ≤ 1000 := by
  unfold moves
  split
  · rename_i h
    have h1 := cnt_b c a j (b - a + 1).toNat
    have h2 := h.2.2.2
    have h3 := h.2.2.1
    omega
  · simp
end Go.Proofs.YtckjcaloofjeoaaDoor.ctr
