/- How segments tile, plain: two that share a day stand beside each other; the first day that none has, as the program and as the model look for it. -/
import Derived.Test.YtaakgidndjoocaaGreatDoorSegA
namespace Go.Proofs.YtaakgidndjoocaaGreatDoor.ctr
open Go.RowKit

def hasDayB (s : Seg) : Bool := decide (s.fr ≤ s.to)
def fullS (l : List Seg) : List Seg := (sortS l).filter hasDayB
def sharedP (L : List Seg) : Prop := ∃ i, 1 ≤ i ∧ i < L.length ∧ (sgA L i).fr ≤ (sgA L (i - 1)).to
noncomputable def sharedB (L : List Seg) : Bool := @decide (sharedP L) (Classical.propDecidable _)
theorem shared_yes {L : List Seg} (h : sharedP L) : sharedB L = true := by unfold sharedB; simp [h]
theorem shared_no {L : List Seg} (h : ¬ sharedP L) : sharedB L = false := by unfold sharedB; simp [h]
/-- None of the first k + 1 shares a day with the one ahead of it. -/
def NoSh (L : List Seg) (N k : Nat) : Prop := ∀ j, 1 ≤ j → j < k + 1 → j < N → ¬ (sgA L j).fr ≤ (sgA L (j - 1)).to
def bareI (to : Int) : List Seg → Int → Bool
  | [], _ => true
  | s :: l, n => if n < s.fr then true else if to ≤ s.to then false else bareI to l (max n (s.to + 1))
def bareS (to : Int) : List Seg → Int → Bool
  | [], n => decide (n ≤ to)
  | s :: l, n => if n ≤ to then (if s.to < n then bareS to l n else if n < s.fr then true else if to ≤ s.to then false else bareS to l (s.to + 1)) else false
theorem bareS_no {to n : Int} (h : ¬ n ≤ to) : ∀ L, bareS to L n = false
  | [] => by simp [bareS, h]
  | s :: l => by rw [bareS, if_neg h]
theorem bare_same {to : Int} : ∀ (L : List Seg) (n : Int), (∀ s ∈ L, s.fr ≤ s.to) → n ≤ to → bareI to L n = bareS to L n
  | [], n, _, h => by simp [bareI, bareS, h]
  | s :: l, n, hd, h => by
    have hs := hd s List.mem_cons_self
    have hl : ∀ x ∈ l, x.fr ≤ x.to := fun x hx => hd x (List.mem_cons_of_mem _ hx)
    rw [bareI, bareS, if_pos h]
    by_cases h1 : s.to < n
    · rw [if_pos h1, if_neg (by omega), if_neg (by omega), show max n (s.to + 1) = n by omega]
      exact bare_same l n hl h
    · rw [if_neg h1]
      by_cases h2 : n < s.fr
      · rw [if_pos h2, if_pos h2]
      · rw [if_neg h2, if_neg h2]
        by_cases h3 : to ≤ s.to
        · rw [if_pos h3, if_pos h3]
        · rw [if_neg h3, if_neg h3, show max n (s.to + 1) = s.to + 1 by omega]
          exact bare_same l (s.to + 1) hl (by omega)
theorem full_days (l : List Seg) : ∀ s ∈ fullS l, s.fr ≤ s.to := fun s hs => by
  have := (List.mem_filter.1 hs).2
  simpa [hasDayB] using this
theorem full_len (l : List Seg) : (fullS l).length ≤ l.length := by
  have := List.length_filter_le hasDayB (sortS l)
  rw [sortS_len] at this
  exact this
/-- 1: two share a day; 2: a day of from .. to is in none; 0: neither. -/
noncomputable def tileC (f t : Int) (L : List Seg) : Int := if sharedB L = true then 1 else if bareS t L f = true then 2 else 0
noncomputable def tilesZ (f t : Int) (l : List Seg) : Int := tileC f t (fullS l)
theorem filter_snoc {p : Seg → Bool} {L : List Seg} {k : Nat} (h : k < L.length) : (L.take (k + 1)).filter p = (L.take k).filter p ++ (if p (sgA L k) = true then [sgA L k] else []) := by
  rw [sgA_eq h, List.take_succ_eq_append_getElem h, List.filter_append]
  congr 1
  by_cases hp : p L[k] = true
  · simp [hp]
  · simp [hp]
theorem bareI_at {to n : Int} {L : List Seg} {k : Nat} (h : k < L.length) : bareI to (L.drop k) n = if n < (sgA L k).fr then true else if to ≤ (sgA L k).to then false else bareI to (L.drop (k + 1)) (max n ((sgA L k).to + 1)) := by
  rw [List.drop_eq_getElem_cons h, bareI, ← sgA_eq h]
theorem bareS_at {to n : Int} {L : List Seg} {k : Nat} (h : k < L.length) : bareS to (L.drop k) n = if n ≤ to then (if (sgA L k).to < n then bareS to (L.drop (k + 1)) n else if n < (sgA L k).fr then true else if to ≤ (sgA L k).to then false else bareS to (L.drop (k + 1)) ((sgA L k).to + 1)) else false := by
  rw [List.drop_eq_getElem_cons h, bareS, ← sgA_eq h]
theorem bareI_end {to n : Int} {L : List Seg} {k : Nat} (h : L.length ≤ k) : bareI to (L.drop k) n = true := by rw [List.drop_of_length_le h]; rfl
theorem bareS_end {to n : Int} {L : List Seg} {k : Nat} (h : L.length ≤ k) : bareS to (L.drop k) n = decide (n ≤ to) := by rw [List.drop_of_length_le h]; rfl
end Go.Proofs.YtaakgidndjoocaaGreatDoor.ctr
