/- Plain laws of gaps, of no program: the runs of days in no reign, from a first day on. -/
import Derived.Test.YtcdcniniafejbaaGreatDoorRgnOk
namespace Go.Proofs.YtcdcniniafejbaaGreatDoor.ctr
open Go.RowKit

/-- The runs of days of n .. T in none of the reigns. -/
def gapsFrom (T : Int) : List Rgn → Int → List (Int × Int)
  | [], n => if n ≤ T then [(n, T)] else []
  | r :: l, n => (if n ≤ min (r.fr - 1) T then [(n, min (r.fr - 1) T)] else []) ++ gapsFrom T l (max n (r.to + 1))
noncomputable def gaps (l : List Rgn) (F T : Int) : List (Int × Int) := if reignsOk l = true then gapsFrom T l F else []
theorem gaps_done {T : Int} : ∀ (l : List Rgn) (n : Int), T < n → gapsFrom T l n = []
  | [], n, h => by unfold gapsFrom; rw [if_neg (by omega)]
  | r :: l, n, h => by
    unfold gapsFrom
    rw [if_neg (by omega), gaps_done l _ (by omega)]
    rfl
theorem gap_skip {T : Int} {r : Rgn} {l : List Rgn} {n : Int} (hr : r.fr ≤ r.to) (h : r.to < n) : gapsFrom T (r :: l) n = gapsFrom T l n := by
  rw [gapsFrom, if_neg (by omega), show max n (r.to + 1) = n by omega]
  rfl
theorem gap_last {T : Int} {r : Rgn} {l : List Rgn} {n : Int} (hr : r.fr ≤ r.to) (h : T < r.fr) : gapsFrom T (r :: l) n = if n ≤ T then [(n, T)] else [] := by
  rw [gapsFrom, show min (r.fr - 1) T = T by omega, gaps_done l _ (by omega), List.append_nil]
theorem gap_hit {T : Int} {r : Rgn} {l : List Rgn} {n : Int} (h1 : ¬ r.to < n) (h2 : ¬ T < r.fr) (h3 : n < r.fr) : gapsFrom T (r :: l) n = (n, r.fr - 1) :: gapsFrom T l (r.to + 1) := by
  rw [gapsFrom, show min (r.fr - 1) T = r.fr - 1 by omega, if_pos (by omega), show max n (r.to + 1) = r.to + 1 by omega]
  rfl
theorem gap_miss {T : Int} {r : Rgn} {l : List Rgn} {n : Int} (h1 : ¬ r.to < n) (h2 : ¬ T < r.fr) (h3 : ¬ n < r.fr) : gapsFrom T (r :: l) n = gapsFrom T l (r.to + 1) := by
  rw [gapsFrom, show min (r.fr - 1) T = r.fr - 1 by omega, if_neg (by omega), show max n (r.to + 1) = r.to + 1 by omega]
  rfl
theorem gaps_len {T : Int} : ∀ (l : List Rgn) (n : Int), (gapsFrom T l n).length ≤ l.length + 1
  | [], n => by unfold gapsFrom; split <;> simp
  | r :: l, n => by
    have := gaps_len (T := T) l (max n (r.to + 1))
    rw [gapsFrom, List.length_append, List.length_cons]
    split <;> simp <;> omega
theorem drop_rg {l : List Rgn} {k : Nat} (h : k < l.length) : l.drop k = rgA l k :: l.drop (k + 1) := by rw [List.drop_eq_getElem_cons h, rgA_eq h]
theorem gap_len (l : List Rgn) (F T : Int) : (gaps l F T).length ≤ 31 := by
  unfold gaps
  split
  · rename_i h
    have := gaps_len (T := T) l F
    have := ok_len h
    omega
  · simp
/-- What is told of each reign of a table. -/
theorem ok_rgn {l : List Rgn} (h : reignsOk l = true) {k : Nat} (hk : k < l.length) : nameOk (rgA l k).name = true ∧ (rgA l k).fr ≤ (rgA l k).to ∧ bothB (rgA l k).fr = true ∧ bothB (rgA l k).to = true ∧ behB (l.take k) (rgA l k).fr = true ∧ namedR (l.take k) (rgA l k).name = -1 := by
  have := ok_at h hk
  unfold okAt rgnB endsB at this
  simp only [Bool.and_eq_true, decide_eq_true_eq] at this
  exact ⟨this.1.1, this.1.2.1, this.1.2.2.1, this.1.2.2.2, this.2.1, this.2.2⟩
end Go.Proofs.YtcdcniniafejbaaGreatDoor.ctr
