/- Plain facts on the segments of a right regime: they stand in order and apart, so halves find the one segment of a day; what a day is called. -/
import Derived.Test.YtaakgidndjoocaaGreatDoorChgA
import Derived.Test.YtaakgidndjoocaaGreatDoorGoodPlainM
import Derived.Test.YtaakgidndjoocaaGreatDoorRdgCtrM
import Derived.Test.YtaakgidndjoocaaGreatDoorStySpecM
import Derived.Test.YtaakgidndjoocaaGreatDoorSolB
namespace Go.Proofs.YtaakgidndjoocaaGreatDoor.ctr
open Go.RowKit

theorem of_inB {x a b : Int} (h : inB x a b = true) : a ≤ x ∧ x ≤ b := by simpa [inB] using h
theorem tag_rise : ∀ {l : List Seg} (b : Nat), (l.Pairwise fun x y => x.fr < y.fr) → InOrder (tagS l b)
  | [], b, _ => List.Pairwise.nil
  | s :: l, b, h => by
    obtain ⟨h1, h2⟩ := List.pairwise_cons.1 h
    refine List.Pairwise.cons (fun y hy => ?_) (tag_rise (b + 1) h2)
    have := h1 _ (tagS_mem l (b + 1) y hy)
    rw [leP_iff]
    dsimp only
    omega
theorem rise_sort {l : List Seg} (h : l.Pairwise fun x y => x.fr < y.fr) : sortS l = l := by
  have e := sorted_same (l := l) (out := tagS l 0) (tag_rise 0 h) (List.Perm.refl _)
  rw [tagS_map] at e
  exact e.symm
theorem right_seg {r : Rgm} (h : regimeB r = true) {k : Nat} (hk : k < r.segs.length) : segOkB (atK segK r.segs k) = true ∧ r.fr ≤ (atK segK r.segs k).fr ∧ (atK segK r.segs k).to ≤ r.to := segFit_ok (allTo_at (regime_parts h).1 hk)
theorem right_next {r : Rgm} (h : regimeB r = true) {k : Nat} (hk : k + 1 < r.segs.length) : (atK segK r.segs k).fr < (atK segK r.segs (k + 1)).fr := by
  have := allTo_at (regime_parts h).1 hk
  rw [segFit_succ] at this
  simp only [Bool.and_eq_true, decide_eq_true_eq] at this
  exact this.2.2.2
theorem right_rise {r : Rgm} (h : regimeB r = true) : ∀ (d i : Nat), i + d + 1 < r.segs.length → (atK segK r.segs i).fr < (atK segK r.segs (i + d + 1)).fr
  | 0, i, hd => right_next h hd
  | d + 1, i, hd => by
    have h1 := right_rise h d i (by omega)
    have h2 := right_next h (k := i + d + 1) (by omega)
    rw [show i + (d + 1) + 1 = i + d + 1 + 1 by omega]
    omega
theorem right_pair {r : Rgm} (h : regimeB r = true) : r.segs.Pairwise fun x y => x.fr < y.fr := by
  rw [List.pairwise_iff_getElem]
  intro i j hi hj hij
  have := right_rise h (j - i - 1) i (by omega)
  rw [show i + (j - i - 1) + 1 = j by omega, atK_eq hi, atK_eq hj] at this
  exact this
theorem right_full {r : Rgm} (h : regimeB r = true) : fullS r.segs = r.segs := by
  unfold fullS
  rw [rise_sort (right_pair h)]
  refine List.filter_eq_self.2 (fun s hs => ?_)
  obtain ⟨k, hk, rfl⟩ := List.getElem_of_mem hs
  have := segOk_days (right_seg h hk).1
  rw [atK_eq hk] at this
  simpa [hasDayB] using this.1
theorem right_apart {r : Rgm} (h : regimeB r = true) {k : Nat} (hk : k + 1 < r.segs.length) : (atK segK r.segs k).to < (atK segK r.segs (k + 1)).fr := by
  have ht := (regime_parts h).2
  unfold tilesZ tileC at ht
  rw [right_full h] at ht
  by_cases a : sharedB r.segs = true
  · rw [if_pos a] at ht; omega
  · by_cases b : (atK segK r.segs k).to < (atK segK r.segs (k + 1)).fr
    · exact b
    · exfalso
      refine a (shared_yes ⟨k + 1, by omega, hk, ?_⟩)
      rw [sgA_eq hk, show k + 1 - 1 = k by omega, sgA_eq (by omega : k < r.segs.length)]
      rw [atK_eq (by omega : k < r.segs.length), atK_eq hk] at b
      omega
theorem right_far {r : Rgm} (h : regimeB r = true) {i j : Nat} (hij : i < j) (hj : j < r.segs.length) : (atK segK r.segs i).to < (atK segK r.segs j).fr := by
  have h1 := right_apart h (k := i) (by omega)
  by_cases e : j = i + 1
  · subst e; exact h1
  · have := right_rise h (j - (i + 1) - 1) (i + 1) (by omega)
    rw [show i + 1 + (j - (i + 1) - 1) + 1 = j by omega] at this
    omega
/-- Halves find the segment of a day: monotone. -/
theorem right_mono {r : Rgm} (h : regimeB r = true) (n : Int) (a b : Nat) (hab : a ≤ b) (hb : b < r.segs.length) (hp : decide (n ≤ (atK segK r.segs a).to) = true) : decide (n ≤ (atK segK r.segs b).to) = true := by
  have hp := of_decide_eq_true hp
  refine decide_eq_true ?_
  by_cases e : a = b
  · subst e; exact hp
  · have h1 := right_far h (show a < b by omega) hb
    have h2 := segOk_days (right_seg h hb).1
    omega
/-- In a right regime a day of it is in one segment alone. -/
theorem seg_one {r : Rgm} (h : regimeB r = true) {n : Int} {k : Nat} (hk : k < r.segs.length) (h1 : (atK segK r.segs k).fr ≤ n) (h2 : n ≤ (atK segK r.segs k).to) : segAt r.segs n = (k : Int) := by
  rcases segAt_cases r.segs n with ⟨_, h3⟩ | ⟨j, hj, h3, h4, h5⟩
  · have hm : atK segK r.segs k ∈ r.segs := by rw [atK_eq hk]; exact List.getElem_mem hk
    have := h3 _ hm
    unfold segHas at this
    rw [inB_true h1 h2] at this
    cases this
  · rw [h3]
    rcases Nat.lt_trichotomy j k with a | a | a
    · have := right_far h a hk; omega
    · rw [a]
    · have := right_far h a hj; omega
theorem seg_half {r : Rgm} (h : regimeB r = true) {n : Int} (h1 : r.fr ≤ n) (h2 : n ≤ r.to) {m : Nat} (hl : ∀ t, t < m → decide (n ≤ (atK segK r.segs t).to) = false) (hu : ∀ t, m ≤ t → t < r.segs.length → decide (n ≤ (atK segK r.segs t).to) = true) : m < r.segs.length ∧ segAt r.segs n = (m : Int) ∧ (atK segK r.segs m).fr ≤ n ∧ n ≤ (atK segK r.segs m).to := by
  have h0 := (seg_fact h n).2 ⟨h1, h2⟩
  rcases segAt_cases r.segs n with ⟨h3, _⟩ | ⟨j, hj, h3, h4, h5⟩
  · omega
  · have a : m ≤ j := by
      by_cases c : m ≤ j
      · exact c
      · have := hl j (by omega)
        have := of_decide_eq_false this
        omega
    have b : j ≤ m := by
      by_cases c : j ≤ m
      · exact c
      · have := of_decide_eq_true (hu m (Nat.le_refl _) (by omega))
        have := right_far h (show m < j by omega) hj
        omega
    have e : j = m := by omega
    subst e
    exact ⟨hj, h3, h4, h5⟩
theorem right_segs {r : Rgm} (h : regimeB r = true) : 1 ≤ r.segs.length ∧ r.segs.length ≤ 20 := by
  unfold regimeB segsB at h
  simp only [Bool.and_eq_true] at h
  have := of_inB h.2.2.2.1.1
  omega
theorem right_pats {r : Rgm} (h : regimeB r = true) : r.pats.length ≤ 8 := by
  unfold regimeB patsB at h
  simp only [Bool.and_eq_true, decide_eq_true_eq] at h
  have := h.2.2.2.2.1.1
  omega
/-- A segment's numbers. -/
theorem segOk_nums {s : Seg} (h : segOkB s = true) : 400 ≤ s.fr ∧ s.fr ≤ s.to ∧ s.to ≤ 1090000 ∧ (s.cal = 0 ∨ s.cal = 1) ∧ styleB s.sty = true ∧ -3 ≤ s.off ∧ s.off ≤ 3 := by
  unfold segOkB dayB at h
  simp only [Bool.and_eq_true, decide_eq_true_eq] at h
  obtain ⟨h1, h2, h3, h4, h5, h6⟩ := h
  have a := of_inB h1
  have b := of_inB h2
  have c := of_inB h6
  exact ⟨by omega, h3, by omega, calB_iff.1 h4, h5, by omega, by omega⟩

/-- What a day of a segment is called. -/
noncomputable def rdgAt (r : Rgm) (s : Seg) (n : Int) : Rdg :=
  ⟨s.cal, (styYear s.cal s.sty (n + s.off)).1, (dateOf s.cal (n + s.off)).2.1,
    if 0 ≤ patAt r.pats n then (atK patK r.pats (patAt r.pats n).toNat).mon else (dateOf s.cal (n + s.off)).2.2.1,
    if 0 ≤ patAt r.pats n then (atK patK r.pats (patAt r.pats n).toNat).dom else (dateOf s.cal (n + s.off)).2.2.2.1⟩
/-- What a day is called, in a right regime. -/
noncomputable def rdgOn (r : Rgm) (n : Int) : Rdg := rdgAt r (atK segK r.segs (segAt r.segs n).toNat) n
abbrev rdg0 : Rdg := ⟨0, 0, 0, 0, 0⟩
/-- What l11Read answers. -/
noncomputable def rdgR (r : Rgm) (n : Int) : Value := if 0 ≤ segAt r.segs n then .tuple #[rdgV (rdgOn r n), .bool true] else .tuple #[rdgV rdg0, .bool false]
/-- What ReadingOf answers. -/
noncomputable def readR (r : Rgm) (n : Int) : Value := if regimeB r = true ∧ r.fr ≤ n ∧ n ≤ r.to then .tuple #[rdgV (rdgOn r n), .bool true] else .tuple #[rdgV rdg0, .bool false]
end Go.Proofs.YtaakgidndjoocaaGreatDoor.ctr
