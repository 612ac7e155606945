/- A regime's plain check: which segments, which patches, which rules are right. -/
import Derived.Test.YtaakgidndjoocaaGreatDoorSegOkM
import Derived.Test.YtaakgidndjoocaaGreatDoorRgmHelpM
import Derived.Test.YtaakgidndjoocaaGreatDoorTilPlainM
import Derived.Test.YtaakgidndjoocaaGreatDoorRgnOkSM
namespace Go.Proofs.YtaakgidndjoocaaGreatDoor.ctr
open Go.RowKit

def allTo (p : Nat → Bool) (k : Nat) : Bool := (List.range k).all p
theorem allTo_next {p : Nat → Bool} {k : Nat} (h : allTo p k = true) (hk : p k = true) : allTo p (k + 1) = true := by
  unfold allTo at *
  rw [List.range_succ, List.all_append, h]
  simp [hk]
theorem allTo_bad {p : Nat → Bool} {k n : Nat} (hk : p k = false) (h : k < n) : allTo p n = false := by
  unfold allTo
  rw [List.all_eq_false]
  exact ⟨k, List.mem_range.2 h, by rw [hk]; simp⟩
theorem allTo_at {p : Nat → Bool} {k n : Nat} (h : allTo p n = true) (hk : k < n) : p k = true := by
  unfold allTo at h
  exact List.all_eq_true.1 h k (List.mem_range.2 hk)

def segFit (f t : Int) (l : List Seg) (k : Nat) : Bool := segOkB (atK segK l k) && (decide (f ≤ (atK segK l k).fr) && (decide ((atK segK l k).to ≤ t) && (decide (k = 0) || decide ((atK segK l (k - 1)).fr < (atK segK l k).fr))))
noncomputable def segsB (f t : Int) (l : List Seg) : Bool := inB l.length 1 20 && (allTo (segFit f t l) l.length && decide (tilesZ f t l = 0))
theorem segs_short {f t : Int} {l : List Seg} (h : inB l.length 1 20 = false) : segsB f t l = false := by unfold segsB; rw [h, Bool.false_and]
theorem segs_bad {f t : Int} {l : List Seg} {k : Nat} (h : segFit f t l k = false) (hk : k < l.length) : segsB f t l = false := by unfold segsB; rw [allTo_bad h hk, Bool.false_and, Bool.and_false]
theorem segs_end {f t : Int} {l : List Seg} (h : inB l.length 1 20 = true) (ha : allTo (segFit f t l) l.length = true) : segsB f t l = decide (tilesZ f t l = 0) := by unfold segsB; rw [h, ha, Bool.true_and, Bool.true_and]
theorem segFit_ok {f t : Int} {l : List Seg} {k : Nat} (h : segFit f t l k = true) : segOkB (atK segK l k) = true ∧ f ≤ (atK segK l k).fr ∧ (atK segK l k).to ≤ t := by
  unfold segFit at h
  simp only [Bool.and_eq_true, decide_eq_true_eq] at h
  exact ⟨h.1, h.2.1, h.2.2.1⟩
theorem segOk_days {s : Seg} (h : segOkB s = true) : s.fr ≤ s.to ∧ 400 ≤ s.to := by
  unfold segOkB at h
  simp only [Bool.and_eq_true, decide_eq_true_eq] at h
  refine ⟨h.2.2.1, ?_⟩
  by_cases hs : 400 ≤ s.to
  · exact hs
  · have := h.2.1; unfold dayB at this; rw [inB_false (.inl (by omega))] at this; cases this
theorem segs_days {f t : Int} {l : List Seg} (ha : allTo (segFit f t l) l.length = true) : ∀ s ∈ l, -9223372036854775808 ≤ s.to := by
  intro s hs
  obtain ⟨i, hi, rfl⟩ := List.mem_iff_getElem.1 hs
  have h := (segOk_days (segFit_ok (allTo_at ha hi)).1).2
  rw [atK_eq hi] at h
  omega
theorem segs_order {f t : Int} {l : List Seg} (h : ¬ f ≤ t) : segsB f t l = false := by
  cases hb : inB l.length 1 20
  · exact segs_short hb
  have hl : 0 < l.length := by
    by_cases hl : 0 < l.length
    · exact hl
    · rw [inB_false (.inl (by omega))] at hb; cases hb
  cases hs : segFit f t l 0
  · exact segs_bad hs hl
  · have := segFit_ok hs; have := segOk_days this.1; omega
theorem segFit_zero {f t : Int} {l : List Seg} : segFit f t l 0 = (segOkB (atK segK l 0) && (decide (f ≤ (atK segK l 0).fr) && (decide ((atK segK l 0).to ≤ t) && true))) := rfl
theorem segFit_succ {f t : Int} {l : List Seg} {j : Nat} : segFit f t l (j + 1) = (segOkB (atK segK l (j + 1)) && (decide (f ≤ (atK segK l (j + 1)).fr) && (decide ((atK segK l (j + 1)).to ≤ t) && decide ((atK segK l j).fr < (atK segK l (j + 1)).fr)))) := by
  unfold segFit
  rw [decide_eq_false (p := j + 1 = 0) (by omega), Bool.false_or]
  rfl

def patB (p : Pat) : Bool := inB p.mon 1 12 && inB p.dom 1 31
def patFit (f t : Int) (l : List Pat) (k : Nat) : Bool := patB (atK patK l k) && (inB (atK patK l k).day f t && (decide (k = 0) || decide ((atK patK l (k - 1)).day < (atK patK l k).day)))
def patsB (f t : Int) (l : List Pat) : Bool := decide ((l.length : Int) ≤ 8) && allTo (patFit f t l) l.length
theorem pats_bad {f t : Int} {l : List Pat} {k : Nat} (h : patFit f t l k = false) (hk : k < l.length) : patsB f t l = false := by unfold patsB; rw [allTo_bad h hk, Bool.and_false]
theorem pats_end {f t : Int} {l : List Pat} (ha : allTo (patFit f t l) l.length = true) : patsB f t l = decide ((l.length : Int) ≤ 8) := by unfold patsB; rw [ha, Bool.and_true]
theorem patFit_zero {f t : Int} {l : List Pat} : patFit f t l 0 = (patB (atK patK l 0) && (inB (atK patK l 0).day f t && true)) := rfl
theorem patFit_succ {f t : Int} {l : List Pat} {j : Nat} : patFit f t l (j + 1) = (patB (atK patK l (j + 1)) && (inB (atK patK l (j + 1)).day f t && decide ((atK patK l j).day < (atK patK l (j + 1)).day))) := by
  unfold patFit
  rw [decide_eq_false (p := j + 1 = 0) (by omega), Bool.false_or]
  rfl
theorem fit_no1 {f t : Int} {l : List Seg} {k : Nat} (h : segOkB (atK segK l k) = false) : segFit f t l k = false := by unfold segFit; rw [h, Bool.false_and]
theorem fit_no2 {f t : Int} {l : List Seg} {k : Nat} (h : (atK segK l k).fr < f) : segFit f t l k = false := by unfold segFit; rw [decide_eq_false (by omega : ¬ f ≤ (atK segK l k).fr), Bool.false_and, Bool.and_false]
theorem fit_no3 {f t : Int} {l : List Seg} {k : Nat} (h : t < (atK segK l k).to) : segFit f t l k = false := by unfold segFit; rw [decide_eq_false (by omega : ¬ (atK segK l k).to ≤ t), Bool.false_and, Bool.and_false, Bool.and_false]
theorem fit_no4 {f t : Int} {l : List Seg} {k j : Nat} (e : k = j + 1) (h : (atK segK l k).fr ≤ (atK segK l j).fr) : segFit f t l k = false := by subst e; rw [segFit_succ, decide_eq_false (by omega : ¬ (atK segK l j).fr < (atK segK l (j + 1)).fr), Bool.and_false, Bool.and_false, Bool.and_false]
theorem fit_yes {f t : Int} {l : List Seg} {k : Nat} (h1 : segOkB (atK segK l k) = true) (h2 : f ≤ (atK segK l k).fr) (h3 : (atK segK l k).to ≤ t) (h4 : ∀ j, k = j + 1 → (atK segK l j).fr < (atK segK l k).fr) : segFit f t l k = true := by
  cases k with
  | zero => rw [segFit_zero, h1, decide_eq_true h2, decide_eq_true h3]; rfl
  | succ j => rw [segFit_succ, h1, decide_eq_true h2, decide_eq_true h3, decide_eq_true (h4 j rfl)]; rfl
theorem pfit_no1 {f t : Int} {l : List Pat} {k : Nat} (h : patB (atK patK l k) = false) : patFit f t l k = false := by unfold patFit; rw [h, Bool.false_and]
theorem pfit_no2 {f t : Int} {l : List Pat} {k : Nat} (h : inB (atK patK l k).day f t = false) : patFit f t l k = false := by unfold patFit; rw [h, Bool.false_and, Bool.and_false]
theorem pfit_no4 {f t : Int} {l : List Pat} {k j : Nat} (e : k = j + 1) (h : (atK patK l k).day ≤ (atK patK l j).day) : patFit f t l k = false := by subst e; rw [patFit_succ, decide_eq_false (by omega : ¬ (atK patK l j).day < (atK patK l (j + 1)).day), Bool.and_false, Bool.and_false]
theorem pfit_yes {f t : Int} {l : List Pat} {k : Nat} (h1 : patB (atK patK l k) = true) (h2 : inB (atK patK l k).day f t = true) (h4 : ∀ j, k = j + 1 → (atK patK l j).day < (atK patK l k).day) : patFit f t l k = true := by
  cases k with
  | zero => rw [patFit_zero, h1, h2]; rfl
  | succ j => rw [patFit_succ, h1, h2, decide_eq_true (h4 j rfl)]; rfl
def ruleB (z : Int) : Bool := decide (z = 0) || decide (z = 1)
noncomputable def regimeB (r : Rgm) : Bool := nameOk r.name && (dayB r.fr && (dayB r.to && (segsB r.fr r.to r.segs && (patsB r.fr r.to r.pats && (reignsOk r.rgns && ruleB r.rule)))))
/-- A world with a patch's block at its end, and what comes behind it. -/
theorem pat_box (w : World) (a b c : Int) (t : TypeId) : ∃ W0, W0 = w.alloc (.cells #[.int .i64 a, .int .i64 b, .int .i64 c] t) ∧ (∀ x : Later W0, x.w.cell? ⟨w.heap.size, 0, none⟩ = some (.int .i64 a)) ∧ (∀ x : Later W0, x.w.cell? ⟨w.heap.size, 1, none⟩ = some (.int .i64 b)) ∧ (∀ x : Later W0, x.w.cell? ⟨w.heap.size, 2, none⟩ = some (.int .i64 c)) ∧ ∀ x : Later W0, Below w.heap.size w x.w :=
  ⟨_, rfl, Later.new rfl 0 rfl, Later.new rfl 1 rfl, Later.new rfl 2 rfl, fun x => below_alloc x.below⟩
end Go.Proofs.YtaakgidndjoocaaGreatDoor.ctr
