/- Plain facts on a regime as it is drawn: segments that stand one behind the other tile, and such a regime is right. -/
import Derived.Test.YtaakgidndjoocaaGreatDoorRokPlainM
namespace Go.Proofs.YtaakgidndjoocaaGreatDoor.ctr
open Go.RowKit

/-- Segments one behind the other, from day f to the day ahead of a. -/
def chainS : List Seg → Int → Int → Prop
  | [], f, a => a = f
  | s :: l, f, a => s.fr = f ∧ s.fr ≤ s.to ∧ chainS l (s.to + 1) a
theorem chain_snoc {s : Seg} : ∀ {l : List Seg} {f a : Int}, chainS l f a → s.fr = a → s.fr ≤ s.to → chainS (l ++ [s]) f (s.to + 1)
  | [], f, a, h, h1, h2 => by
    have h : a = f := h
    exact ⟨by omega, h2, rfl⟩
  | x :: l, f, a, h, h1, h2 => ⟨h.1, h.2.1, chain_snoc h.2.2 h1 h2⟩
theorem chain_mem : ∀ {l : List Seg} {f a : Int}, chainS l f a → f ≤ a ∧ ∀ s ∈ l, f ≤ s.fr ∧ s.fr ≤ s.to ∧ s.to < a
  | [], f, a, h => ⟨by have h : a = f := h; omega, fun s hs => by cases hs⟩
  | x :: l, f, a, h => by
    obtain ⟨h1, h2, h3⟩ := h
    obtain ⟨h4, h5⟩ := chain_mem h3
    refine ⟨by omega, fun s hs => ?_⟩
    rcases List.mem_cons.1 hs with rfl | hs
    · omega
    · have := h5 s hs
      omega
theorem chain_pair : ∀ {l : List Seg} {f a : Int}, chainS l f a → l.Pairwise fun x y => x.fr ≤ x.to ∧ x.to < y.fr
  | [], _, _, _ => List.Pairwise.nil
  | x :: l, f, a, h => List.Pairwise.cons (fun y hy => ⟨h.2.1, by have := (chain_mem h.2.2).2 y hy; omega⟩) (chain_pair h.2.2)
theorem tagS_mem : ∀ (l : List Seg) (b : Nat) (x : PSeg), x ∈ tagS l b → x.s ∈ l
  | [], b, x, h => by simp [tagS] at h
  | s :: l, b, x, h => by
    simp only [tagS, List.mem_cons] at h
    rcases h with rfl | h
    · exact List.mem_cons_self
    · exact List.mem_cons_of_mem _ (tagS_mem l (b + 1) x h)
theorem tagS_map : ∀ (l : List Seg) (b : Nat), (tagS l b).map PSeg.s = l
  | [], b => rfl
  | s :: l, b => by simp [tagS, tagS_map l (b + 1)]
theorem tagS_order : ∀ {l : List Seg} (b : Nat), (l.Pairwise fun x y => x.fr ≤ x.to ∧ x.to < y.fr) → InOrder (tagS l b)
  | [], b, _ => List.Pairwise.nil
  | s :: l, b, h => by
    obtain ⟨h1, h2⟩ := List.pairwise_cons.1 h
    refine List.Pairwise.cons (fun y hy => ?_) (tagS_order (b + 1) h2)
    have := h1 _ (tagS_mem l (b + 1) y hy)
    rw [leP_iff]
    dsimp only
    omega
theorem chain_sort {l : List Seg} {f a : Int} (h : chainS l f a) : sortS l = l := by
  have e := sorted_same (l := l) (out := tagS l 0) (tagS_order 0 (chain_pair h)) (List.Perm.refl _)
  rw [tagS_map] at e
  exact e.symm
theorem chain_full {l : List Seg} {f a : Int} (h : chainS l f a) : fullS l = l := by
  unfold fullS
  rw [chain_sort h]
  exact List.filter_eq_self.2 (fun s hs => by simpa [hasDayB] using ((chain_mem h).2 s hs).2.1)
theorem chain_at {l : List Seg} {f a : Int} (h : chainS l f a) {k : Nat} (hk : k + 1 < l.length) : (atK segK l k).fr ≤ (atK segK l k).to ∧ (atK segK l k).to < (atK segK l (k + 1)).fr := by
  rw [atK_eq (by omega : k < l.length), atK_eq hk]
  exact List.pairwise_iff_getElem.1 (chain_pair h) k (k + 1) (by omega) hk (by omega)
theorem chain_apart {l : List Seg} {f a : Int} (h : chainS l f a) : ¬ sharedP l := by
  rintro ⟨i, h1, h2, h3⟩
  have := List.pairwise_iff_getElem.1 (chain_pair h) (i - 1) i (by omega) h2 (by omega)
  rw [sgA_eq h2, sgA_eq (by omega : i - 1 < l.length)] at h3
  omega
theorem chain_bare : ∀ {l : List Seg} {f t : Int}, chainS l f (t + 1) → bareS t l f = false
  | [], f, t, h => by
    have h : t + 1 = f := h
    rw [bareS]
    exact decide_eq_false (by omega)
  | s :: l, f, t, h => by
    obtain ⟨h1, h2, h3⟩ := h
    rw [bareS]
    by_cases a : f ≤ t
    · rw [if_pos a, if_neg (by omega), if_neg (by omega)]
      by_cases b : t ≤ s.to
      · rw [if_pos b]
      · rw [if_neg b]
        exact chain_bare h3
    · rw [if_neg a]
theorem chain_tiles {l : List Seg} {f t : Int} (h : chainS l f (t + 1)) : tilesZ f t l = 0 := by
  unfold tilesZ tileC
  rw [chain_full h, shared_no (chain_apart h), chain_bare h]
  simp
/-- What is told of a segment's other numbers. -/
def sideB (s : Seg) : Bool := calB s.cal && (styleB s.sty && inB s.off (-3) 3)
theorem good_segs {f t : Int} {l : List Seg} (hf : 400 ≤ f) (ht : t ≤ 1090000) (hc : chainS l f (t + 1)) (h1 : 1 ≤ l.length) (h3 : l.length ≤ 20) (hs : ∀ s ∈ l, sideB s = true) : segsB f t l = true := by
  rw [segs_end (inB_true (by omega) (by omega)), chain_tiles hc]
  · rfl
  · unfold allTo
    rw [List.all_eq_true]
    intro k hk
    have hk := List.mem_range.1 hk
    have hm : atK segK l k ∈ l := by rw [atK_eq hk]; exact List.getElem_mem hk
    have hd := (chain_mem hc).2 _ hm
    have hb := hs _ hm
    refine fit_yes ?_ (by omega) (by omega) (fun j e => by subst e; have := chain_at hc hk; omega)
    unfold segOkB dayB
    unfold sideB at hb
    rw [hb, inB_true (by omega) (by omega), inB_true (by omega) (by omega), decide_eq_true (by omega)]
    rfl
theorem good_pats {f t : Int} {l : List Pat} (h : l = [] ∨ ∃ n, l = [⟨n, 2, 30⟩] ∧ f ≤ n ∧ n ≤ t) : patsB f t l = true := by
  rcases h with rfl | ⟨n, rfl, h1, h2⟩
  · rfl
  · have e : patFit f t [⟨n, 2, 30⟩] 0 = true := by
      rw [patFit_zero]
      show (patB ⟨n, 2, 30⟩ && (inB n f t && true)) = true
      rw [inB_true h1 h2]
      rfl
    unfold patsB allTo
    simp [e]
/-- A regime as it is drawn. -/
theorem good_regime {r : Rgm} (hn : nameOk r.name = true) (hf : 400 ≤ r.fr) (ht : r.to ≤ 1090000) (hc : chainS r.segs r.fr (r.to + 1)) (h1 : 1 ≤ r.segs.length) (h3 : r.segs.length ≤ 20) (hs : ∀ s ∈ r.segs, sideB s = true) (hp : r.pats = [] ∨ ∃ n, r.pats = [⟨n, 2, 30⟩] ∧ r.fr ≤ n ∧ n ≤ r.to) (hr : reignsOk r.rgns = true) (hu : ruleB r.rule = true) : regimeB r = true := by
  have hft : r.fr ≤ r.to := by
    cases hl : r.segs with
    | nil => rw [hl] at h1; simp at h1
    | cons s l =>
      have := (chain_mem hc).2 s (by rw [hl]; exact List.mem_cons_self)
      omega
  unfold regimeB dayB
  rw [hn, good_segs hf ht hc h1 h3 hs, good_pats hp, hr, hu, inB_true hf (by omega), inB_true (by omega) ht]
  rfl
/-- The first day that is drawn. -/
theorem from_bound {y m d : Int} (hy1 : 1200 ≤ y) (hy2 : y ≤ 1899) (hm1 : 1 ≤ m) (hm2 : m ≤ 12) (hd1 : 1 ≤ d) (hd2 : d ≤ 28) : 400000 ≤ dayOf 0 y m d ∧ dayOf 0 y m d ≤ 700000 := by
  have hP : dateP 0 y m d := ⟨.inl rfl, by omega, by omega, hd1, by have := monthDays_ge (c := 0) (y := y) (.inl rfl) hm1 hm2; omega⟩
  unfold dayOf
  rw [if_pos hP, first_jul]
  have := before_bound 0 y (m - 1).toNat
  omega
end Go.Proofs.YtaakgidndjoocaaGreatDoor.ctr
