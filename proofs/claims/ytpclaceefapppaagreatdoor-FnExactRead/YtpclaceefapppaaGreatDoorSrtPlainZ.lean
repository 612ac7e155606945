/- Segments with numbers, plain: what a heap of them keeps, and that what is taken off one after the other stands as the mo. -/
import Derived.Test.YtpclaceefapppaaGreatDoorJnZaa
namespace Go.Proofs.YtpclaceefapppaaGreatDoor.ctr
open Go.RowKit
structure Seg where
 fr : Int
 to : Int
 cal : Int
 sty : Int
 off : Int
 deriving DecidableEq
def s0 : Seg := ⟨0, 0, 0, 0, 0⟩
structure PSeg where
 s : Seg
 at' : Int
 deriving DecidableEq
def p0 : PSeg := ⟨s0, 0⟩
def ltP (a b : PSeg) : Bool := decide (a.s.fr < b.s.fr ∨ (a.s.fr = b.s.fr ∧ (a.s.to < b.s.to ∨ (a.s.to = b.s.to ∧ a.at' < b.at'))))
theorem ltP_iff (a b : PSeg) : ltP a b = true ↔ (a.s.fr < b.s.fr ∨ (a.s.fr = b.s.fr ∧ (a.s.to < b.s.to ∨ (a.s.to = b.s.to ∧ a.at' < b.at')))) := by simp [ltP]
theorem ltP_irr (a : PSeg) : ltP a a = false := by
 cases h : ltP a a
 · rfl
 · have := (ltP_iff _ _).1 h; omega
def leP (a b : PSeg) : Prop := ltP b a = false
theorem leP_iff (a b : PSeg) : leP a b ↔ ¬ (b.s.fr < a.s.fr ∨ (b.s.fr = a.s.fr ∧ (b.s.to < a.s.to ∨ (b.s.to = a.s.to ∧ b.at' < a.at')))) := by
 unfold leP
 rw [← ltP_iff]
 cases ltP b a <;> simp
theorem leP_refl (a : PSeg) : leP a a := ltP_irr a
theorem leP_trans {a b c : PSeg} (h1 : leP a b) (h2 : leP b c) : leP a c := by
 rw [leP_iff] at *
 omega
theorem leP_of_lt {a b : PSeg} (h : ltP a b = true) : leP a b := by
 rw [leP_iff]
 rw [ltP_iff] at h
 omega
def psA (l : List PSeg) (k : Nat) : PSeg := l.getD k p0
theorem psA_eq {l : List PSeg} {k : Nat} (h : k < l.length) : psA l k = l[k] := by unfold psA; rw [List.getD, List.getElem?_eq_getElem h]; rfl
theorem psA_mem {l : List PSeg} {k : Nat} (h : k < l.length) : psA l k ∈ l := by rw [psA_eq h]; exact List.getElem_mem h
def swP (l : List PSeg) (i j : Nat) : List PSeg := (l.set i (psA l j)).set j (psA l i)
theorem swP_len (l : List PSeg) (i j : Nat) : (swP l i j).length = l.length := by simp [swP]
theorem psA_set {l : List PSeg} {i k : Nat} {x : PSeg} (hi : i < l.length) : psA (l.set i x) k = if k = i then x else psA l k := by
 unfold psA
 simp only [List.getD, List.getElem?_set]
 by_cases e : i = k
 · subst e; simp [hi]
 · simp [e, Ne.symm e]
theorem psA_sw {l : List PSeg} {i j k : Nat} (hi : i < l.length) (hj : j < l.length) : psA (swP l i j) k = if k = j then psA l i else if k = i then psA l j else psA l k := by
 unfold swP
 rw [psA_set (by simpa using hj), psA_set hi]
theorem swP_perm {l : List PSeg} {i j : Nat} (hi : i < l.length) (hj : j < l.length) : (swP l i j).Perm l := by
 have h := Array.swap_perm (xs := l.toArray) (i := i) (j := j) (by simpa using hi) (by simpa using hj)
 have e : (l.toArray.swap i j (by simpa using hi) (by simpa using hj)).toList = swP l i j := by
  simp [swP, psA_eq hi, psA_eq hj]
 have := h.toList
 rw [e] at this
 exact this
def HeapOn (l : List PSeg) (n : Nat) : Prop := ∀ k, 0 < k → k < n → leP (psA l ((k - 1) / 2)) (psA l k)
def UpTo (l : List PSeg) (n j : Nat) : Prop := (∀ k, 0 < k → k < n → k ≠ j → leP (psA l ((k - 1) / 2)) (psA l k)) ∧ (0 < j → ∀ k, 0 < k → k < n → (k - 1) / 2 = j → leP (psA l ((j - 1) / 2)) (psA l k))
def DownTo (l : List PSeg) (n i : Nat) : Prop := (∀ k, 0 < k → k < n → (k - 1) / 2 ≠ i → leP (psA l ((k - 1) / 2)) (psA l k)) ∧ (0 < i → ∀ k, 0 < k → k < n → (k - 1) / 2 = i → leP (psA l ((i - 1) / 2)) (psA l k))
theorem up_start {l : List PSeg} {n : Nat} {x : PSeg} (h : HeapOn l n) (hl : l.length = n) : UpTo (l ++ [x]) (n + 1) n := by
 have e : ∀ k, k < n → psA (l ++ [x]) k = psA l k := fun k hk => by simp [psA, List.getD, List.getElem?_append_left (show k < l.length by omega)]
 refine ⟨fun k h0 hk hne => ?_, fun h0 k k0 hk hp => by omega⟩
 rw [e k (by omega), e _ (by omega)]
 exact h k h0 (by omega)
theorem up_done {l : List PSeg} {n j : Nat} (h : UpTo l n j) (hj : j = 0 ∨ leP (psA l ((j - 1) / 2)) (psA l j)) : HeapOn l n := by
 intro k h0 hk
 by_cases e : k = j
 · subst e
   rcases hj with hj | hj
   · omega
   · exact hj
 · exact h.1 k h0 hk e
theorem up_next {l : List PSeg} {n j : Nat} (hl : l.length = n) (h : UpTo l n j) (h0 : 0 < j) (hj : j < n) (hlt : ltP (psA l j) (psA l ((j - 1) / 2)) = true) : UpTo (swP l ((j - 1) / 2) j) n ((j - 1) / 2) := by
 generalize hi : (j - 1) / 2 = i at *
 have hij : i < j := by omega
 have S : ∀ k, psA (swP l i j) k = if k = j then psA l i else if k = i then psA l j else psA l k := fun k => psA_sw (by omega) (by omega)
 refine ⟨fun k k0 hk hne => ?_, fun i0 k k0 hk hp => ?_⟩
 · rw [S k, S ((k - 1) / 2)]
   by_cases ek : k = j
   · subst ek
     rw [if_pos rfl, hi, if_neg (by omega), if_pos rfl]
     exact leP_of_lt hlt
   · rw [if_neg ek, if_neg hne]
     by_cases e1 : (k - 1) / 2 = j
     · rw [if_pos e1, ← hi]
       have := h.2 h0 k k0 hk e1
       rw [hi] at this ⊢
       exact this
     · rw [if_neg e1]
       by_cases e2 : (k - 1) / 2 = i
       · rw [if_pos e2]
         have := h.1 k k0 hk ek
         rw [e2] at this
         exact leP_trans (leP_of_lt hlt) this
       · rw [if_neg e2]
         exact h.1 k k0 hk ek
 · rw [S k, S ((i - 1) / 2), if_neg (by omega), if_neg (by omega)]
   have hii := h.1 i i0 (by omega) (by omega)
   by_cases ek : k = j
   · rw [if_pos ek]
     exact hii
   · rw [if_neg ek, if_neg (by omega)]
     have := h.1 k k0 hk ek
     rw [hp] at this
     exact leP_trans hii this
theorem down_done {l : List PSeg} {n i : Nat} (h : DownTo l n i) (hj : ∀ k, 0 < k → k < n → (k - 1) / 2 = i → leP (psA l i) (psA l k)) : HeapOn l n := by
 intro k h0 hk
 by_cases e : (k - 1) / 2 = i
 · rw [e]; exact hj k h0 hk e
 · exact h.1 k h0 hk e
theorem down_next {l : List PSeg} {n i j : Nat} (hl : n ≤ l.length) (h : DownTo l n i) (hj : j < n) (h0 : 0 < j) (hp : (j - 1) / 2 = i) (hmin : ∀ k, 0 < k → k < n → (k - 1) / 2 = i → leP (psA l j) (psA l k)) (hlt : ltP (psA l j) (psA l i) = true) : DownTo (swP l i j) n j := by
 have hij : i < j := by omega
 have S : ∀ k, psA (swP l i j) k = if k = j then psA l i else if k = i then psA l j else psA l k := fun k => psA_sw (by omega) (by omega)
 refine ⟨fun k k0 hk hne => ?_, fun _ k k0 hk hpk => ?_⟩
 · rw [S k, S ((k - 1) / 2), if_neg hne]
   by_cases ek : k = j
   · subst ek
     rw [if_pos rfl, if_pos hp]
     exact leP_of_lt hlt
   · rw [if_neg ek]
     by_cases e2 : (k - 1) / 2 = i
     · rw [if_pos e2, if_neg (by omega)]
       exact hmin k k0 hk e2
     · rw [if_neg e2]
       by_cases e3 : k = i
       · rw [if_pos e3]
         subst e3
         exact h.2 k0 j h0 hj hp
       · rw [if_neg e3]
         exact h.1 k k0 hk e2
 · have e1 : psA (swP l i j) k = psA l k := by rw [S k, if_neg (by omega), if_neg (by omega)]
   have e2 : psA (swP l i j) i = psA l j := by rw [S i, if_neg (by omega), if_pos rfl]
   rw [e1, hp, e2]
   have := h.1 k k0 hk (by omega)
   rw [hpk] at this
   exact this
theorem heap_min {l : List PSeg} {n : Nat} (h : HeapOn l n) : ∀ k, k < n → leP (psA l 0) (psA l k) := by
 intro k
 induction k using Nat.strongRecOn with
 | ind k ih =>
  intro hk
  by_cases e : k = 0
  · subst e; exact leP_refl _
  · exact leP_trans (ih ((k - 1) / 2) (by omega) (by omega)) (h k (by omega) hk)
theorem down_start {l : List PSeg} {n : Nat} (h : HeapOn l (n + 1)) (hl : l.length = n + 1) : DownTo (swP l 0 n) n 0 := by
 have S : ∀ k, psA (swP l 0 n) k = if k = n then psA l 0 else if k = 0 then psA l n else psA l k := fun k => psA_sw (by omega) (by omega)
 refine ⟨fun k k0 hk hne => ?_, fun h0 => by omega⟩
 have e1 : psA (swP l 0 n) k = psA l k := by rw [S k, if_neg (by omega), if_neg (by omega)]
 have e2 : psA (swP l 0 n) ((k - 1) / 2) = psA l ((k - 1) / 2) := by rw [S ((k - 1) / 2), if_neg (by omega), if_neg hne]
 rw [e1, e2]
 exact h k k0 (by omega)
theorem heap_init {l : List PSeg} {n : Nat} (h : HeapOn l n) : HeapOn (l.take n) n := by
 have e : ∀ k, k < n → psA (l.take n) k = psA l k := fun k hk => by simp [psA, List.getD, hk]
 intro k h0 hk
 rw [e k hk, e _ (by omega)]
 exact h k h0 hk
theorem take_last {l : List PSeg} {n : Nat} (hl : l.length = n + 1) : l = l.take n ++ [psA l n] := by
 rw [psA_eq (by omega)]
 have := List.take_append_drop n l
 rw [List.drop_eq_getElem_cons (by omega), List.drop_of_length_le (by omega)] at this
 exact this.symm
def InOrder (l : List PSeg) : Prop := l.Pairwise leP
def Apart (l : List PSeg) : Prop := ∀ x ∈ l, ∀ y ∈ l, x.at' = y.at' → x = y
theorem leP_anti {a b : PSeg} (h1 : leP a b) (h2 : leP b a) : a.at' = b.at' := by
 rw [leP_iff] at *
 omega
theorem order_unique : ∀ {l l' : List PSeg}, Apart l → InOrder l → InOrder l' → l.Perm l' → l = l'
  | [], l', _, _, _, hp => (List.nil_perm.1 hp).symm
  | a :: l, [], _, _, _, hp => by cases List.perm_nil.1 hp
  | a :: l, b :: l', ha, h1, h2, hp => by
   have e : a = b := by
    have hb : b ∈ a :: l := hp.mem_iff.2 (List.mem_cons_self)
    have ha' : a ∈ b :: l' := hp.mem_iff.1 (List.mem_cons_self)
    rcases List.mem_cons.1 hb with e | hb'
    · exact e.symm
    rcases List.mem_cons.1 ha' with e | ha''
    · exact e
    exact ha a List.mem_cons_self b hb (leP_anti ((List.pairwise_cons.1 h1).1 b hb') ((List.pairwise_cons.1 h2).1 a ha''))
   subst e
   rw [order_unique (fun x hx y hy => ha x (List.mem_cons_of_mem _ hx) y (List.mem_cons_of_mem _ hy)) (List.pairwise_cons.1 h1).2 (List.pairwise_cons.1 h2).2 (List.perm_cons a |>.1 hp)]
def sgA (l : List Seg) (k : Nat) : Seg := l.getD k s0
theorem sgA_eq {l : List Seg} {k : Nat} (h : k < l.length) : sgA l k = l[k] := by unfold sgA; rw [List.getD, List.getElem?_eq_getElem h]; rfl
def gtS (a b : Seg) : Bool := decide (b.fr < a.fr ∨ (a.fr = b.fr ∧ b.to < a.to))
def posS (l : List Seg) (s : Seg) : Nat → Nat
  | 0 => 0
  | a + 1 => if gtS (sgA l a) s = true then posS l s a else a + 1
def insS (l : List Seg) (s : Seg) : List Seg := l.take (posS l s l.length) ++ s :: l.drop (posS l s l.length)
def sortS (l : List Seg) : List Seg := l.foldl insS []
theorem posS_le (l : List Seg) (s : Seg) : ∀ a, posS l s a ≤ a
  | 0 => Nat.le_refl _
  | a + 1 => by
   unfold posS
   split
   · have := posS_le l s a; omega
   · omega
theorem insS_len (l : List Seg) (s : Seg) : (insS l s).length = l.length + 1 := by
 have := posS_le l s l.length
 simp [insS]
 omega
theorem fold_len : ∀ (l a : List Seg), (l.foldl insS a).length = a.length + l.length
  | [], a => by simp
  | s :: l, a => by rw [List.foldl_cons, fold_len l, insS_len, List.length_cons]; omega
theorem sortS_len (l : List Seg) : (sortS l).length = l.length := by rw [sortS, fold_len]; simp
theorem sortS_snoc {l : List Seg} {k : Nat} (h : k < l.length) : sortS (l.take (k + 1)) = insS (sortS (l.take k)) (sgA l k) := by
 rw [sgA_eq h, List.take_succ_eq_append_getElem h, sortS, sortS, List.foldl_append]
 rfl
def insP (l : List PSeg) (x : PSeg) : List PSeg := let p := posS (l.map PSeg.s) x.s l.length; l.take p ++ x :: l.drop p
theorem insP_map (l : List PSeg) (x : PSeg) : (insP l x).map PSeg.s = insS (l.map PSeg.s) x.s := by simp [insP, insS]
theorem insP_perm (l : List PSeg) (x : PSeg) : (insP l x).Perm (l ++ [x]) := by
 unfold insP
 refine (List.perm_middle).trans ?_
 rw [List.take_append_drop]
 exact (List.perm_append_singleton x l).symm
theorem psA_map {l : List PSeg} {k : Nat} (h : k < l.length) : sgA (l.map PSeg.s) k = (psA l k).s := by rw [sgA_eq (by simpa using h), psA_eq h]; simp
theorem insP_order {l : List PSeg} {x : PSeg} (h : InOrder l) (hx : ∀ y ∈ l, y.at' < x.at') : InOrder (insP l x) := by
 have key : ∀ a, a ≤ l.length → (∀ k, k < posS (l.map PSeg.s) x.s a → leP (psA l k) x) ∧ (∀ k, posS (l.map PSeg.s) x.s a ≤ k → k < a → leP x (psA l k)) := by
  intro a
  induction a with
  | zero => exact fun _ => ⟨fun k hk => by simp [posS] at hk, fun k _ hk => by omega⟩
  | succ a ih =>
   intro hl
   have := ih (by omega)
   have hp := posS_le (l.map PSeg.s) x.s a
   have ha := hx _ (psA_mem (l := l) (k := a) (by omega))
   unfold posS
   rw [psA_map (by omega)]
   split
   · rename_i hg
     refine ⟨this.1, fun k hk1 hk2 => ?_⟩
     by_cases e : k = a
     · subst e
       rw [leP_iff]
       simp [gtS] at hg
       omega
     · exact this.2 k hk1 (by omega)
   · rename_i hg
     refine ⟨fun k hk => ?_, fun k hk1 hk2 => by omega⟩
     have hlast : leP (psA l a) x := by
      rw [leP_iff]
      simp [gtS] at hg
      omega
     by_cases e : k = a
     · subst e; exact hlast
     · have := List.pairwise_iff_getElem.1 h k a (by omega) (by omega) (by omega)
       rw [← psA_eq, ← psA_eq] at this
       exact leP_trans this hlast
 obtain ⟨k1, k2⟩ := key l.length (Nat.le_refl _)
 have hp := posS_le (l.map PSeg.s) x.s l.length
 unfold insP InOrder
 simp only
 generalize posS (l.map PSeg.s) x.s l.length = p at *
 refine List.pairwise_append.2 ⟨h.sublist (List.take_sublist _ _), List.pairwise_cons.2 ⟨fun y hy => ?_, h.sublist (List.drop_sublist _ _)⟩, fun y hy z hz => ?_⟩
 · obtain ⟨k, hk, rfl⟩ := List.mem_iff_getElem.1 hy
   simp at hk
   rw [List.getElem_drop, ← psA_eq]
   exact k2 _ (by omega) (by omega)
 · obtain ⟨k, hk, rfl⟩ := List.mem_iff_getElem.1 hy
   simp at hk
   rw [List.getElem_take, ← psA_eq]
   rcases List.mem_cons.1 hz with rfl | hz
   · exact k1 k (by omega)
   · obtain ⟨q, hq, rfl⟩ := List.mem_iff_getElem.1 hz
     simp at hq
     rw [List.getElem_drop, ← psA_eq]
     exact leP_trans (k1 k (by omega)) (k2 _ (by omega) (by omega))
def tagS : List Seg → Nat → List PSeg
  | [], _ => []
  | s :: l, b => ⟨s, (b : Int)⟩ :: tagS l (b + 1)
theorem tagS_len : ∀ (l : List Seg) (b : Nat), (tagS l b).length = l.length
  | [], _ => rfl
  | s :: l, b => by simp [tagS, tagS_len l]
theorem tagS_at : ∀ (l : List Seg) (b : Nat) (x : PSeg), x ∈ tagS l b → (b : Int) ≤ x.at'
  | [], b, x, h => by simp [tagS] at h
  | s :: l, b, x, h => by
   simp only [tagS, List.mem_cons] at h
   rcases h with rfl | h
   · simp
   · have := tagS_at l (b + 1) x h
     omega
theorem tagS_apart : ∀ (l : List Seg) (b : Nat), Apart (tagS l b)
  | [], b, x, hx => by simp [tagS] at hx
  | s :: l, b, x, hx => by
   intro y hy e
   simp only [tagS, List.mem_cons] at hx hy
   rcases hx with rfl | hx <;> rcases hy with rfl | hy
   · rfl
   · have := tagS_at l (b + 1) y hy
     simp at e
     omega
   · have := tagS_at l (b + 1) x hx
     simp at e
     omega
   · exact tagS_apart l (b + 1) x hx y hy e
theorem tagS_snoc : ∀ (l : List Seg) (s : Seg) (b : Nat), tagS (l ++ [s]) b = tagS l b ++ [⟨s, ((b + l.length : Nat) : Int)⟩]
  | [], s, b => by simp [tagS]
  | t :: l, s, b => by
   simp only [List.cons_append, tagS, tagS_snoc l s (b + 1), List.length_cons]
   rw [show b + 1 + l.length = b + (l.length + 1) by omega]
theorem tagS_take {l : List Seg} {k : Nat} (h : k < l.length) : tagS (l.take (k + 1)) 0 = tagS (l.take k) 0 ++ [⟨sgA l k, (k : Int)⟩] := by
 rw [sgA_eq h, List.take_succ_eq_append_getElem h, tagS_snoc]
 simp [Nat.min_eq_left (Nat.le_of_lt h)]
theorem sort_tagged (l : List Seg) : ∃ T : List PSeg, T.map PSeg.s = sortS l ∧ InOrder T ∧ T.Perm (tagS l 0) := by
 have go : ∀ k, k ≤ l.length → ∃ T : List PSeg, T.map PSeg.s = sortS (l.take k) ∧ InOrder T ∧ T.Perm (tagS (l.take k) 0) ∧ ∀ y ∈ T, y.at' < (k : Int) := by
  intro k
  induction k with
  | zero => exact fun _ => ⟨[], rfl, List.Pairwise.nil, by simp [tagS], by simp⟩
  | succ k ih =>
   intro hk
   obtain ⟨T, h1, h2, h3, h4⟩ := ih (by omega)
   refine ⟨insP T ⟨sgA l k, (k : Int)⟩, by rw [insP_map, h1, sortS_snoc (by omega)], insP_order h2 h4, ?_, fun y hy => ?_⟩
   · rw [tagS_take (by omega)]
     exact (insP_perm _ _).trans (h3.append_right _)
   · have := (insP_perm _ _).mem_iff.1 hy
     rcases List.mem_append.1 this with h | h
     · have := h4 y h; omega
     · simp at h; subst h; simp; omega
 obtain ⟨T, h1, h2, h3, _⟩ := go l.length (Nat.le_refl _)
 rw [List.take_length] at h1 h3
 exact ⟨T, h1, h2, h3⟩
theorem sorted_same {l : List Seg} {out : List PSeg} (h1 : InOrder out) (h2 : out.Perm (tagS l 0)) : out.map PSeg.s = sortS l := by
 obtain ⟨T, e, h3, h4⟩ := sort_tagged l
 rw [← e, order_unique (fun x hx y hy => tagS_apart l 0 x (h2.mem_iff.1 hx) y (h2.mem_iff.1 hy)) h1 h3 (h2.trans h4.symm)]
def OffTo (l : List Seg) (out rest : List PSeg) : Prop := InOrder out ∧ (∀ x ∈ out, ∀ y ∈ rest, leP x y) ∧ HeapOn rest rest.length ∧ (out ++ rest).Perm (tagS l 0)
theorem off_next {l : List Seg} {out rest rest' : List PSeg} {x : PSeg} (h : OffTo l out rest) (hx : ∀ y ∈ rest, leP x y) (hp : (x :: rest').Perm rest) (hh : HeapOn rest' rest'.length) : OffTo l (out ++ [x]) rest' := by
 obtain ⟨h1, h2, h3, h4⟩ := h
 have hm : ∀ y, y ∈ x :: rest' → y ∈ rest := fun y hy => hp.mem_iff.1 hy
 refine ⟨List.pairwise_append.2 ⟨h1, List.pairwise_singleton _ _, fun a ha b hb => ?_⟩, fun a ha b hb => ?_, hh, ?_⟩
 · simp at hb; subst hb; exact h2 a ha _ (hm _ List.mem_cons_self)
 · rcases List.mem_append.1 ha with ha | ha
   · exact h2 a ha b (hm _ (List.mem_cons_of_mem _ hb))
   · simp at ha; subst ha; exact hx b (hm _ (List.mem_cons_of_mem _ hb))
 · rw [List.append_assoc]
   exact (List.Perm.append_left out hp).trans h4
end Go.Proofs.YtpclaceefapppaaGreatDoor.ctr
