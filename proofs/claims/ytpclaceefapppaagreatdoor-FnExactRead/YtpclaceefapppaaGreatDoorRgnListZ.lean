/- Lists of reigns: a plain list, and that a slice value holds just it ('RRow': anywhere. -/
import Derived.Test.YtpclaceefapppaaGreatDoorJnZaa
import Derived.Test.YtpclaceefapppaaGreatDoorJnZag
namespace Go.Proofs.YtpclaceefapppaaGreatDoor.ctr
open Go.RowKit
structure Rgn where
 name : ByteArray
 fr : Int
 to : Int
def r0 : Rgn := ⟨⟨#[]⟩, 0, 0⟩
def rvals (r : Rgn) : List Value := [.string r.name, .int .i64 r.fr, .int .i64 r.to]
def rcells : List Rgn → List Value
  | [] => []
  | r :: l => rvals r ++ rcells l
def rA (l : List Rgn) : Array Value := (rcells l).toArray
def rgA (l : List Rgn) (k : Nat) : Rgn := l.getD k r0
theorem rgA_eq {l : List Rgn} {k : Nat} (h : k < l.length) : rgA l k = l[k] := by unfold rgA; rw [List.getD, List.getElem?_eq_getElem h]; rfl
theorem rcells_len : ∀ l : List Rgn, (rcells l).length = l.length * 3
  | [] => rfl
  | r :: l => by rw [rcells, List.length_append, rcells_len l]; simp [rvals]; omega
theorem rcells_at : ∀ (l : List Rgn) (k j : Nat) (v : Value), k < l.length → (rvals (rgA l k))[j]? = some v → (rcells l)[k * 3 + j]? = some v
  | [], k, j, v, h, _ => by simp at h
  | r :: l, 0, j, v, _, e => by
   rw [rcells, List.getElem?_append_left (by have := (List.getElem?_eq_some_iff.1 e).1; simpa [rgA, rvals] using this)]
   simpa [rgA] using e
  | r :: l, k + 1, j, v, h, e => by
   rw [rcells, List.getElem?_append_right (by simp [rvals]; omega)]
   have := rcells_at l k j v (by simpa using h) (by simpa [rgA] using e)
   simpa [rvals, show (k + 1) * 3 + j - 3 = k * 3 + j by omega] using this
theorem rA_size (l : List Rgn) : (rA l).size = l.length * 3 := by simp [rA, rcells_len]
theorem rA_at {l : List Rgn} {k : Nat} (j : Nat) {v : Value} (h : k < l.length) (e : (rvals (rgA l k))[j]? = some v) : (rA l)[k * 3 + j]? = some v := by
 simpa [rA] using rcells_at l k j v h e
def RAt (w : World) (g k : Nat) (r : Rgn) : Prop := w.cell? ⟨g, k * 3, none⟩ = some (.string r.name) ∧ w.cell? ⟨g, k * 3 + 1, none⟩ = some (.int .i64 r.fr) ∧ w.cell? ⟨g, k * 3 + 2, none⟩ = some (.int .i64 r.to)
def RRow (w : World) (v : Value) (l : List Rgn) : Prop := ∃ ad cap, v = .slice ad l.length cap ∧ l.length ≤ cap ∧ cap ≤ maxLen ∧ (∀ k, k < l.length → (rgA l k).name.size ≤ maxLen) ∧ ∀ k, k < l.length → ∃ g, ad = some ⟨g, 0, none⟩ ∧ g < w.heap.size ∧ RAt w g k (rgA l k)
theorem RAt.below {w w' : World} {g k : Nat} {r : Rgn} {B : Nat} (h : RAt w g k r) (hb : Below B w w') (hg : g < B) : RAt w' g k r :=
 ⟨(hb.cell (p := ⟨g, k * 3, none⟩) hg).trans h.1, (hb.cell (p := ⟨g, k * 3 + 1, none⟩) hg).trans h.2.1, (hb.cell (p := ⟨g, k * 3 + 2, none⟩) hg).trans h.2.2⟩
theorem RRow.below {w w' : World} {v : Value} {l : List Rgn} (h : RRow w v l) (hb : Below w.heap.size w w') : RRow w' v l := by
 obtain ⟨ad, cap, rfl, h1, h2, h3, h⟩ := h
 exact ⟨ad, cap, rfl, h1, h2, h3, fun k hk => by
  obtain ⟨g, e, hg, hc⟩ := h k hk
  exact ⟨g, e, Nat.lt_of_lt_of_le hg hb.size, hc.below hb hg⟩⟩
theorem RRow.later {W : World} {v : Value} {l : List Rgn} (h : RRow W v l) (x : Later W) : RRow x.w v l := h.below x.below
theorem rgA_take {l : List Rgn} {i k : Nat} (h : k < i) : rgA (l.take i) k = rgA l k := by simp [rgA, List.getD, h]
theorem RRow.take {w : World} {ad : Option Addr} {cap : Nat} {l : List Rgn} {n i : Nat} (h : RRow w (.slice ad n cap) l) (hi : i ≤ l.length) : RRow w (.slice ad i cap) (l.take i) := by
 obtain ⟨ad', cap', e, h1, h2, h3, h⟩ := h
 cases e
 have hl : (l.take i).length = i := by simp [hi]
 refine ⟨ad, cap, by rw [hl], by omega, h2, fun k hk => ?_, fun k hk => ?_⟩
 · rw [rgA_take (by omega)]
   exact h3 k (by omega)
 · obtain ⟨g, e, hg, hc⟩ := h k (by omega)
   rw [rgA_take (by omega)]
   exact ⟨g, e, hg, hc⟩
def RNew (w w' : World) (v : Value) (l : List Rgn) : Prop := ∃ g t, v = .slice (some ⟨g, 0, none⟩) l.length l.length ∧ w.heap.size ≤ g ∧ Blk w' g (rA l) t
theorem RNew.row {w w' : World} {v : Value} {l : List Rgn} (h : RNew w w' v l) (hl : l.length ≤ maxLen) (hn : ∀ k, k < l.length → (rgA l k).name.size ≤ maxLen) : RRow w' v l := by
 obtain ⟨g, t, rfl, _, hb⟩ := h
 exact ⟨_, _, rfl, Nat.le_refl _, hl, hn, fun k hk => ⟨g, rfl, hb.lt, by have := hb.cell (k * 3 + 0) (rA_at 0 hk rfl); simpa using this, hb.cell (k * 3 + 1) (rA_at 1 hk rfl), hb.cell (k * 3 + 2) (rA_at 2 hk rfl)⟩⟩
theorem RNew.below {w w' w'' : World} {v : Value} {l : List Rgn} (h : RNew w w' v l) (hb : Below w'.heap.size w' w'') : RNew w w'' v l := by
 obtain ⟨g, t, rfl, hg, hB⟩ := h
 exact ⟨g, t, rfl, hg, hB.below hb hB.lt⟩
def rfFrom (p : Rgn → Bool) : List Rgn → Nat → Int
  | [], _ => -1
  | r :: l, k => if p r = true then (k : Int) else rfFrom p l (k + 1)
def rfind (p : Rgn → Bool) (l : List Rgn) : Int := rfFrom p l 0
theorem rf_hit {p : Rgn → Bool} {l : List Rgn} {k : Nat} {R : Int} (h : k < l.length) (hp : p (rgA l k) = true) (H : rfFrom p (l.drop k) k = R) : R = (k : Int) := by
 rw [List.drop_eq_getElem_cons h, rfFrom, ← rgA_eq h, if_pos hp] at H
 exact H.symm
theorem rf_miss {p : Rgn → Bool} {l : List Rgn} {k : Nat} {R : Int} (h : k < l.length) (hp : p (rgA l k) = false) (H : rfFrom p (l.drop k) k = R) : rfFrom p (l.drop (k + 1)) (k + 1) = R := by
 rw [List.drop_eq_getElem_cons h, rfFrom, ← rgA_eq h, if_neg (by rw [hp]; simp)] at H
 exact H
theorem rf_end {p : Rgn → Bool} {l : List Rgn} {k : Nat} {R : Int} (h : l.length ≤ k) (H : rfFrom p (l.drop k) k = R) : R = -1 := by
 rw [List.drop_of_length_le h] at H
 exact H.symm
theorem rf_cases (p : Rgn → Bool) (l : List Rgn) : (rfind p l = -1 ∧ ∀ k, k < l.length → p (rgA l k) = false) ∨ ∃ k, k < l.length ∧ rfind p l = (k : Int) ∧ p (rgA l k) = true ∧ ∀ j, j < k → p (rgA l j) = false := by
 have go : ∀ n k, n + k = l.length → (∀ j, j < k → p (rgA l j) = false) → (rfFrom p (l.drop k) k = -1 ∧ ∀ j, j < l.length → p (rgA l j) = false) ∨ ∃ q, q < l.length ∧ rfFrom p (l.drop k) k = (q : Int) ∧ p (rgA l q) = true ∧ ∀ j, j < q → p (rgA l j) = false := by
  intro n
  induction n with
  | zero => intro k hk hj; exact .inl ⟨by rw [List.drop_of_length_le (by omega)]; rfl, fun j h => hj j (by omega)⟩
  | succ n ih =>
   intro k hk hj
   have hlt : k < l.length := by omega
   cases hp : p (rgA l k)
   · have e := rf_miss hlt hp (R := _) rfl
     rw [← e]
     exact ih (k + 1) (by omega) (fun j h => by
      by_cases q : j = k
      · subst q; exact hp
      · exact hj j (by omega))
   · exact .inr ⟨k, hlt, rf_hit hlt hp rfl, hp, hj⟩
 exact go l.length 0 (by omega) (fun j h => by omega)
def isNamed (s : ByteArray) (r : Rgn) : Bool := decide (r.name = s)
end Go.Proofs.YtpclaceefapppaaGreatDoor.ctr
