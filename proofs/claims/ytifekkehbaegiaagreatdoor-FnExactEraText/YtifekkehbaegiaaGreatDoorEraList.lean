/- The nine eras as a plain list; their cells in a row; which one has a name. -/
import Derived.Test.YtifekkehbaegiaaGreatDoorBase
import Derived.Handy
import Derived.Laws.AppendOwn
import Derived.Laws.OwnMore
import Derived.OwnWalk
import Derived.RangeFuncBox
import Derived.Maps.AppendAt
import Derived.Test.YtifekkehbaegiaaGreatDoorBlkKit
namespace Go.Proofs.YtifekkehbaegiaaGreatDoor.ctr
open Go.RowKit

/-- An era: its name, its style, what is added, its cycle. -/
structure Era where
  name : ByteArray
  st : Int
  add : Int
  cyc : Int
def Era.cs (f : Era) : List Value := [.string f.name, .int .i64 f.st, .int .i64 f.add, .int .i64 f.cyc]
def era0 : Era := ⟨⟨#[]⟩, 0, 0, 0⟩
def eras : List Era := [
  ⟨⟨#[97, 100]⟩, 0, 0, 0⟩,
  ⟨⟨#[105, 110, 99, 97, 114, 110, 97, 116, 105, 111, 110]⟩, 2, 0, 0⟩,
  ⟨⟨#[109, 117, 110, 100, 105]⟩, 5, 5508, 0⟩,
  ⟨⟨#[104, 105, 115, 112, 97, 110, 105, 97]⟩, 0, 38, 0⟩,
  ⟨⟨#[117, 114, 98, 105, 115]⟩, 0, 753, 0⟩,
  ⟨⟨#[105, 110, 100, 105, 99, 116, 105, 111, 110]⟩, 5, 3, 15⟩,
  ⟨⟨#[98, 101, 100, 97, 110]⟩, 6, 3, 15⟩,
  ⟨⟨#[103, 111, 108, 100, 101, 110]⟩, 0, 1, 19⟩,
  ⟨⟨#[115, 111, 108, 97, 114]⟩, 0, 9, 28⟩]
def eraAt (k : Nat) : Era := eras.getD k era0
def eraCells : List Value := eras.flatMap Era.cs
theorem eraAt_size0 : ∀ i : Fin 9, (eraAt i.val).name.size ≤ 16 := by decide
theorem eras_len : eras.length = 9 := rfl
theorem eraCells_len : eraCells.length = 36 := rfl
theorem flat4 {j : Nat} (hj : j < 4) : ∀ (l : List Era) (k : Nat), k < l.length → (l.flatMap Era.cs)[k * 4 + j]? = (l.getD k era0).cs[j]?
  | [], k, h => by simp at h
  | f :: l, 0, _ => by
    rw [List.flatMap_cons, List.getElem?_append_left (by simp [Era.cs]; omega)]
    simp
  | f :: l, k + 1, h => by
    have ih := flat4 hj l k (by simpa using h)
    rw [List.flatMap_cons, List.getElem?_append_right (by simp [Era.cs]; omega), show (k + 1) * 4 + j - f.cs.length = k * 4 + j from by simp [Era.cs]; omega, ih]
    simp
theorem eraCell {k j : Nat} (hk : k < 9) (hj : j < 4) : eraCells[k * 4 + j]? = (eraAt k).cs[j]? := flat4 hj eras k hk

/-- The first of a list's eras, from number k on, that has this name; -1 for none. -/
def eraFrom (s : ByteArray) : List Era → Nat → Int
  | [], _ => -1
  | f :: l, k => if f.name = s then (k : Int) else eraFrom s l (k + 1)
def findEra (s : ByteArray) : Int := eraFrom s eras 0
theorem era_drop (k : Nat) (h : k < 9) : eras.drop k = eraAt k :: eras.drop (k + 1) := by
  rw [List.drop_eq_getElem_cons (show k < eras.length from h)]
  unfold eraAt
  rw [List.getD, List.getElem?_eq_getElem (show k < eras.length from h)]
  rfl
theorem era_hit {s : ByteArray} {k : Nat} (h : k < 9) (hn : (eraAt k).name = s) (hf : eraFrom s (eras.drop k) k = findEra s) : findEra s = k := by
  rw [← hf, era_drop k h, eraFrom, if_pos hn]
theorem era_miss {s : ByteArray} {k : Nat} (h : k < 9) (hn : (eraAt k).name ≠ s) (hf : eraFrom s (eras.drop k) k = findEra s) : eraFrom s (eras.drop (k + 1)) (k + 1) = findEra s := by
  rw [← hf, era_drop k h, eraFrom, if_neg hn]
theorem era_end {s : ByteArray} {k : Nat} (h : 9 ≤ k) (hf : eraFrom s (eras.drop k) k = findEra s) : findEra s = -1 := by
  rw [← hf, List.drop_eq_nil_of_le (by rw [eras_len]; exact h), eraFrom]
theorem eraFrom_cases (s : ByteArray) : ∀ (l : List Era) (k : Nat), (eraFrom s l k = -1 ∧ ∀ f ∈ l, f.name ≠ s) ∨ ∃ j, j < l.length ∧ eraFrom s l k = ((k + j : Nat) : Int) ∧ (l.getD j era0).name = s
  | [], _ => .inl ⟨rfl, by simp⟩
  | f :: l, k => by
    rw [eraFrom]
    split
    · rename_i h
      exact .inr ⟨0, by simp, by simp, by simpa using h⟩
    · rename_i h
      rcases eraFrom_cases s l (k + 1) with ⟨h1, h2⟩ | ⟨j, h1, h2, h3⟩
      · exact .inl ⟨h1, by intro g hg; rcases List.mem_cons.1 hg with rfl | hg; exact h; exact h2 g hg⟩
      · exact .inr ⟨j + 1, by simp; omega, by rw [h2]; congr 1; omega, by simpa using h3⟩
/-- A name is one of the nine's, with its number, or none's. -/
theorem find_cases (s : ByteArray) : findEra s = -1 ∨ ∃ k : Nat, k < 9 ∧ findEra s = (k : Int) ∧ (eraAt k).name = s := by
  rcases eraFrom_cases s eras 0 with ⟨h, _⟩ | ⟨j, h1, h2, h3⟩
  · exact .inl h
  · exact .inr ⟨j, h1, by unfold findEra; rw [h2]; congr 1; omega, h3⟩

/-- A slice value whose row g holds the nine eras' cells. -/
def EraRow (W : World) (v : Value) : Prop := ∃ g cap, v = .slice (some ⟨g, 0, none⟩) 9 cap ∧ g < W.heap.size ∧ ∀ k, k < 9 → ∀ j, j < 4 → W.cell? ⟨g, k * 4 + j, none⟩ = (eraAt k).cs[j]?
theorem EraRow.below {W W' : World} {v : Value} (h : EraRow W v) (hb : Below W.heap.size W W') : EraRow W' v := by
  obtain ⟨g, cap, rfl, hg, hc⟩ := h
  exact ⟨g, cap, rfl, Nat.lt_of_lt_of_le hg hb.size, fun k hk j hj => (hb.cell (p := ⟨g, k * 4 + j, none⟩) hg).trans (hc k hk j hj)⟩
/-- What Eras leaves: its answer is a row of its own with the eras' cells. -/
def EraOwn (w W : World) (v : Value) : Prop := W.ownsRow w.heap.size 25 4 v 9 eraCells
theorem EraOwn.row {w W : World} {v : Value} (h : EraOwn w W v) : EraRow W v := by
  rcases h.2 with ⟨_, h0⟩ | ⟨g, cap, cur, hv, hb, hh, hcap, _, hsz, htake⟩
  · simp at h0
  · subst hv
    refine ⟨g, cap, rfl, (Array.getElem?_eq_some_iff.1 hh).1, fun k hk j hj => ?_⟩
    rw [← eraCell hk hj, ← htake, List.getElem?_take, if_pos (by omega)]
    simp [World.cell?, hh]
theorem EraRow.at {W : World} {v : Value} (h : EraRow W v) : ∃ g cap, v = .slice (some ⟨g, 0, none⟩) 9 cap ∧ g < W.heap.size ∧ ∀ W', Below W.heap.size W W' → ∀ k, k < 9 → W'.cell? ⟨g, k * 4, none⟩ = some (.string (eraAt k).name) ∧ W'.cell? ⟨g, k * 4 + 1, none⟩ = some (.int .i64 (eraAt k).st) ∧ W'.cell? ⟨g, k * 4 + 2, none⟩ = some (.int .i64 (eraAt k).add) ∧ W'.cell? ⟨g, k * 4 + 3, none⟩ = some (.int .i64 (eraAt k).cyc) := by
  obtain ⟨g, cap, hv, hg, hc⟩ := h
  refine ⟨g, cap, hv, hg, fun W' hb k hk => ?_⟩
  have e := fun j hj => (hb.cell (p := ⟨g, k * 4 + j, none⟩) hg).trans (hc k hk j hj)
  exact ⟨e 0 (by omega), e 1 (by omega), e 2 (by omega), e 3 (by omega)⟩
theorem row_new4 {w W : World} {cs : Array Value} {t : TypeId} {n : Nat} {xs : List Value} (hb : w.heap.size ≤ W.heap.size) (hn : n ≤ maxLen) (hs : cs.size = n * 4) (hx : cs.toList = xs) :
    (W.alloc (.cells cs t)).ownsRow w.heap.size t 4 (.slice (some ⟨W.heap.size, 0, none⟩) n n) n xs := by
  have hl : xs.length = n * 4 := by rw [← hx, Array.length_toList, hs]
  exact ⟨hl, .inr ⟨W.heap.size, n, cs, rfl, hb, heap_alloc_new W _, Nat.le_refl _, hn, hs, by rw [hx, List.take_of_length_le (by omega)]⟩⟩
theorem enew (W : World) (o : Obj) : (W.alloc o).heap.size = W.heap.size + 1 := by simp [World.alloc, -World.alloc_eq]
end Go.Proofs.YtifekkehbaegiaaGreatDoor.ctr
