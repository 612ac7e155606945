/- The twenty feasts as a plain list; their cells in a row; which one has a name. -/
import Derived.Test.YtoofnjccpoeomaaGreatDoorBase
import Derived.Handy
import Derived.Laws.AppendOwn
import Derived.Laws.OwnMore
import Derived.OwnWalk
import Derived.RangeFuncBox
import Derived.Maps.AppendAt
import Derived.Test.YtoofnjccpoeomaaGreatDoorBlkKit
namespace Go.Proofs.YtoofnjccpoeomaaGreatDoor.ctr
open Go.RowKit

/-- A feast: its name, whether it moves, days from Easter, month, day. -/
structure Fea where
  name : ByteArray
  mv : Bool
  off : Int
  m : Int
  d : Int
def Fea.cs (f : Fea) : List Value := [.string f.name, .bool f.mv, .int .i64 f.off, .int .i64 f.m, .int .i64 f.d]
def fea0 : Fea := ⟨⟨#[]⟩, false, 0, 0, 0⟩
def feasts : List Fea := [
  ⟨⟨#[115, 101, 112, 116, 117, 97, 103, 101, 115, 105, 109, 97]⟩, true, -63, 0, 0⟩,
  ⟨⟨#[97, 115, 104]⟩, true, -46, 0, 0⟩,
  ⟨⟨#[112, 97, 108, 109]⟩, true, -7, 0, 0⟩,
  ⟨⟨#[101, 97, 115, 116, 101, 114]⟩, true, 0, 0, 0⟩,
  ⟨⟨#[113, 117, 97, 115, 105, 109, 111, 100, 111]⟩, true, 7, 0, 0⟩,
  ⟨⟨#[114, 111, 103, 97, 116, 105, 111, 110]⟩, true, 35, 0, 0⟩,
  ⟨⟨#[97, 115, 99, 101, 110, 115, 105, 111, 110]⟩, true, 39, 0, 0⟩,
  ⟨⟨#[112, 101, 110, 116, 101, 99, 111, 115, 116]⟩, true, 49, 0, 0⟩,
  ⟨⟨#[116, 114, 105, 110, 105, 116, 121]⟩, true, 56, 0, 0⟩,
  ⟨⟨#[99, 111, 114, 112, 117, 115]⟩, true, 60, 0, 0⟩,
  ⟨⟨#[101, 112, 105, 112, 104, 97, 110, 121]⟩, false, 0, 1, 6⟩,
  ⟨⟨#[99, 97, 110, 100, 108, 101, 109, 97, 115]⟩, false, 0, 2, 2⟩,
  ⟨⟨#[97, 110, 110, 117, 110, 99, 105, 97, 116, 105, 111, 110]⟩, false, 0, 3, 25⟩,
  ⟨⟨#[103, 101, 111, 114, 103, 101]⟩, false, 0, 4, 23⟩,
  ⟨⟨#[106, 111, 104, 110]⟩, false, 0, 6, 24⟩,
  ⟨⟨#[97, 115, 115, 117, 109, 112, 116, 105, 111, 110]⟩, false, 0, 8, 15⟩,
  ⟨⟨#[109, 105, 99, 104, 97, 101, 108]⟩, false, 0, 9, 29⟩,
  ⟨⟨#[115, 97, 105, 110, 116, 115]⟩, false, 0, 11, 1⟩,
  ⟨⟨#[109, 97, 114, 116, 105, 110]⟩, false, 0, 11, 11⟩,
  ⟨⟨#[99, 104, 114, 105, 115, 116, 109, 97, 115]⟩, false, 0, 12, 25⟩]
def feaAt (k : Nat) : Fea := feasts.getD k fea0
def feaCells : List Value := feasts.flatMap Fea.cs
theorem feaAt_size0 : ∀ i : Fin 20, (feaAt i.val).name.size ≤ 16 := by decide
theorem feasts_len : feasts.length = 20 := rfl
theorem feaCells_len : feaCells.length = 100 := rfl
theorem flat5 {j : Nat} (hj : j < 5) : ∀ (l : List Fea) (k : Nat), k < l.length → (l.flatMap Fea.cs)[k * 5 + j]? = (l.getD k fea0).cs[j]?
  | [], k, h => by simp at h
  | f :: l, 0, _ => by
    rw [List.flatMap_cons, List.getElem?_append_left (by simp [Fea.cs]; omega)]
    simp
  | f :: l, k + 1, h => by
    have ih := flat5 hj l k (by simpa using h)
    rw [List.flatMap_cons, List.getElem?_append_right (by simp [Fea.cs]; omega), show (k + 1) * 5 + j - f.cs.length = k * 5 + j from by simp [Fea.cs]; omega, ih]
    simp
theorem feaCell {k j : Nat} (hk : k < 20) (hj : j < 5) : feaCells[k * 5 + j]? = (feaAt k).cs[j]? := flat5 hj feasts k hk

/-- The first of a list's feasts, from number k on, that has this name; -1 for none. -/
def findFrom (s : ByteArray) : List Fea → Nat → Int
  | [], _ => -1
  | f :: l, k => if f.name = s then (k : Int) else findFrom s l (k + 1)
def findFeast (s : ByteArray) : Int := findFrom s feasts 0
theorem drop_at (k : Nat) (h : k < 20) : feasts.drop k = feaAt k :: feasts.drop (k + 1) := by
  rw [List.drop_eq_getElem_cons (show k < feasts.length from h)]
  unfold feaAt
  rw [List.getD, List.getElem?_eq_getElem (show k < feasts.length from h)]
  rfl
theorem find_hit {s : ByteArray} {k : Nat} (h : k < 20) (hn : (feaAt k).name = s) (hf : findFrom s (feasts.drop k) k = findFeast s) : findFeast s = k := by
  rw [← hf, drop_at k h, findFrom, if_pos hn]
theorem find_miss {s : ByteArray} {k : Nat} (h : k < 20) (hn : (feaAt k).name ≠ s) (hf : findFrom s (feasts.drop k) k = findFeast s) : findFrom s (feasts.drop (k + 1)) (k + 1) = findFeast s := by
  rw [← hf, drop_at k h, findFrom, if_neg hn]
theorem find_end {s : ByteArray} {k : Nat} (h : 20 ≤ k) (hf : findFrom s (feasts.drop k) k = findFeast s) : findFeast s = -1 := by
  rw [← hf, List.drop_eq_nil_of_le (by rw [feasts_len]; exact h), findFrom]
theorem findFrom_b (s : ByteArray) : ∀ (l : List Fea) (k : Nat), findFrom s l k = -1 ∨ ((k : Int) ≤ findFrom s l k ∧ findFrom s l k < ((k + l.length : Nat) : Int))
  | [], _ => .inl rfl
  | f :: l, k => by
    rw [findFrom]
    split
    · right; simp; omega
    · rcases findFrom_b s l (k + 1) with h | ⟨h1, h2⟩
      · exact .inl h
      · right
        simp at h1 h2 ⊢
        omega
theorem find_b (s : ByteArray) : -1 ≤ findFeast s ∧ findFeast s < 20 := by
  rcases findFrom_b s feasts 0 with h | ⟨h1, h2⟩
  · unfold findFeast; omega
  · have h2' : findFrom s feasts 0 < 20 := h2
    unfold findFeast
    omega

/-- A slice value whose row g holds the twenty feasts' cells. -/
def FeaRow (W : World) (v : Value) : Prop := ∃ g cap, v = .slice (some ⟨g, 0, none⟩) 20 cap ∧ g < W.heap.size ∧ ∀ k, k < 20 → ∀ j, j < 5 → W.cell? ⟨g, k * 5 + j, none⟩ = (feaAt k).cs[j]?
theorem FeaRow.below {W W' : World} {v : Value} (h : FeaRow W v) (hb : Below W.heap.size W W') : FeaRow W' v := by
  obtain ⟨g, cap, rfl, hg, hc⟩ := h
  exact ⟨g, cap, rfl, Nat.lt_of_lt_of_le hg hb.size, fun k hk j hj => (hb.cell (p := ⟨g, k * 5 + j, none⟩) hg).trans (hc k hk j hj)⟩
/-- What Feasts leaves: its answer is a row of its own with the feasts' cells. -/
def FeaOwn (w W : World) (v : Value) : Prop := W.ownsRow w.heap.size 78 5 v 20 feaCells
theorem FeaOwn.row {w W : World} {v : Value} (h : FeaOwn w W v) : FeaRow W v := by
  rcases h.2 with ⟨_, h0⟩ | ⟨g, cap, cur, hv, hb, hh, hcap, _, hsz, htake⟩
  · simp at h0
  · subst hv
    refine ⟨g, cap, rfl, (Array.getElem?_eq_some_iff.1 hh).1, fun k hk j hj => ?_⟩
    rw [← feaCell hk hj, ← htake, List.getElem?_take, if_pos (by omega)]
    simp [World.cell?, hh]
end Go.Proofs.YtoofnjccpoeomaaGreatDoor.ctr
