/- Texts of feasts: the plain functions; a text cut at its first plus and at all of them; a text that is told is read again. -/
import Derived.Test.YtckjcaloofjeoaaGreatDoorFeaPlain
import Derived.Test.YtckjcaloofjeoaaGreatDoorJDec
import Derived.Test.YtckjcaloofjeoaaGreatDoorTexPlain
import Derived.Lib.CutLaws
import Derived.Lib.IndexBytes
import Derived.Lib.IndexLaws
namespace Go.Proofs.YtckjcaloofjeoaaGreatDoor.ctr
open Go.RowKit

def plusB : ByteArray := ⟨#[43]⟩
/-- What a cut text tells. -/
def readParts (w : List ByteArray) : Int × Int :=
  if w.length = 1 then (findFeast (w.getD 0 ⟨#[]⟩), 0)
  else if findFeast (w.getD 0 ⟨#[]⟩) < 0 ∨ 2 < w.length ∨ readDec (w.getD 1 ⟨#[]⟩) < 1 ∨ 99 < readDec (w.getD 1 ⟨#[]⟩) then (-1, 0)
  else (findFeast (w.getD 0 ⟨#[]⟩), readDec (w.getD 1 ⟨#[]⟩))
def readFeast (s : ByteArray) : Int × Int := readParts (cut s 43)
/-- What a name, and the digits behind a plus, tell. -/
def readTwo (a b : ByteArray) : Int × Int :=
  if findFeast a < 0 ∨ readDec b < 1 ∨ 99 < readDec b then (-1, 0) else (findFeast a, readDec b)
def feastPlus (c y : Int) (s : ByteArray) : Int := if (readFeast s).1 < 0 ∨ ¬ yearP c y then 0 else (feaAt (readFeast s).1.toNat).day c y + (readFeast s).2
theorem readParts_b (w : List ByteArray) : -1 ≤ (readParts w).1 ∧ (readParts w).1 < 20 ∧ 0 ≤ (readParts w).2 ∧ (readParts w).2 ≤ 99 := by
  have h := find_b (w.getD 0 ⟨#[]⟩)
  unfold readParts
  split
  · exact ⟨h.1, h.2, by simp, by simp⟩
  · split
    · simp
    · rename_i h2
      refine ⟨h.1, h.2, ?_, ?_⟩ <;> simp only <;> omega
theorem readFeast_b (s : ByteArray) : -1 ≤ (readFeast s).1 ∧ (readFeast s).1 < 20 ∧ 0 ≤ (readFeast s).2 ∧ (readFeast s).2 ≤ 99 := readParts_b _

theorem readDec_bad (b : ByteArray) (k : Nat) (h : k < b.size) (hk : bAt b k = 43) : readDec b = -1 := by
  apply read_stop b k h
  have h1 := bAt_eq b k h
  rw [hk] at h1
  unfold digB
  exact inB_false (.inl (by omega))
/-- A text with a plus at p, and none ahead of it, is read as its two sides. -/
theorem read_split (s : ByteArray) (p : Nat) (hp : p < s.size) (hat : bAt s p = 43) (hno : ∀ j, j < p → bAt s j ≠ 43) : readFeast s = readTwo (s.extract 0 p) (s.extract (p + 1) s.size) := by
  obtain ⟨a1, a2⟩ := parts_none s 43 p hno
  obtain ⟨b1, b2⟩ := parts_hit s 43 p hat
  rw [a1, a2] at b1
  by_cases h : ∃ q, p < q ∧ q < s.size ∧ bAt s q = 43
  · obtain ⟨q, h1, h2, h3⟩ := h
    have hd : readDec (s.extract (p + 1) s.size) = -1 := by
      apply readDec_bad _ (q - (p + 1)) (by rw [ByteArray.size_extract]; omega)
      rw [bAt_ext s (p + 1) (q - (p + 1)), show p + 1 + (q - (p + 1)) = q from by omega]
      exact h3
    have hl : 2 < (cut s 43).length := by
      have c1 := parts_mono s 43 (p + 1) (q - (p + 1))
      have c2 := (parts_hit s 43 q h3).1
      have c3 := parts_mono s 43 (q + 1) (s.size - (q + 1))
      rw [show p + 1 + (q - (p + 1)) = q from by omega] at c1
      rw [show q + 1 + (s.size - (q + 1)) = s.size from by omega] at c3
      rw [b1] at c1
      have c4 : (partsTo s 43 (q + 1)).length = (partsTo s 43 q).length + 1 := by rw [c2, List.length_append]; rfl
      unfold cut
      rw [List.length_append]
      simp at c1 ⊢
      omega
    unfold readFeast readParts readTwo
    rw [if_neg (by omega), if_pos (.inr (.inl hl)), if_pos (.inr (.inl (by omega)))]
  · have hrun := parts_run s 43 (p + 1) (s.size - (p + 1)) (fun j h1 h2 h3 => h ⟨j, by omega, by omega, h3⟩)
    rw [show p + 1 + (s.size - (p + 1)) = s.size from by omega, b1, b2] at hrun
    have hc : cut s 43 = [s.extract 0 p, s.extract (p + 1) s.size] := by
      unfold cut
      rw [hrun.1, hrun.2]
      rfl
    unfold readFeast readParts readTwo
    rw [hc]
    simp
theorem read_plain (s : ByteArray) (h : ∀ j, j < s.size → bAt s j ≠ 43) : readFeast s = (findFeast s, 0) := by
  unfold readFeast readParts
  rw [cut_none s 43 h]
  simp
/-- strings.Cut at a plus, and the plain reading. -/
theorem cut_plus (s : ByteArray) : (∃ p, p < s.size ∧ bAt s p = 43 ∧ (∀ j, j < p → bAt s j ≠ 43) ∧ (⟨(Lib.cut s.data.toList plusB.data.toList).1.toArray⟩ : ByteArray) = s.extract 0 p ∧ (⟨(Lib.cut s.data.toList plusB.data.toList).2.1.toArray⟩ : ByteArray) = s.extract (p + 1) s.size ∧ (Lib.cut s.data.toList plusB.data.toList).2.2 = true) ∨
    ((∀ j, j < s.size → bAt s j ≠ 43) ∧ (⟨(Lib.cut s.data.toList plusB.data.toList).1.toArray⟩ : ByteArray) = s ∧ (⟨(Lib.cut s.data.toList plusB.data.toList).2.1.toArray⟩ : ByteArray) = ⟨#[]⟩ ∧ (Lib.cut s.data.toList plusB.data.toList).2.2 = false) := by
  have key : ∀ j, j < s.size → (bAt s j = 43 ↔ s.data.toList[j]? = some 43) := fun j hj => by
    have hl : j < s.data.toList.length := hj
    unfold bAt
    rw [List.getD, List.getElem?_eq_getElem hl]
    constructor
    · intro h
      simp only [Option.getD_some] at h
      have : (s.data.toList[j]).toNat = 43 := by omega
      rw [show s.data.toList[j] = 43 from UInt8.toNat_inj.1 this]
    · intro h
      rw [Option.some.inj h]
      rfl
  have hone : Lib.index s.data.toList plusB.data.toList = Lib.indexByte s.data.toList 43 := Lib.index_one s.data.toList 43
  rcases Lib.indexB_cases s plusB with h | ⟨p, h, hroom⟩
  · right
    have h' : Lib.indexByte s.data.toList 43 = -1 := hone.symm.trans h
    obtain ⟨e1, e2, e3⟩ := Lib.cutB_miss s plusB h
    exact ⟨fun j hj e => Lib.indexByte_none h' j ((key j hj).1 e), e1, e2, e3⟩
  · left
    have h' : Lib.indexByte s.data.toList 43 = p := hone.symm.trans h
    obtain ⟨e1, e2, e3⟩ := Lib.cutB_hit s plusB p h
    obtain ⟨f1, f2⟩ := Lib.indexByte_some h'
    have hp : p < s.size := by
      have : plusB.size = 1 := rfl
      omega
    exact ⟨p, hp, (key p hp).2 f1, fun j hj e => f2 j hj ((key j (by omega)).1 e), e1, e2, e3⟩
end Go.Proofs.YtckjcaloofjeoaaGreatDoor.ctr
