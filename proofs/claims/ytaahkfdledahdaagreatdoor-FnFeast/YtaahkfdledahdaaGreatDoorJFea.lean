/- Texts of feasts: the plain functions; a text cut at its first plus and at all of them; a text that is told is read again. A day told from a feast on is read as that day again. -/
import Derived.Test.YtaahkfdledahdaaGreatDoorFeaPlain
import Derived.Test.YtaahkfdledahdaaGreatDoorJDec
import Derived.Test.YtaahkfdledahdaaGreatDoorCutCtr
import Derived.Lib.CutLaws
import Derived.Lib.IndexBytes
import Derived.Lib.IndexLaws
namespace Go.Proofs.YtaahkfdledahdaaGreatDoor.ctr
open Go.RowKit

def noText : ByteArray := ⟨#[]⟩
def plusB : ByteArray := ⟨#[43]⟩
/-- What a cut text tells. -/
def readParts (w : List ByteArray) : Int × Int :=
  if w.length = 1 then (findFeast (w.getD 0 ⟨#[]⟩), 0)
  else if findFeast (w.getD 0 ⟨#[]⟩) < 0 ∨ 2 < w.length ∨ readDec (w.getD 1 ⟨#[]⟩) < 1 ∨ 99 < readDec (w.getD 1 ⟨#[]⟩) then (-1, 0)
  else (findFeast (w.getD 0 ⟨#[]⟩), readDec (w.getD 1 ⟨#[]⟩))
def readFeast (s : ByteArray) : Int × Int := readParts (cut s 43)
/-- What a name, and the digits behind a plus, tell. -/
def readTwo (a b : ByteArray) : Int × Int :=
  if findFeast a < 0 ∨ readDec b < 1 ∨ 99 < readDec b then (-1, 0) else (findFeast a, readDec b)
def feastPlus (c y : Int) (s : ByteArray) : Int := if (readFeast s).1 < 0 ∨ ¬ yearP c y then 0 else (feaAt (readFeast s).1.toNat).day c y + (readFeast s).2
theorem readParts_b (w : List ByteArray) : -1 ≤ (readParts w).1 ∧ (readParts w).1 < 20 ∧ 0 ≤ (readParts w).2 ∧ (readParts w).2 ≤ 99 := by
  have h := find_b (w.getD 0 ⟨#[]⟩)
  unfold readParts
  split
  · exact ⟨h.1, h.2, by simp, by simp⟩
  · split
    · simp
    · rename_i h2
      refine ⟨h.1, h.2, ?_, ?_⟩ <;> simp only <;> omega
theorem readFeast_b (s : ByteArray) : -1 ≤ (readFeast s).1 ∧ (readFeast s).1 < 20 ∧ 0 ≤ (readFeast s).2 ∧ (readFeast s).2 ≤ 99 := readParts_b _

theorem parts_none (s : ByteArray) (g : Int) : ∀ k, (∀ j, j < k → bAt s j ≠ g) → partsTo s g k = [] ∧ startAt s g k = 0
  | 0, _ => ⟨rfl, rfl⟩
  | k + 1, h => by
    obtain ⟨h1, h2⟩ := parts_miss s g k (h k (by omega))
    obtain ⟨h3, h4⟩ := parts_none s g k (fun j hj => h j (by omega))
    exact ⟨h1.trans h3, h2.trans h4⟩
theorem parts_run (s : ByteArray) (g : Int) (a : Nat) : ∀ n, (∀ j, a ≤ j → j < a + n → bAt s j ≠ g) → partsTo s g (a + n) = partsTo s g a ∧ startAt s g (a + n) = startAt s g a
  | 0, _ => ⟨rfl, rfl⟩
  | n + 1, h => by
    obtain ⟨h1, h2⟩ := parts_miss s g (a + n) (h (a + n) (by omega) (by omega))
    obtain ⟨h3, h4⟩ := parts_run s g a n (fun j h1 h2 => h j h1 (by omega))
    exact ⟨h1.trans h3, h2.trans h4⟩
theorem parts_mono (s : ByteArray) (g : Int) (a : Nat) : ∀ n, (partsTo s g a).length ≤ (partsTo s g (a + n)).length
  | 0 => Nat.le_refl _
  | n + 1 => by
    have ih := parts_mono s g a n
    show _ ≤ (partsTo s g ((a + n) + 1)).length
    rw [partsTo]
    split
    · rw [List.length_append]; omega
    · exact ih
theorem ext_all (s : ByteArray) : s.extract 0 s.size = s := ByteArray.extract_zero_size
theorem bAt_ext (s : ByteArray) (a k : Nat) : bAt (s.extract a s.size) k = bAt s (a + k) := by
  unfold bAt
  have h1 : (s.extract a s.size).data.toList = (s.data.toList.drop a) := by
    rw [Lib.extract_eq]
    show (List.take (s.size - a) (List.drop a s.data.toList)) = _
    rw [List.take_of_length_le (by rw [List.length_drop]; exact Nat.le_refl _)]
  rw [h1, List.getD, List.getD, List.getElem?_drop]
theorem cut_none (s : ByteArray) (g : Int) (h : ∀ j, j < s.size → bAt s j ≠ g) : cut s g = [s] := by
  obtain ⟨h1, h2⟩ := parts_none s g s.size h
  unfold cut
  rw [h1, h2, ext_all]
  rfl
theorem readDec_bad (b : ByteArray) (k : Nat) (h : k < b.size) (hk : bAt b k = 43) : readDec b = -1 := by
  apply read_stop b k h
  have h1 := bAt_eq b k h
  rw [hk] at h1
  unfold digB
  exact inB_false (.inl (by omega))
/-- A text with a plus at p, and none ahead of it, is read as its two sides. -/
theorem read_split (s : ByteArray) (p : Nat) (hp : p < s.size) (hat : bAt s p = 43) (hno : ∀ j, j < p → bAt s j ≠ 43) : readFeast s = readTwo (s.extract 0 p) (s.extract (p + 1) s.size) := by
  obtain ⟨a1, a2⟩ := parts_none s 43 p hno
  obtain ⟨b1, b2⟩ := parts_hit s 43 p hat
  rw [a1, a2] at b1
  by_cases h : ∃ q, p < q ∧ q < s.size ∧ bAt s q = 43
  · obtain ⟨q, h1, h2, h3⟩ := h
    have hd : readDec (s.extract (p + 1) s.size) = -1 := by
      apply readDec_bad _ (q - (p + 1)) (by rw [ByteArray.size_extract]; omega)
      rw [bAt_ext s (p + 1) (q - (p + 1)), show p + 1 + (q - (p + 1)) = q from by omega]
      exact h3
    have hl : 2 < (cut s 43).length := by
      have c1 := parts_mono s 43 (p + 1) (q - (p + 1))
      have c2 := (parts_hit s 43 q h3).1
      have c3 := parts_mono s 43 (q + 1) (s.size - (q + 1))
      rw [show p + 1 + (q - (p + 1)) = q from by omega] at c1
      rw [show q + 1 + (s.size - (q + 1)) = s.size from by omega] at c3
      rw [b1] at c1
      have c4 : (partsTo s 43 (q + 1)).length = (partsTo s 43 q).length + 1 := by rw [c2, List.length_append]; rfl
      unfold cut
      rw [List.length_append]
      simp at c1 ⊢
      omega
    unfold readFeast readParts readTwo
    rw [if_neg (by omega), if_pos (.inr (.inl hl)), if_pos (.inr (.inl (by omega)))]
  · have hrun := parts_run s 43 (p + 1) (s.size - (p + 1)) (fun j h1 h2 h3 => h ⟨j, by omega, by omega, h3⟩)
    rw [show p + 1 + (s.size - (p + 1)) = s.size from by omega, b1, b2] at hrun
    have hc : cut s 43 = [s.extract 0 p, s.extract (p + 1) s.size] := by
      unfold cut
      rw [hrun.1, hrun.2]
      rfl
    unfold readFeast readParts readTwo
    rw [hc]
    simp
theorem read_plain (s : ByteArray) (h : ∀ j, j < s.size → bAt s j ≠ 43) : readFeast s = (findFeast s, 0) := by
  unfold readFeast readParts
  rw [cut_none s 43 h]
  simp
/-- strings.Cut at a plus, and the plain reading. -/
theorem cut_plus (s : ByteArray) : (∃ p, p < s.size ∧ bAt s p = 43 ∧ (∀ j, j < p → bAt s j ≠ 43) ∧ (⟨(Lib.cut s.data.toList plusB.data.toList).1.toArray⟩ : ByteArray) = s.extract 0 p ∧ (⟨(Lib.cut s.data.toList plusB.data.toList).2.1.toArray⟩ : ByteArray) = s.extract (p + 1) s.size ∧ (Lib.cut s.data.toList plusB.data.toList).2.2 = true) ∨
    ((∀ j, j < s.size → bAt s j ≠ 43) ∧ (⟨(Lib.cut s.data.toList plusB.data.toList).1.toArray⟩ : ByteArray) = s ∧ (⟨(Lib.cut s.data.toList plusB.data.toList).2.1.toArray⟩ : ByteArray) = ⟨#[]⟩ ∧ (Lib.cut s.data.toList plusB.data.toList).2.2 = false) := by
  have key : ∀ j, j < s.size → (bAt s j = 43 ↔ s.data.toList[j]? = some 43) := fun j hj => by
    have hl : j < s.data.toList.length := hj
    unfold bAt
    rw [List.getD, List.getElem?_eq_getElem hl]
    constructor
    · intro h
      simp only [Option.getD_some] at h
      have : (s.data.toList[j]).toNat = 43 := by omega
      rw [show s.data.toList[j] = 43 from UInt8.toNat_inj.1 this]
    · intro h
      rw [Option.some.inj h]
      rfl
  have hone : Lib.index s.data.toList plusB.data.toList = Lib.indexByte s.data.toList 43 := Lib.index_one s.data.toList 43
  rcases Lib.indexB_cases s plusB with h | ⟨p, h, hroom⟩
  · right
    have h' : Lib.indexByte s.data.toList 43 = -1 := hone.symm.trans h
    obtain ⟨e1, e2, e3⟩ := Lib.cutB_miss s plusB h
    exact ⟨fun j hj e => Lib.indexByte_none h' j ((key j hj).1 e), e1, e2, e3⟩
  · left
    have h' : Lib.indexByte s.data.toList 43 = p := hone.symm.trans h
    obtain ⟨e1, e2, e3⟩ := Lib.cutB_hit s plusB p h
    obtain ⟨f1, f2⟩ := Lib.indexByte_some h'
    have hp : p < s.size := by
      have : plusB.size = 1 := rfl
      omega
    exact ⟨p, hp, (key p hp).2 f1, fun j hj e => f2 j hj ((key j (by omega)).1 e), e1, e2, e3⟩
end Go.Proofs.YtaahkfdledahdaaGreatDoor.ctr

namespace Go.Proofs.YtaahkfdledahdaaGreatDoor.ctr
open Go.RowKit

/-- The text of a feast's name and k days. -/
def plusText (b : ByteArray) (k : Int) : ByteArray := if k = 0 then b else b ++ plusB ++ itoaB k
/-- A text for day n of year y. -/
def textIn (c y n : Int) (mv : Bool) : ByteArray := if (lastTo c y n mv 20).1.size = 0 ∨ 99 < n - (lastTo c y n mv 20).2 then ⟨#[]⟩ else plusText (lastTo c y n mv 20).1 (n - (lastTo c y n mv 20).2)

theorem name_plus : ∀ i : Fin 20, ∀ j : Fin 20, bAt (feaAt i.val).name j.val ≠ 43 := by decide
theorem app_list (a b : ByteArray) : (a ++ b).data.toList = a.data.toList ++ b.data.toList := by simp
theorem read_told (i : Nat) (hi : i < 20) (k : Int) (h1 : 1 ≤ k) (h2 : k ≤ 99) : readFeast ((feaAt i).name ++ plusB ++ itoaB k) = ((i : Int), k) := by
  have hsz := feaAt_size ⟨i, hi⟩
  have hfind := feaAt_find ⟨i, hi⟩
  have hno := fun j : Fin 20 => name_plus ⟨i, hi⟩ j
  have hrb := read_back k (by omega) (by omega)
  dsimp only at hsz hfind hno
  generalize (feaAt i).name = b at *
  have hl : (b ++ plusB ++ itoaB k).data.toList = b.data.toList ++ 43 :: (itoaB k).data.toList := by
    rw [app_list, app_list, List.append_assoc]
    rfl
  have hbl : b.data.toList.length = b.size := rfl
  have hs : (b ++ plusB ++ itoaB k).size = b.size + 1 + (itoaB k).size := by
    rw [ByteArray.size_append, ByteArray.size_append]
    rfl
  have hat : bAt (b ++ plusB ++ itoaB k) b.size = 43 := by
    unfold bAt
    rw [hl, List.getD, List.getElem?_append_right (by omega), hbl, Nat.sub_self]
    rfl
  have hbe : ∀ j, j < b.size → bAt (b ++ plusB ++ itoaB k) j ≠ 43 := fun j hj => by
    have := hno ⟨j, by omega⟩
    dsimp only at this
    unfold bAt at this ⊢
    rw [hl, List.getD, List.getElem?_append_left (by omega)]
    exact this
  rw [read_split _ b.size (by omega) hat hbe]
  have e1 : (b ++ plusB ++ itoaB k).extract 0 b.size = b := by
    apply WideShapes.bytes_inj
    rw [Lib.extract_eq]
    show (List.take (b.size - 0) (List.drop 0 (b ++ plusB ++ itoaB k).data.toList)) = _
    rw [hl, Nat.sub_zero, List.drop_zero, ← hbl]
    exact List.take_left
  have e2 : (b ++ plusB ++ itoaB k).extract (b.size + 1) (b ++ plusB ++ itoaB k).size = itoaB k := by
    apply WideShapes.bytes_inj
    rw [Lib.extract_eq]
    show (List.take _ (List.drop (b.size + 1) (b ++ plusB ++ itoaB k).data.toList)) = _
    rw [hl, hs, ← hbl, ← List.drop_drop]
    simp
    exact take_all _
  rw [e1, e2]
  unfold readTwo
  rw [hfind, hrb, if_neg (by omega)]
theorem read_name (i : Nat) (hi : i < 20) : readFeast (feaAt i).name = ((i : Int), 0) := by
  have hsz := feaAt_size ⟨i, hi⟩
  have hno := fun j : Fin 20 => name_plus ⟨i, hi⟩ j
  have hfind := feaAt_find ⟨i, hi⟩
  dsimp only at hsz hfind hno
  rw [read_plain _ (fun j hj => hno ⟨j, by omega⟩), hfind]
theorem text_back (c y n : Int) (mv : Bool) (hy : yearP c y) (h : (textIn c y n mv).size ≠ 0) : feastPlus c y (textIn c y n mv) = n := by
  unfold textIn at h ⊢
  by_cases h0 : (lastTo c y n mv 20).1.size = 0 ∨ 99 < n - (lastTo c y n mv 20).2
  · rw [if_pos h0] at h
    exact absurd rfl h
  · rw [if_neg h0]
    rcases last_spec c y n mv 20 (Nat.le_refl _) with e | ⟨i, hi, e, _, hle⟩
    · rw [e] at h0
      exact absurd (.inl rfl) h0
    · rw [e] at h0 ⊢
      simp only at h0 ⊢
      unfold plusText
      split
      · rename_i hk
        unfold feastPlus
        rw [read_name i hi, if_neg (fun k => k.elim (fun k => by simp only at k; omega) (fun k => k hy))]
        simp
        omega
      · rename_i hk
        unfold feastPlus
        rw [read_told i hi _ (by omega) (by omega), if_neg (fun k => k.elim (fun k => by simp only at k; omega) (fun k => k hy))]
        simp
        omega
end Go.Proofs.YtaahkfdledahdaaGreatDoor.ctr
