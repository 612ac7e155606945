/- A day told from a feast on is read as that day again. -/
import Derived.Test.YtckjcaloofjeoaaGreatDoorFeaRead
import Derived.Test.YtckjcaloofjeoaaGreatDoorJDec
namespace Go.Proofs.YtckjcaloofjeoaaGreatDoor.ctr
open Go.RowKit

/-- The text of a feast's name and k days. -/
def plusText (b : ByteArray) (k : Int) : ByteArray := if k = 0 then b else b ++ plusB ++ itoaB k
/-- A text for day n of year y. -/
def textIn (c y n : Int) (mv : Bool) : ByteArray := if (lastTo c y n mv 20).1.size = 0 ∨ 99 < n - (lastTo c y n mv 20).2 then ⟨#[]⟩ else plusText (lastTo c y n mv 20).1 (n - (lastTo c y n mv 20).2)

theorem name_plus : ∀ i : Fin 20, ∀ j : Fin 20, bAt (feaAt i.val).name j.val ≠ 43 := by decide
theorem app_list (a b : ByteArray) : (a ++ b).data.toList = a.data.toList ++ b.data.toList := by simp
theorem read_told (i : Nat) (hi : i < 20) (k : Int) (h1 : 1 ≤ k) (h2 : k ≤ 99) : readFeast ((feaAt i).name ++ plusB ++ itoaB k) = ((i : Int), k) := by
  have hsz := feaAt_size ⟨i, hi⟩
  have hfind := feaAt_find ⟨i, hi⟩
  have hno := fun j : Fin 20 => name_plus ⟨i, hi⟩ j
  have hrb := read_back k (by omega) (by omega)
  dsimp only at hsz hfind hno
  generalize (feaAt i).name = b at *
  have hl : (b ++ plusB ++ itoaB k).data.toList = b.data.toList ++ 43 :: (itoaB k).data.toList := by
    rw [app_list, app_list, List.append_assoc]
    rfl
  have hbl : b.data.toList.length = b.size := rfl
  have hs : (b ++ plusB ++ itoaB k).size = b.size + 1 + (itoaB k).size := by
    rw [ByteArray.size_append, ByteArray.size_append]
    rfl
  have hat : bAt (b ++ plusB ++ itoaB k) b.size = 43 := by
    unfold bAt
    rw [hl, List.getD, List.getElem?_append_right (by omega), hbl, Nat.sub_self]
    rfl
  have hbe : ∀ j, j < b.size → bAt (b ++ plusB ++ itoaB k) j ≠ 43 := fun j hj => by
    have := hno ⟨j, by omega⟩
    dsimp only at this
    unfold bAt at this ⊢
    rw [hl, List.getD, List.getElem?_append_left (by omega)]
    exact this
  rw [read_split _ b.size (by omega) hat hbe]
  have e1 : (b ++ plusB ++ itoaB k).extract 0 b.size = b := by
    apply WideShapes.bytes_inj
    rw [Lib.extract_eq]
    show (List.take (b.size - 0) (List.drop 0 (b ++ plusB ++ itoaB k).data.toList)) = _
    rw [hl, Nat.sub_zero, List.drop_zero, ← hbl]
    exact List.take_left
  have e2 : (b ++ plusB ++ itoaB k).extract (b.size + 1) (b ++ plusB ++ itoaB k).size = itoaB k := by
    apply WideShapes.bytes_inj
    rw [Lib.extract_eq]
    show (List.take _ (List.drop (b.size + 1) (b ++ plusB ++ itoaB k).data.toList)) = _
    rw [hl, hs, ← hbl, ← List.drop_drop]
    simp
    exact take_all _
  rw [e1, e2]
  unfold readTwo
  rw [hfind, hrb, if_neg (by omega)]
theorem read_name (i : Nat) (hi : i < 20) : readFeast (feaAt i).name = ((i : Int), 0) := by
  have hsz := feaAt_size ⟨i, hi⟩
  have hno := fun j : Fin 20 => name_plus ⟨i, hi⟩ j
  have hfind := feaAt_find ⟨i, hi⟩
  dsimp only at hsz hfind hno
  rw [read_plain _ (fun j hj => hno ⟨j, by omega⟩), hfind]
theorem text_back (c y n : Int) (mv : Bool) (hy : yearP c y) (h : (textIn c y n mv).size ≠ 0) : feastPlus c y (textIn c y n mv) = n := by
  unfold textIn at h ⊢
  by_cases h0 : (lastTo c y n mv 20).1.size = 0 ∨ 99 < n - (lastTo c y n mv 20).2
  · rw [if_pos h0] at h
    exact absurd rfl h
  · rw [if_neg h0]
    rcases last_spec c y n mv 20 (Nat.le_refl _) with e | ⟨i, hi, e, _, hle⟩
    · rw [e] at h0
      exact absurd (.inl rfl) h0
    · rw [e] at h0 ⊢
      simp only at h0 ⊢
      unfold plusText
      split
      · rename_i hk
        unfold feastPlus
        rw [read_name i hi, if_neg (fun k => k.elim (fun k => by simp only at k; omega) (fun k => k hy))]
        simp
        omega
      · rename_i hk
        unfold feastPlus
        rw [read_told i hi _ (by omega) (by omega), if_neg (fun k => k.elim (fun k => by simp only at k; omega) (fun k => k hy))]
        simp
        omega
end Go.Proofs.YtckjcaloofjeoaaGreatDoor.ctr
