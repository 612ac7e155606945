/- Plain laws of cut texts, of no program: a text cut at every sign of a kind, its first such sign, how long the parts are; a text with a sign that is no digit is no number. -/
import Derived.Test.YtioiaefjkmgmdaaDoorCutCtr
import Derived.Test.YtioiaefjkmgmdaaDoorReadCtr
import Derived.Lib.CutLaws
import Derived.Lib.IndexBytes
import Derived.Lib.IndexLaws
namespace Go.Proofs.YtioiaefjkmgmdaaDoor.ctr
open Go.RowKit

def noText : ByteArray := ⟨#[]⟩
theorem parts_none (s : ByteArray) (g : Int) : ∀ k, (∀ j, j < k → bAt s j ≠ g) → partsTo s g k = [] ∧ startAt s g k = 0
  | 0, _ => ⟨rfl, rfl⟩
  | k + 1, h => by
    obtain ⟨h1, h2⟩ := parts_miss s g k (h k (by omega))
    obtain ⟨h3, h4⟩ := parts_none s g k (fun j hj => h j (by omega))
    exact ⟨h1.trans h3, h2.trans h4⟩
theorem parts_run (s : ByteArray) (g : Int) (a : Nat) : ∀ n, (∀ j, a ≤ j → j < a + n → bAt s j ≠ g) → partsTo s g (a + n) = partsTo s g a ∧ startAt s g (a + n) = startAt s g a
  | 0, _ => ⟨rfl, rfl⟩
  | n + 1, h => by
    obtain ⟨h1, h2⟩ := parts_miss s g (a + n) (h (a + n) (by omega) (by omega))
    obtain ⟨h3, h4⟩ := parts_run s g a n (fun j h1 h2 => h j h1 (by omega))
    exact ⟨h1.trans h3, h2.trans h4⟩
theorem parts_mono (s : ByteArray) (g : Int) (a : Nat) : ∀ n, (partsTo s g a).length ≤ (partsTo s g (a + n)).length
  | 0 => Nat.le_refl _
  | n + 1 => by
    have ih := parts_mono s g a n
    show _ ≤ (partsTo s g ((a + n) + 1)).length
    rw [partsTo]
    split
    · rw [List.length_append]; omega
    · exact ih
theorem ext_all (s : ByteArray) : s.extract 0 s.size = s := ByteArray.extract_zero_size
theorem bAt_ext (s : ByteArray) (a k : Nat) : bAt (s.extract a s.size) k = bAt s (a + k) := by
  unfold bAt
  have h1 : (s.extract a s.size).data.toList = (s.data.toList.drop a) := by
    rw [Lib.extract_eq]
    show (List.take (s.size - a) (List.drop a s.data.toList)) = _
    rw [List.take_of_length_le (by rw [List.length_drop]; exact Nat.le_refl _)]
  rw [h1, List.getD, List.getD, List.getElem?_drop]
theorem cut_none (s : ByteArray) (g : Int) (h : ∀ j, j < s.size → bAt s j ≠ g) : cut s g = [s] := by
  obtain ⟨h1, h2⟩ := parts_none s g s.size h
  unfold cut
  rw [h1, h2, ext_all]
  rfl
theorem parts_short (s : ByteArray) (g : Int) : ∀ k, ∀ x ∈ partsTo s g k, x.size ≤ s.size
  | 0, x, h => by simp [partsTo] at h
  | k + 1, x, h => by
    rw [partsTo] at h
    split at h
    · rcases List.mem_append.1 h with h | h
      · exact parts_short s g k x h
      · have : x = s.extract (startAt s g k) k := by simpa using h
        rw [this, ByteArray.size_extract]
        omega
    · exact parts_short s g k x h
theorem cut_short (s : ByteArray) (g : Int) (i : Nat) : ((cut s g).getD i ⟨#[]⟩).size ≤ s.size := by
  by_cases hi : i < (cut s g).length
  · have hm : (cut s g).getD i ⟨#[]⟩ ∈ cut s g := by
      rw [List.getD, List.getElem?_eq_getElem hi]
      exact List.getElem_mem _
    unfold cut at hm
    rcases List.mem_append.1 hm with h | h
    · exact parts_short s g _ _ h
    · have : (cut s g).getD i ⟨#[]⟩ = s.extract (startAt s g s.size) s.size := by simpa [cut] using h
      rw [this, ByteArray.size_extract]
      omega
  · rw [List.getD, List.getElem?_eq_none (by omega)]
    exact Nat.zero_le _

theorem cut_long (s : ByteArray) (g : Int) : (cut s g).length ≤ s.size + 1 := by
  have := parts_len s g s.size
  unfold cut
  rw [List.length_append]
  simp
  omega
theorem empty_yes {b : ByteArray} (h : b.size = 0) : b.toList.isEmpty = true := by
  rw [ByteArray.toList_eq]
  simp
  exact Array.eq_empty_of_size_eq_zero h
theorem empty_no {b : ByteArray} (h : b.size ≠ 0) : b.toList.isEmpty = false := by
  rw [ByteArray.toList_eq]
  simp
  intro e
  exact h (by show b.data.size = 0; rw [e]; rfl)
theorem readDec_sign (b : ByteArray) (k : Nat) (h : k < b.size) (hk : bAt b k < 48) : readDec b = -1 := by
  apply read_stop b k h
  have h1 := bAt_eq b k h
  unfold digB
  exact inB_false (.inl (by omega))
/-- The first sign of a kind, or none. -/
theorem cut_first (s : ByteArray) (g : UInt8) : (∃ p : Nat, p < s.size ∧ Lib.indexByte s.data.toList g = p ∧ bAt s p = (g.toNat : Int) ∧ ∀ j, j < p → bAt s j ≠ (g.toNat : Int)) ∨ (Lib.indexByte s.data.toList g = -1 ∧ ∀ j, j < s.size → bAt s j ≠ (g.toNat : Int)) := by
  have key : ∀ j, j < s.size → (bAt s j = (g.toNat : Int) ↔ s.data.toList[j]? = some g) := fun j hj => by
    have hl : j < s.data.toList.length := hj
    unfold bAt
    rw [List.getD, List.getElem?_eq_getElem hl]
    constructor
    · intro h
      simp only [Option.getD_some] at h
      have : (s.data.toList[j]).toNat = g.toNat := by omega
      rw [show s.data.toList[j] = g from UInt8.toNat_inj.1 this]
    · intro h
      rw [Option.some.inj h]
      rfl
  by_cases h : Lib.indexByte s.data.toList g = -1
  · exact .inr ⟨h, fun j hj e => Lib.indexByte_none h j ((key j hj).1 e)⟩
  · have hge := Lib.indexByte_ge s.data.toList g
    obtain ⟨p, hp⟩ := Int.eq_ofNat_of_zero_le (show 0 ≤ Lib.indexByte s.data.toList g by omega)
    obtain ⟨f1, f2⟩ := Lib.indexByte_some hp
    have hps : p < s.size := by
      have : p < s.data.toList.length := (List.getElem?_eq_some_iff.1 f1).1
      exact this
    exact .inl ⟨p, hps, hp, (key p hps).2 f1, fun j hj e => f2 j hj ((key j (by omega)).1 e)⟩
/-- A text with one sign of a kind is cut into two. -/
theorem cut_two (s : ByteArray) (g : Int) (p : Nat) (hp : p < s.size) (hat : bAt s p = g) (hno : ∀ j, j < p → bAt s j ≠ g) (hr : ∀ j, p < j → j < s.size → bAt s j ≠ g) : cut s g = [s.extract 0 p, s.extract (p + 1) s.size] := by
  obtain ⟨a1, a2⟩ := parts_none s g p hno
  obtain ⟨b1, b2⟩ := parts_hit s g p hat
  rw [a1, a2] at b1
  have hrun := parts_run s g (p + 1) (s.size - (p + 1)) (fun j h1 h2 h3 => hr j (by omega) (by omega) h3)
  rw [show p + 1 + (s.size - (p + 1)) = s.size from by omega, b1, b2] at hrun
  unfold cut
  rw [hrun.1, hrun.2]
  rfl
/-- A text with two signs of a kind is cut into more than two. -/
theorem cut_more (s : ByteArray) (g : Int) (p q : Nat) (hpq : p < q) (hq : q < s.size) (hat : bAt s p = g) (h3 : bAt s q = g) : 2 < (cut s g).length := by
  have c0 := (parts_hit s g p hat).1
  have c1 := parts_mono s g (p + 1) (q - (p + 1))
  have c2 := (parts_hit s g q h3).1
  have c3 := parts_mono s g (q + 1) (s.size - (q + 1))
  rw [show p + 1 + (q - (p + 1)) = q from by omega] at c1
  rw [show q + 1 + (s.size - (q + 1)) = s.size from by omega] at c3
  have c4 : (partsTo s g (q + 1)).length = (partsTo s g q).length + 1 := by rw [c2, List.length_append]; rfl
  have c5 : (partsTo s g (p + 1)).length = (partsTo s g p).length + 1 := by rw [c0, List.length_append]; rfl
  unfold cut
  rw [List.length_append]
  simp
  omega
theorem dec_size {e : Int} (h0 : 0 ≤ e) (h1 : e ≤ 9999) : (itoaB e).size ≤ 4 := by
  have hi : Lib.itoa e = Lib.decDigits e.toNat := by unfold Lib.itoa; rw [if_neg (by omega)]
  have hs : (itoaB e).size = (Lib.decDigits e.toNat).length := by show (Lib.itoa e).length = _; rw [hi]
  have hp : (10 : Nat) ^ (3 + 1) = 10000 := by decide
  rw [hs]
  exact dec_len 3 e.toNat (by rw [hp]; omega)
end Go.Proofs.YtioiaefjkmgmdaaDoor.ctr
