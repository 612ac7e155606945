/- A text cut at a sign, plain: the parts behind the first sign are those of what is behind it; the library's splitting up to so many parts tells the same, or more parts than wanted. -/
import Derived.Test.YtioiaefjkmgmdaaDoorTexPlain
import Derived.Lib.Split
import Derived.Lib.IndexBytes
namespace Go.Proofs.YtioiaefjkmgmdaaDoor.ctr
open Go.RowKit

theorem ext_ext (s : ByteArray) (a i j : Nat) (h : a + j ≤ s.size) : (s.extract a s.size).extract i j = s.extract (a + i) (a + j) := by
  rw [ByteArray.extract_extract]
  congr 1
  omega
theorem parts_behind (s : ByteArray) (g : Int) (p : Nat) (hp : p < s.size) (hat : bAt s p = g) (hno : ∀ j, j < p → bAt s j ≠ g) : ∀ n, p + 1 + n ≤ s.size → partsTo s g (p + 1 + n) = s.extract 0 p :: partsTo (s.extract (p + 1) s.size) g n ∧ startAt s g (p + 1 + n) = p + 1 + startAt (s.extract (p + 1) s.size) g n
  | 0, _ => by
    obtain ⟨h1, h2⟩ := parts_none s g p hno
    obtain ⟨h3, h4⟩ := parts_hit s g p hat
    rw [Nat.add_zero, h3, h4, h1, h2]
    exact ⟨rfl, rfl⟩
  | n + 1, hn => by
    obtain ⟨h1, h2⟩ := parts_behind s g p hp hat hno n (by omega)
    have hb := bAt_ext s (p + 1) n
    have hst := start_le (s.extract (p + 1) s.size) g n
    by_cases h : bAt s (p + 1 + n) = g
    · obtain ⟨h3, h4⟩ := parts_hit s g (p + 1 + n) h
      obtain ⟨h5, h6⟩ := parts_hit (s.extract (p + 1) s.size) g n (by rw [hb]; exact h)
      rw [← Nat.add_assoc, h3, h4, h5, h6, h1, h2, ext_ext s (p + 1) _ n (by omega)]
      exact ⟨rfl, by omega⟩
    · obtain ⟨h3, h4⟩ := parts_miss s g (p + 1 + n) h
      obtain ⟨h5, h6⟩ := parts_miss (s.extract (p + 1) s.size) g n (by rw [hb]; exact h)
      rw [← Nat.add_assoc, h3, h4, h5, h6, h1, h2]
      exact ⟨rfl, rfl⟩
theorem ext_size (s : ByteArray) (a : Nat) (h : a ≤ s.size) : (s.extract a s.size).size = s.size - a := by
  rw [ByteArray.size_extract]
  omega
theorem cut_behind (s : ByteArray) (g : Int) (p : Nat) (hp : p < s.size) (hat : bAt s p = g) (hno : ∀ j, j < p → bAt s j ≠ g) : cut s g = s.extract 0 p :: cut (s.extract (p + 1) s.size) g := by
  have hz := ext_size s (p + 1) (by omega)
  obtain ⟨h1, h2⟩ := parts_behind s g p hp hat hno (s.size - (p + 1)) (by omega)
  rw [show p + 1 + (s.size - (p + 1)) = s.size by omega] at h1 h2
  have hst := start_le (s.extract (p + 1) s.size) g (s.size - (p + 1))
  unfold cut
  rw [h1, h2, hz, ext_ext s (p + 1) _ (s.size - (p + 1)) (by omega), show p + 1 + (s.size - (p + 1)) = s.size by omega]
  rfl
theorem cut_one (s : ByteArray) (g : Int) : 1 ≤ (cut s g).length := by
  unfold cut
  rw [List.length_append]
  simp
theorem index_sign (s : ByteArray) (g : UInt8) : Lib.indexB s ⟨#[g]⟩ = Lib.indexByte s.data.toList g := Lib.index_one s.data.toList g
theorem split_cut (g : UInt8) : ∀ (K : Nat) (s : ByteArray), ((cut s g.toNat).length ≤ K + 1 → Lib.splitB ⟨#[g]⟩ 0 K s = cut s g.toNat) ∧ (K + 1 < (cut s g.toNat).length → (Lib.splitB ⟨#[g]⟩ 0 K s).length = K + 1)
  | 0, s => by
    refine ⟨fun h => ?_, fun _ => rfl⟩
    rcases cut_first s g with ⟨p, hp, _, hat, hno⟩ | ⟨_, hno⟩
    · rw [cut_behind s _ p hp hat hno, List.length_cons] at h
      have := cut_one (s.extract (p + 1) s.size) (g.toNat : Int)
      omega
    · rw [cut_none s _ hno]
      rfl
  | K + 1, s => by
    rcases cut_first s g with ⟨p, hp, hi, hat, hno⟩ | ⟨hi, hno⟩
    · have e := Lib.splitB_hit ⟨#[g]⟩ 0 K s p (by rw [index_sign]; exact hi)
      obtain ⟨h1, h2⟩ := split_cut g K (s.extract (p + 1) s.size)
      rw [e, cut_behind s _ p hp hat hno, List.length_cons, List.length_cons, Nat.add_zero]
      refine ⟨fun h => ?_, fun h => ?_⟩
      · rw [← h1 (by omega)]
        rfl
      · have := h2 (by omega)
        show (Lib.splitB ⟨#[g]⟩ 0 K (s.extract (p + 1) s.size)).length + 1 = _
        omega
    · rw [Lib.splitB_miss _ _ _ _ (by rw [index_sign]; exact hi), cut_none s _ hno]
      exact ⟨fun _ => rfl, fun h => by simp at h⟩
/-- Up to four parts: the parts themselves, or four where there are more. -/
theorem split_four (s : ByteArray) : Lib.splitB ⟨#[45]⟩ 0 (min 4 (s.size + 1) - 1) s = cut s 45 ∨ ((Lib.splitB ⟨#[45]⟩ 0 (min 4 (s.size + 1) - 1) s).length = 4 ∧ 4 < (cut s 45).length) := by
  have hl := cut_long s 45
  obtain ⟨h1, h2⟩ := split_cut 45 (min 4 (s.size + 1) - 1) s
  change ((cut s 45).length ≤ _ → _ = cut s 45) at h1
  change (_ < (cut s 45).length → _) at h2
  by_cases h : (cut s 45).length ≤ min 4 (s.size + 1) - 1 + 1
  · exact .inl (h1 h)
  · have := h2 (by omega)
    exact .inr ⟨by omega, by omega⟩
end Go.Proofs.YtioiaefjkmgmdaaDoor.ctr
