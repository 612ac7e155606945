/- Contracts of the model's NameOk and of the program's NameOk: each answers the plain function nameOk at every string within the length limit. -/
import Derived.Test.YtkinapfoigibcaaBase
namespace Go.Proofs.Ytkinapfoigibcaa.ctr
open Go.RowKit

/-- a .. z. -/
def lowB (c : UInt8) : Bool := inB c.toNat 97 122
def lows (s : ByteArray) (k : Nat) : Bool := (s.data.toList.take k).all lowB
def nameOk (s : ByteArray) : Bool := inB s.size 1 16 && lows s s.size
theorem lows_succ (s : ByteArray) (k : Nat) (h : k < s.size) (h1 : lows s k = true) (h2 : lowB s[k] = true) : lows s (k + 1) = true := by
  unfold lows at *
  rw [take_snoc s k h, List.all_append, h1]
  simp [h2]
theorem lows_stop (s : ByteArray) (k : Nat) (h : k < s.size) (h2 : lowB s[k] = false) : nameOk s = false := by
  have : lows s s.size = false := by
    unfold lows
    rw [List.all_eq_false]
    refine ⟨s[k], ?_, by simp [h2]⟩
    rw [List.take_of_length_le (show s.data.toList.length ≤ s.size from Nat.le_refl _)]
    exact List.getElem_mem (l := s.data.toList) (n := k) h
  simp [nameOk, this]
theorem lows_done (s : ByteArray) (k : Nat) (h : k = s.size) (h1 : lows s k = true) : nameOk s = inB s.size 1 16 := by
  subst h
  simp [nameOk, h1]

end Go.Proofs.Ytkinapfoigibcaa.ctr
