/- Plain laws of the texts of days counted back, of no program: a text, what is read of one, and that each comes back. -/
import Derived.Test.YtoofnjccpoeomaaGreatDoorRomPlain
import Derived.Test.YtoofnjccpoeomaaGreatDoorGetCtr
import Derived.Test.YtoofnjccpoeomaaGreatDoorMonOfCtr
import Derived.Test.YtoofnjccpoeomaaGreatDoorCutCtr
namespace Go.Proofs.YtoofnjccpoeomaaGreatDoor.ctr
open Go.RowKit

/-- The signs of a mark, and of a count with a blank behind it. -/
def markL (k : Int) : List UInt8 := if k = 0 then [107, 97, 108] else if k = 1 then [110, 111, 110] else [105, 100]
def countL (n : Int) : List UInt8 := if n = 1 then [] else if n = 2 then [112, 114, 105, 100, 32] else (putRoman n).data.toList ++ [32]
def twiceL (b : Bool) : List UInt8 := if b = true then [98, 105, 115, 32] else []
def romL (r : Rom) : List UInt8 := twiceL r.twice ++ countL r.count ++ markL r.mark ++ [32] ++ (monthText r.month).data.toList
def romanText (r : Rom) : ByteArray := if romB r = true then ⟨(romL r).toArray⟩ else ⟨#[]⟩
def bisB : ByteArray := ⟨#[98, 105, 115]⟩
def pridB : ByteArray := ⟨#[112, 114, 105, 100]⟩
def kalB : ByteArray := ⟨#[107, 97, 108]⟩
def nonB : ByteArray := ⟨#[110, 111, 110]⟩
def idB : ByteArray := ⟨#[105, 100]⟩
def countOf (a : ByteArray) : Int := if a = pridB then 2 else getRoman a
/-- A mark by its word: as the program reads it, and as the model does. -/
def markI (b : ByteArray) : Int := if b = kalB then 0 else if b = nonB then 1 else if b = idB then 2 else -1
def markS (b : ByteArray) : Int := if b = nonB then 1 else if b = idB then 2 else 0
/-- Words without bis are a count, a mark and a month, or a mark and a month. -/
def wordsR (mk : ByteArray → Int) (tw : Bool) : List ByteArray → Option Rom
  | [a, b, c] => some ⟨countOf a, mk b, monOf c, tw⟩
  | [b, c] => some ⟨1, mk b, monOf c, tw⟩
  | _ => none
def parseS (s : ByteArray) : Option Rom := if (cut s 32).getD 0 ⟨#[]⟩ = bisB then wordsR markS true ((cut s 32).drop 1) else wordsR markS false (cut s 32)
def bisP (s : ByteArray) : Bool := (s.data.toList.take 4) == [98, 105, 115, 32]
def restOf (s : ByteArray) : ByteArray := if bisP s = true then s.extract 4 s.size else s
def parseI (s : ByteArray) : Option Rom := wordsR markI (bisP s) (cut (restOf s) 32)
/-- What is read of a text, by one parser or the other. -/
def readBy (p : Option Rom) (s : ByteArray) : Rom × Bool :=
  match p with
  | some r => if romanText r = s ∧ s.size ≠ 0 then (r, true) else (⟨0, 0, 0, false⟩, false)
  | none => (⟨0, 0, 0, false⟩, false)
def readRoman (s : ByteArray) : Rom × Bool := readBy (parseS s) s
def backB (m d : Nat) : Bool := decide (dateP 0 4 m d → (parseS (romanText (romanOf 0 4 m d)) = some (romanOf 0 4 m d) ∧ parseI (romanText (romanOf 0 4 m d)) = some (romanOf 0 4 m d) ∧ (romanText (romanOf 0 4 m d)).size ≠ 0 ∧ (romanText (romanOf 0 4 m d)).size ≤ 30))
theorem back_all : ∀ m : Fin 13, ∀ d : Fin 32, backB m.val d.val = true := by decide +kernel
theorem text_all {r : Rom} (h : romB r = true) : parseS (romanText r) = some r ∧ parseI (romanText r) = some r ∧ (romanText r).size ≠ 0 ∧ (romanText r).size ≤ 30 := by
  obtain ⟨hd, hr⟩ := dayR_is (show dayR 0 4 r = true from h)
  obtain ⟨m1, m2⟩ := dateP_month hd
  obtain ⟨d1, d2⟩ := dateP_day hd
  generalize invM r = m at *
  generalize invD 0 4 r = d at *
  obtain ⟨m, rfl⟩ := Int.eq_ofNat_of_zero_le (show 0 ≤ m by omega)
  obtain ⟨d, rfl⟩ := Int.eq_ofNat_of_zero_le (show 0 ≤ d by omega)
  have := back_all ⟨m, by omega⟩ ⟨d, by omega⟩
  unfold backB at this
  have k := of_decide_eq_true this hd
  rw [hr] at k
  exact k
theorem text_no {r : Rom} (h : romB r = false) : romanText r = ⟨#[]⟩ := by unfold romanText; rw [h]; rfl
theorem text_yes {r : Rom} (h : romB r = true) : romanText r = ⟨(romL r).toArray⟩ := by unfold romanText; rw [if_pos h]
theorem text_some {r : Rom} (h : (romanText r).size ≠ 0) : romB r = true := by
  cases hb : romB r
  · rw [text_no hb] at h
    exact absurd rfl h
  · rfl
theorem text_size (r : Rom) : (romanText r).size ≤ 30 := by
  cases hb : romB r
  · rw [text_no hb]
    exact Nat.zero_le _
  · exact (text_all hb).2.2.2
theorem readBy_no {s : ByteArray} : readBy none s = (⟨0, 0, 0, false⟩, false) := rfl
theorem readBy_yes {s : ByteArray} {r : Rom} (h : romanText r = s) (h0 : s.size ≠ 0) : readBy (some r) s = (r, true) := by
  show (if romanText r = s ∧ s.size ≠ 0 then (r, true) else _) = _
  rw [if_pos ⟨h, h0⟩]
theorem readBy_not {s : ByteArray} {r : Rom} (h : romanText r ≠ s ∨ s.size = 0) : readBy (some r) s = (⟨0, 0, 0, false⟩, false) := by
  show (if romanText r = s ∧ s.size ≠ 0 then (r, true) else _) = _
  rw [if_neg]
  rintro ⟨h1, h2⟩
  rcases h with h | h
  · exact h h1
  · exact h2 h
theorem readBy_ways (p : Option Rom) (s : ByteArray) : (∃ r, p = some r ∧ romanText r = s ∧ s.size ≠ 0 ∧ readBy p s = (r, true)) ∨ readBy p s = (⟨0, 0, 0, false⟩, false) := by
  cases p with
  | none => exact .inr rfl
  | some r =>
    by_cases h : romanText r = s ∧ s.size ≠ 0
    · exact .inl ⟨r, rfl, h.1, h.2, readBy_yes h.1 h.2⟩
    · refine .inr (readBy_not ?_)
      by_cases h1 : romanText r = s
      · exact .inr (by
          by_cases h2 : s.size = 0
          · exact h2
          · exact absurd ⟨h1, h2⟩ h)
      · exact .inl h1
theorem romRead_same (s : ByteArray) : readBy (parseI s) s = readRoman s := by
  unfold readRoman
  rcases readBy_ways (parseI s) s with ⟨r, _, h2, h3, h4⟩ | h
  · have hb := text_some (r := r) (by rw [h2]; exact h3)
    have := (text_all hb).1
    rw [h2] at this
    rw [h4, this, readBy_yes h2 h3]
  · rcases readBy_ways (parseS s) s with ⟨r, _, h2, h3, h4⟩ | h'
    · have hb := text_some (r := r) (by rw [h2]; exact h3)
      have := (text_all hb).2.1
      rw [h2] at this
      rw [h4, this, readBy_yes h2 h3]
    · rw [h, h']
theorem romRead_back {r : Rom} (h : romB r = true) : readRoman (romanText r) = (r, true) := by
  unfold readRoman
  rw [(text_all h).1]
  exact readBy_yes rfl (text_all h).2.2.1
theorem romRead_true {s : ByteArray} {r : Rom} (h : readRoman s = (r, true)) : romanText r = s ∧ s.size ≠ 0 := by
  rcases readBy_ways (parseS s) s with ⟨r', _, h2, h3, h4⟩ | h'
  · have := h.symm.trans h4
    simp only [Prod.mk.injEq] at this
    rw [this.1]
    exact ⟨h2, h3⟩
  · have := h.symm.trans h'
    simp at this
end Go.Proofs.YtoofnjccpoeomaaGreatDoor.ctr
