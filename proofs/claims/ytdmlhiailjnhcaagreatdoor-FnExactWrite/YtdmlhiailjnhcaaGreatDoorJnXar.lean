/- Plain laws of where a year begins, of no program: the day on which a year of a style begins, which year holds ; and what else the law reaches. -/
import Derived.Test.YtdmlhiailjnhcaaGreatDoorJnXak
import Derived.Test.YtdmlhiailjnhcaaGreatDoorJnXal
import Derived.Test.YtdmlhiailjnhcaaGreatDoorJnXag
import Derived.Test.YtdmlhiailjnhcaaGreatDoorJnXah
import Derived.Test.YtdmlhiailjnhcaaGreatDoorJnXaj
import Derived.Lib.CutLaws
import Derived.Lib.IndexBytes
import Derived.Lib.IndexLaws
namespace Go.Proofs.YtdmlhiailjnhcaaGreatDoor.ctr
open Go.RowKit
def lineD (c y m d : Int) : Int := first c y + before c y (m - 1).toNat + d - 1
theorem lineD_dayOf {c y m d : Int} (h : dateP c y m d) : dayOf c y m d = lineD c y m d := by unfold dayOf lineD; rw [if_pos h]
def start (c s y : Int) : Int :=
 if s = 1 then lineD c y 3 1
 else if s = 2 then lineD c y 3 25
 else if s = 3 then lineD c (y - 1) 3 25
 else if s = 4 then easL c y
 else if s = 5 then lineD c (y - 1) 9 1
 else if s = 6 then lineD c (y - 1) 12 25
 else first c y
theorem start_0 (c y : Int) : start c 0 y = lineD c y 1 1 := by
 unfold start lineD
 rw [if_neg (by omega), if_neg (by omega), if_neg (by omega), if_neg (by omega), if_neg (by omega), if_neg (by omega), show ((1 : Int) - 1).toNat = 0 from rfl]
 simp only [before]
 omega
theorem start_1 (c y : Int) : start c 1 y = lineD c y 3 1 := by unfold start; rw [if_pos rfl]
theorem start_2 (c y : Int) : start c 2 y = lineD c y 3 25 := by unfold start; rw [if_neg (by omega), if_pos rfl]
theorem start_3 (c y : Int) : start c 3 y = lineD c (y - 1) 3 25 := by unfold start; rw [if_neg (by omega), if_neg (by omega), if_pos rfl]
theorem start_4 (c y : Int) : start c 4 y = easL c y := by unfold start; rw [if_neg (by omega), if_neg (by omega), if_neg (by omega), if_pos rfl]
theorem start_5 (c y : Int) : start c 5 y = lineD c (y - 1) 9 1 := by unfold start; rw [if_neg (by omega), if_neg (by omega), if_neg (by omega), if_neg (by omega), if_pos rfl]
theorem start_6 (c y : Int) : start c 6 y = lineD c (y - 1) 12 25 := by unfold start; rw [if_neg (by omega), if_neg (by omega), if_neg (by omega), if_neg (by omega), if_neg (by omega), if_pos rfl]
theorem line_in {c y m d : Int} (hc : c = 0 ∨ c = 1) (h1 : 1 ≤ m) (h2 : m ≤ 12) (d1 : 1 ≤ d) (d2 : d ≤ monthDays c y m) : first c y ≤ lineD c y m d ∧ lineD c y m d < first c (y + 1) := by
 have k1 := before_bound c y (m - 1).toNat
 have k2 := before_mono c y (m - 1).toNat 1
 have k3 : before c y ((m - 1).toNat + 1) = before c y (m - 1).toNat + monthDays c y (((m - 1).toNat + 1 : Nat) : Int) := rfl
 have k4 := before_mono c y ((m - 1).toNat + 1) (12 - ((m - 1).toNat + 1))
 rw [show (m - 1).toNat + 1 + (12 - ((m - 1).toNat + 1)) = 12 by omega] at k4
 rw [show (((m - 1).toNat + 1 : Nat) : Int) = m by omega] at k3
 have k5 := first_step hc y
 unfold lineD
 omega
theorem md3 {c y : Int} (hc : c = 0 ∨ c = 1) : monthDays c y 3 = 31 := monthDays_plain (y := y) hc (m := 3) (by omega) (by omega) (by omega)
theorem md4 {c y : Int} (hc : c = 0 ∨ c = 1) : monthDays c y 4 = 30 := monthDays_plain (y := y) hc (m := 4) (by omega) (by omega) (by omega)
theorem md1 {c y : Int} (hc : c = 0 ∨ c = 1) : monthDays c y 1 = 31 := monthDays_plain (y := y) hc (m := 1) (by omega) (by omega) (by omega)
theorem md9 {c y : Int} (hc : c = 0 ∨ c = 1) : monthDays c y 9 = 30 := monthDays_plain (y := y) hc (m := 9) (by omega) (by omega) (by omega)
theorem md12 {c y : Int} (hc : c = 0 ∨ c = 1) : monthDays c y 12 = 31 := monthDays_plain (y := y) hc (m := 12) (by omega) (by omega) (by omega)
theorem easL_in {c y : Int} (hc : c = 0 ∨ c = 1) (h1 : 1 ≤ y) (h2 : y ≤ 4000) : first c y ≤ easL c y ∧ easL c y < first c (y + 1) := by
 have k := easter_fact_at hc h1 h2
 have h3 := md3 (y := y) hc
 have h4 := md4 (y := y) hc
 show first c y ≤ lineD c y (sumE c y / 31) (sumE c y % 31 + 1) ∧ lineD c y (sumE c y / 31) (sumE c y % 31 + 1) < _
 by_cases hm : sumE c y / 31 = 3
 · rw [hm]
   exact line_in hc (by omega) (by omega) (by omega) (by omega)
 · rw [show sumE c y / 31 = 4 by omega]
   exact line_in hc (by omega) (by omega) (by omega) (by omega)
theorem start_in {c s y : Int} (hc : c = 0 ∨ c = 1) (hs : styleP s) (h1 : 1 ≤ y) (h2 : y ≤ 4000) : first c (y - 1) ≤ start c s y ∧ start c s y < first c (y + 1) := by
 have f1 := first_lt hc (show y - 1 < y by omega)
 have f2 := first_lt hc (show y < y + 1 by omega)
 rcases style_cases hs with rfl | rfl | rfl | rfl | rfl | rfl | rfl
 · rw [start_0]
   have k := line_in (c := c) (y := y) (m := 1) (d := 1) hc (by omega) (by omega) (by omega) (by rw [md1 hc]; omega)
   omega
 · rw [start_1]
   have k := line_in (c := c) (y := y) (m := 3) (d := 1) hc (by omega) (by omega) (by omega) (by rw [md3 hc]; omega)
   omega
 · rw [start_2]
   have k := line_in (c := c) (y := y) (m := 3) (d := 25) hc (by omega) (by omega) (by omega) (by rw [md3 hc]; omega)
   omega
 · rw [start_3]
   have k := line_in (c := c) (y := y - 1) (m := 3) (d := 25) hc (by omega) (by omega) (by omega) (by rw [md3 hc]; omega)
   rw [show y - 1 + 1 = y by omega] at k
   omega
 · rw [start_4]
   have k := easL_in hc h1 h2
   omega
 · rw [start_5]
   have k := line_in (c := c) (y := y - 1) (m := 9) (d := 1) hc (by omega) (by omega) (by omega) (by rw [md9 hc]; omega)
   rw [show y - 1 + 1 = y by omega] at k
   omega
 · rw [start_6]
   have k := line_in (c := c) (y := y - 1) (m := 12) (d := 25) hc (by omega) (by omega) (by omega) (by rw [md12 hc]; omega)
   rw [show y - 1 + 1 = y by omega] at k
   omega
theorem start_lt {c s y : Int} (hc : c = 0 ∨ c = 1) (hs : styleP s) (h1 : 1 ≤ y) (h2 : y ≤ 3999) : start c s y < start c s (y + 1) := by
 rcases style_cases hs with rfl | rfl | rfl | rfl | rfl | rfl | rfl
 · rw [start_0, start_0]
   have k := line_in (c := c) (y := y) (m := 1) (d := 1) hc (by omega) (by omega) (by omega) (by rw [md1 hc]; omega)
   have k' := line_in (c := c) (y := y + 1) (m := 1) (d := 1) hc (by omega) (by omega) (by omega) (by rw [md1 hc]; omega)
   omega
 · rw [start_1, start_1]
   have k := line_in (c := c) (y := y) (m := 3) (d := 1) hc (by omega) (by omega) (by omega) (by rw [md3 hc]; omega)
   have k' := line_in (c := c) (y := y + 1) (m := 3) (d := 1) hc (by omega) (by omega) (by omega) (by rw [md3 hc]; omega)
   omega
 · rw [start_2, start_2]
   have k := line_in (c := c) (y := y) (m := 3) (d := 25) hc (by omega) (by omega) (by omega) (by rw [md3 hc]; omega)
   have k' := line_in (c := c) (y := y + 1) (m := 3) (d := 25) hc (by omega) (by omega) (by omega) (by rw [md3 hc]; omega)
   omega
 · rw [start_3, start_3, show y + 1 - 1 = y by omega]
   have k := line_in (c := c) (y := y - 1) (m := 3) (d := 25) hc (by omega) (by omega) (by omega) (by rw [md3 hc]; omega)
   have k' := line_in (c := c) (y := y) (m := 3) (d := 25) hc (by omega) (by omega) (by omega) (by rw [md3 hc]; omega)
   rw [show y - 1 + 1 = y by omega] at k
   omega
 · rw [start_4, start_4]
   have k := easL_in hc h1 (by omega)
   have k' := easL_in (y := y + 1) hc (by omega) (by omega)
   omega
 · rw [start_5, start_5, show y + 1 - 1 = y by omega]
   have k := line_in (c := c) (y := y - 1) (m := 9) (d := 1) hc (by omega) (by omega) (by omega) (by rw [md9 hc]; omega)
   have k' := line_in (c := c) (y := y) (m := 9) (d := 1) hc (by omega) (by omega) (by omega) (by rw [md9 hc]; omega)
   rw [show y - 1 + 1 = y by omega] at k
   omega
 · rw [start_6, start_6, show y + 1 - 1 = y by omega]
   have k := line_in (c := c) (y := y - 1) (m := 12) (d := 25) hc (by omega) (by omega) (by omega) (by rw [md12 hc]; omega)
   have k' := line_in (c := c) (y := y) (m := 12) (d := 25) hc (by omega) (by omega) (by omega) (by rw [md12 hc]; omega)
   rw [show y - 1 + 1 = y by omega] at k
   omega
theorem start_bound {c s y : Int} (hc : c = 0 ∨ c = 1) (hs : styleP s) (h1 : 1 ≤ y) (h2 : y ≤ 3900) : -2800 ≤ start c s y ∧ start c s y ≤ 1470000 := by
 have k := start_in hc hs h1 (by omega)
 have k1 := first_bound hc (show -5 ≤ y - 1 by omega) (show y - 1 ≤ 4000 by omega)
 have k2 := first_bound hc (show -5 ≤ y + 1 by omega) (show y + 1 ≤ 4000 by omega)
 omega
def rawYear (c s Y n : Int) : Int := if n < start c s Y then Y - 1 else if n < start c s (Y + 1) then Y else Y + 1
theorem raw_lo {c s Y n : Int} (h : n < start c s Y) : rawYear c s Y n = Y - 1 := by unfold rawYear; rw [if_pos h]
theorem raw_mid {c s Y n : Int} (h : ¬ n < start c s Y) (h' : n < start c s (Y + 1)) : rawYear c s Y n = Y := by unfold rawYear; rw [if_neg h, if_pos h']
theorem raw_hi {c s Y n : Int} (h : ¬ n < start c s Y) (h' : ¬ n < start c s (Y + 1)) : rawYear c s Y n = Y + 1 := by unfold rawYear; rw [if_neg h, if_neg h']
theorem start_far {c s Y n : Int} (hc : c = 0 ∨ c = 1) (hs : styleP s) (h1 : 1 ≤ Y) (h2 : Y ≤ 3000) (hn : n < first c (Y + 1)) : n < start c s (Y + 2) := by
 have k := start_in (y := Y + 2) hc hs (by omega) (by omega)
 rw [show Y + 2 - 1 = Y + 1 by omega] at k
 omega
theorem raw_iff {c s Y n y : Int} (hc : c = 0 ∨ c = 1) (hs : styleP s) (h1 : 1 ≤ Y) (h2 : Y ≤ 3000) (hn1 : first c Y ≤ n) (hn2 : n < first c (Y + 1)) (y1 : 1 ≤ y) (y2 : y ≤ 3000) : rawYear c s Y n = y ↔ start c s y ≤ n ∧ n < start c s (y + 1) := by
 have hf := start_far hc hs h1 h2 hn2
 have hl : 2 ≤ Y → start c s (Y - 1) ≤ n := fun h => by
  have k := start_in (y := Y - 1) hc hs (by omega) (by omega)
  rw [show Y - 1 + 1 = Y by omega] at k
  omega
 constructor
 · intro h
   by_cases a : n < start c s Y
   · rw [raw_lo a] at h
     subst h
     rw [show Y - 1 + 1 = Y by omega]
     exact ⟨hl (by omega), a⟩
   · by_cases b : n < start c s (Y + 1)
     · rw [raw_mid a b] at h
       subst h
       exact ⟨by omega, b⟩
     · rw [raw_hi a b] at h
       subst h
       rw [show Y + 1 + 1 = Y + 2 by omega]
       exact ⟨by omega, hf⟩
 · rintro ⟨g1, g2⟩
   -- y is one of Y - 1, Y, Y + 1
   have mono : ∀ k : Nat, ∀ z : Int, 1 ≤ z → z + k ≤ 3900 → start c s z ≤ start c s (z + k) := fun k => by
    induction k with
    | zero => intro z _ _; simp
    | succ k ih =>
     intro z h h'
     have a := ih z h (by omega)
     have b := start_lt (y := z + k) hc hs (by omega) (by omega)
     rw [show z + ((k + 1 : Nat) : Int) = z + k + 1 by omega]
     omega
   have hhi : y ≤ Y + 1 := by
    by_cases h : y ≤ Y + 1
    · exact h
    · have m := mono (y - (Y + 2)).toNat (Y + 2) (by omega) (by omega)
      rw [show Y + 2 + ((y - (Y + 2)).toNat : Int) = y by omega] at m
      omega
   have hlo : Y - 1 ≤ y := by
    by_cases h : Y - 1 ≤ y
    · exact h
    · have m := mono (Y - 1 - (y + 1)).toNat (y + 1) (by omega) (by omega)
      rw [show y + 1 + ((Y - 1 - (y + 1)).toNat : Int) = Y - 1 by omega] at m
      have := hl (by omega)
      omega
   rcases (show y = Y - 1 ∨ y = Y ∨ y = Y + 1 by omega) with rfl | rfl | rfl
   · rw [show Y - 1 + 1 = Y by omega] at g2
     exact raw_lo g2
   · exact raw_mid (by omega) g2
   · have := start_lt (y := Y) hc hs h1 (by omega)
     exact raw_hi (by omega) (by omega)
noncomputable def styYear (c s n : Int) : Int × Bool :=
 if (dateOf c n).2.2.2.2 = true ∧ styleP s ∧ 1 ≤ rawYear c s (dateOf c n).2.1 n ∧ rawYear c s (dateOf c n).2.1 n ≤ 3000 then (rawYear c s (dateOf c n).2.1 n, true) else (0, false)
theorem sty_none {c s n : Int} (h : dateOf c n = (0, 0, 0, 0, false)) : styYear c s n = (0, false) := by
 unfold styYear
 rw [if_neg (by rw [h]; simp)]
theorem sty_style {c s n : Int} (h : ¬ styleP s) : styYear c s n = (0, false) := by
 unfold styYear
 rw [if_neg (fun k => h k.2.1)]
theorem sty_yes {c s n Y m d : Int} (h : dateOf c n = (c, Y, m, d, true)) (hs : styleP s) (h1 : 1 ≤ rawYear c s Y n) (h2 : rawYear c s Y n ≤ 3000) : styYear c s n = (rawYear c s Y n, true) := by
 unfold styYear
 rw [h]
 exact if_pos ⟨rfl, hs, h1, h2⟩
theorem sty_out {c s n Y m d : Int} (h : dateOf c n = (c, Y, m, d, true)) (h1 : ¬ (1 ≤ rawYear c s Y n ∧ rawYear c s Y n ≤ 3000)) : styYear c s n = (0, false) := by
 unfold styYear
 rw [h]
 exact if_neg (fun k => h1 ⟨k.2.2.1, k.2.2.2⟩)
theorem sty_iff {c s n Y m d y : Int} (hc : c = 0 ∨ c = 1) (h : dateOf c n = (c, Y, m, d, true)) : styYear c s n = (y, true) ↔ styleP s ∧ 1 ≤ y ∧ y ≤ 3000 ∧ start c s y ≤ n ∧ n < start c s (y + 1) := by
 obtain ⟨_, hd, hn⟩ := date_back h
 have hl := line_in hc (dateP_month hd).1 (dateP_month hd).2 hd.2.2.2.1 hd.2.2.2.2
 rw [← lineD_dayOf hd, hn] at hl
 constructor
 · intro k
   by_cases hs : styleP s
   · by_cases hr : 1 ≤ rawYear c s Y n ∧ rawYear c s Y n ≤ 3000
     · rw [sty_yes h hs hr.1 hr.2] at k
       have e : rawYear c s Y n = y := by simpa using congrArg Prod.fst k
       have := (raw_iff hc hs hd.2.1 hd.2.2.1 hl.1 hl.2 (by omega) (by omega)).1 e
       exact ⟨hs, by omega, by omega, this.1, this.2⟩
     · rw [sty_out h hr] at k
       simp at k
   · rw [sty_style hs] at k
     simp at k
 · rintro ⟨hs, y1, y2, g1, g2⟩
   have e := (raw_iff hc hs hd.2.1 hd.2.2.1 hl.1 hl.2 y1 y2).2 ⟨g1, g2⟩
   rw [sty_yes h hs (by omega) (by omega), e]
theorem first_le' {c y z : Int} (hc : c = 0 ∨ c = 1) (h : y ≤ z) : first c y ≤ first c z := by
 by_cases e : y = z
 · subst e; omega
 · have := first_lt hc (show y < z by omega); omega
def solP (c s y m d z : Int) : Prop := yearP c y ∧ styleP s ∧ dateP c z m d ∧ start c s y ≤ lineD c z m d ∧ lineD c z m d < start c s (y + 1)
instance (c s y m d z : Int) : Decidable (solP c s y m d z) := by unfold solP; infer_instance
def plusB : ByteArray := ⟨#[43]⟩
def readParts (w : List ByteArray) : Int × Int :=
 if w.length = 1 then (findFeast (w.getD 0 ⟨#[]⟩), 0)
 else if findFeast (w.getD 0 ⟨#[]⟩) < 0 ∨ 2 < w.length ∨ readDec (w.getD 1 ⟨#[]⟩) < 1 ∨ 99 < readDec (w.getD 1 ⟨#[]⟩) then (-1, 0)
 else (findFeast (w.getD 0 ⟨#[]⟩), readDec (w.getD 1 ⟨#[]⟩))
def readFeast (s : ByteArray) : Int × Int := readParts (cut s 43)
def readTwo (a b : ByteArray) : Int × Int :=
 if findFeast a < 0 ∨ readDec b < 1 ∨ 99 < readDec b then (-1, 0) else (findFeast a, readDec b)
theorem readParts_b (w : List ByteArray) : -1 ≤ (readParts w).1 ∧ (readParts w).1 < 20 ∧ 0 ≤ (readParts w).2 ∧ (readParts w).2 ≤ 99 := by
 have h := find_b (w.getD 0 ⟨#[]⟩)
 unfold readParts
 split
 · exact ⟨h.1, h.2, by simp, by simp⟩
 · split
   · simp
   · rename_i h2
     refine ⟨h.1, h.2, ?_, ?_⟩ <;> simp only <;> omega
theorem readDec_bad (b : ByteArray) (k : Nat) (h : k < b.size) (hk : bAt b k = 43) : readDec b = -1 := by
 apply read_stop b k h
 have h1 := bAt_eq b k h
 rw [hk] at h1
 unfold digB
 exact inB_false (.inl (by omega))
theorem read_split (s : ByteArray) (p : Nat) (hp : p < s.size) (hat : bAt s p = 43) (hno : ∀ j, j < p → bAt s j ≠ 43) : readFeast s = readTwo (s.extract 0 p) (s.extract (p + 1) s.size) := by
 obtain ⟨a1, a2⟩ := parts_none s 43 p hno
 obtain ⟨b1, b2⟩ := parts_hit s 43 p hat
 rw [a1, a2] at b1
 by_cases h : ∃ q, p < q ∧ q < s.size ∧ bAt s q = 43
 · obtain ⟨q, h1, h2, h3⟩ := h
   have hd : readDec (s.extract (p + 1) s.size) = -1 := by
    apply readDec_bad _ (q - (p + 1)) (by rw [ByteArray.size_extract]; omega)
    rw [bAt_ext s (p + 1) (q - (p + 1)), show p + 1 + (q - (p + 1)) = q from by omega]
    exact h3
   have hl : 2 < (cut s 43).length := by
    have c1 := parts_mono s 43 (p + 1) (q - (p + 1))
    have c2 := (parts_hit s 43 q h3).1
    have c3 := parts_mono s 43 (q + 1) (s.size - (q + 1))
    rw [show p + 1 + (q - (p + 1)) = q from by omega] at c1
    rw [show q + 1 + (s.size - (q + 1)) = s.size from by omega] at c3
    rw [b1] at c1
    have c4 : (partsTo s 43 (q + 1)).length = (partsTo s 43 q).length + 1 := by rw [c2, List.length_append]; rfl
    unfold cut
    rw [List.length_append]
    simp at c1 ⊢
    omega
   unfold readFeast readParts readTwo
   rw [if_neg (by omega), if_pos (.inr (.inl hl)), if_pos (.inr (.inl (by omega)))]
 · have hrun := parts_run s 43 (p + 1) (s.size - (p + 1)) (fun j h1 h2 h3 => h ⟨j, by omega, by omega, h3⟩)
   rw [show p + 1 + (s.size - (p + 1)) = s.size from by omega, b1, b2] at hrun
   have hc : cut s 43 = [s.extract 0 p, s.extract (p + 1) s.size] := by
    unfold cut
    rw [hrun.1, hrun.2]
    rfl
   unfold readFeast readParts readTwo
   rw [hc]
   simp
theorem read_plain (s : ByteArray) (h : ∀ j, j < s.size → bAt s j ≠ 43) : readFeast s = (findFeast s, 0) := by
 unfold readFeast readParts
 rw [cut_none s 43 h]
 simp
def plusText (b : ByteArray) (k : Int) : ByteArray := if k = 0 then b else b ++ plusB ++ itoaB k
def textIn (c y n : Int) (mv : Bool) : ByteArray := if (lastTo c y n mv 20).1.size = 0 ∨ 99 < n - (lastTo c y n mv 20).2 then ⟨#[]⟩ else plusText (lastTo c y n mv 20).1 (n - (lastTo c y n mv 20).2)
end Go.Proofs.YtdmlhiailjnhcaaGreatDoor.ctr
