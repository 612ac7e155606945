/- Contracts of YearText of both sides: each answers its plain function at every two ints, where the library's table of powers of ten holds its numbers; and the plain reading of a text of years. -/
import Derived.Test.YtifekkehbaegiaaGreatDoorDecBack
import Derived.Test.YtifekkehbaegiaaGreatDoorDecImpl
import Derived.Test.YtifekkehbaegiaaGreatDoorTexPlain
import Derived.Test.YtifekkehbaegiaaGreatDoorLaterKit
namespace Go.Proofs.YtifekkehbaegiaaGreatDoor.ctr
open Go.RowKit

abbrev Pow (w : World) : Prop := Lib.TabIs Tryz.prog w "internal/strconv.uint64pow10" .u64 Lib.pow10Tab
theorem pow_later {w w1 : World} (h : Pow w) (hb : Below w.heap.size w w1) : Pow w1 := kit.tab_below h hb (g := 3) (by kernel_rfl)
def strokeB : ByteArray := ⟨#[47]⟩
def txP (y : Int) : Prop := 0 ≤ y ∧ y ≤ 9999
instance (y : Int) : Decidable (txP y) := by unfold txP; infer_instance
def yearText (y z : Int) : ByteArray := if txP y ∧ txP z then (if y = z then itoaB y else itoaB y ++ strokeB ++ itoaB z) else noText
theorem yt_no {y z : Int} (h : ¬ (txP y ∧ txP z)) : yearText y z = noText := by unfold yearText; rw [if_neg h]
theorem yt_one {y : Int} (h : txP y) : yearText y y = itoaB y := by unfold yearText; rw [if_pos ⟨h, h⟩, if_pos rfl]
theorem yt_two {y z : Int} (h : txP y) (h' : txP z) (hn : y ≠ z) : yearText y z = itoaB y ++ strokeB ++ itoaB z := by unfold yearText; rw [if_pos ⟨h, h'⟩, if_neg hn]
theorem tx_in {y : Int} (h : txP y) : inB y 0 9999 = true := inB_true h.1 h.2
theorem tx_out {y : Int} (h : ¬ txP y) : inB y 0 9999 = false := inB_false (by unfold txP at h; omega)
theorem implTxOk (y : Int) (w : World) : Calls Tryz.prog 66 #[.int .i64 y] w fun e w' => e = .returned (.bool (inB y 0 9999)) ∧ w' = w := by
  by_cases h1 : 0 ≤ y
  · by_cases h2 : y ≤ 9999
    · rw [tx_in ⟨h1, h2⟩]
      go_enter Tryz.func66, Tryz.ntmps66
      go_wp2
      go_ret
      exact ⟨rfl, rfl⟩
    · rw [tx_out (fun h => h2 h.2)]
      have hd : decide (y ≤ 9999) = false := decide_eq_false h2
      go_enter Tryz.func66, Tryz.ntmps66
      go_wp2
      go_ret
      exact ⟨rfl, rfl⟩
  · rw [tx_out (fun h => h1 h.1)]
    have hd : decide (0 ≤ y) = false := decide_eq_false h1
    go_enter Tryz.func66, Tryz.ntmps66
    go_wp2
    go_ret
    exact ⟨rfl, rfl⟩
theorem calls_bel {P : Program} {f : FuncId} {args : Array Value} {W : World} {v : Value} (h : Calls P f args W fun e w' => e = .returned v ∧ w' = W) : Calls P f args W fun e w' => e = .returned v ∧ Below W.heap.size W w' :=
  h.mono fun _ _ ⟨he, hm⟩ => ⟨he, by rw [hm]; exact Below.refl _ _⟩

set_option maxHeartbeats 1000000 in
theorem specYearText (y z : Int) (w : World) : Calls Tryz.prog 30 #[.int .i64 y, .int .i64 z] w fun e w' => e = .returned (.string (yearText y z)) ∧ Below w.heap.size w w' := by
  have KY : ∀ x : Later w, Calls Tryz.prog 45 #[.int .i64 y, .int .i64 0, .int .i64 9999] x.w fun e w' => e = .returned (.bool (inB y 0 9999)) ∧ Below x.w.heap.size x.w w' := fun x => calls_bel (l01In y 0 9999 x.w)
  have KZ : ∀ x : Later w, Calls Tryz.prog 45 #[.int .i64 z, .int .i64 0, .int .i64 9999] x.w fun e w' => e = .returned (.bool (inB z 0 9999)) ∧ Below x.w.heap.size x.w w' := fun x => calls_bel (l01In z 0 9999 x.w)
  by_cases hy : txP y
  · simp only [tx_in hy] at KY
    by_cases hz : txP z
    · simp only [tx_in hz] at KZ
      have DY : ∀ x : Later w, Calls Tryz.prog 64 #[.int .i64 y] x.w fun e w' => e = .returned (.string (itoaB y)) ∧ Below x.w.heap.size x.w w' := fun x => by
        have h1 := hy.1
        have h2 := hy.2
        exact calls_bel (specDecText y x.w (by omega) (by omega))
      have DZ : ∀ x : Later w, Calls Tryz.prog 64 #[.int .i64 z] x.w fun e w' => e = .returned (.string (itoaB z)) ∧ Below x.w.heap.size x.w w' := fun x => by
        have h1 := hz.1
        have h2 := hz.2
        exact calls_bel (specDecText z x.w (by omega) (by omega))
      by_cases he : y = z
      · subst he
        rw [yt_one hy]
        clear hy hz DZ
        generalize itoaB y = t at *
        go_enter Tryz.func30, Tryz.ntmps30
        go_wp2_with fail
        refine (KY ⟨w, Below.refl _ _⟩).mono ?_
        rintro e w1 ⟨rfl, hb⟩
        obtain ⟨x1, rfl⟩ := Later.of hb
        clear hb
        go_wp2_with fail
        refine (KZ x1).mono ?_
        rintro e w2 ⟨rfl, hb⟩
        obtain ⟨x2, rfl⟩ := x1.next hb
        clear hb
        go_wp2_with fail
        refine (DY x2).mono ?_
        rintro e w3 ⟨rfl, hb⟩
        obtain ⟨x3, rfl⟩ := x2.next hb
        clear hb
        go_wp2
        go_ret
        exact ⟨rfl, x3.below⟩
      · have hd : decide (y = z) = false := decide_eq_false (fun h => he h)
        rw [yt_two hy hz he]
        have s1 := dec_size hy.1 hy.2
        have s2 := dec_size hz.1 hz.2
        have s3 : (itoaB y ++ (⟨#[47]⟩ : ByteArray)).size ≤ 5 := by rw [ByteArray.size_append]; show (itoaB y).size + 1 ≤ 5; omega
        unfold strokeB
        have he' : y ≠ z := he
        clear hy hz
        generalize itoaB y = t at *
        generalize itoaB z = u at *
        go_enter Tryz.func30, Tryz.ntmps30
        go_wp2_with fail
        refine (KY ⟨w, Below.refl _ _⟩).mono ?_
        rintro e w1 ⟨rfl, hb⟩
        obtain ⟨x1, rfl⟩ := Later.of hb
        clear hb
        go_wp2_with fail
        refine (KZ x1).mono ?_
        rintro e w2 ⟨rfl, hb⟩
        obtain ⟨x2, rfl⟩ := x1.next hb
        clear hb
        go_wp2_with fail
        refine (DY x2).mono ?_
        rintro e w3 ⟨rfl, hb⟩
        obtain ⟨x3, rfl⟩ := x2.next hb
        clear hb
        go_wp2_with fail
        refine (DZ x3).mono ?_
        rintro e w4 ⟨rfl, hb⟩
        obtain ⟨x4, rfl⟩ := x3.next hb
        clear hb
        go_wp2
        go_ret
        exact ⟨rfl, x4.below⟩
    · simp only [tx_out hz] at KZ
      rw [yt_no (fun h => hz h.2)]
      unfold noText
      clear hy hz
      go_enter Tryz.func30, Tryz.ntmps30
      go_wp2_with fail
      refine (KY ⟨w, Below.refl _ _⟩).mono ?_
      rintro e w1 ⟨rfl, hb⟩
      obtain ⟨x1, rfl⟩ := Later.of hb
      clear hb
      go_wp2_with fail
      refine (KZ x1).mono ?_
      rintro e w2 ⟨rfl, hb⟩
      obtain ⟨x2, rfl⟩ := x1.next hb
      clear hb
      go_wp2
      go_ret
      exact ⟨rfl, x2.below⟩
  · simp only [tx_out hy] at KY
    rw [yt_no (fun h => hy h.1)]
    unfold noText
    clear hy KZ
    go_enter Tryz.func30, Tryz.ntmps30
    go_wp2_with fail
    refine (KY ⟨w, Below.refl _ _⟩).mono ?_
    rintro e w1 ⟨rfl, hb⟩
    obtain ⟨x1, rfl⟩ := Later.of hb
    clear hb
    go_wp2
    go_ret
    exact ⟨rfl, x1.below⟩

set_option maxHeartbeats 1000000 in
theorem implYearText (y z : Int) (w : World) (hP : Pow w) : Calls Tryz.prog 29 #[.int .i64 y, .int .i64 z] w fun e w' => e = .returned (.string (yearText y z)) ∧ Below w.heap.size w w' := by
  have HP : Hid (∀ x : Later w, Pow x.w) := fun x => pow_later hP x.below
  clear hP
  have KY : ∀ x : Later w, Calls Tryz.prog 66 #[.int .i64 y] x.w fun e w' => e = .returned (.bool (inB y 0 9999)) ∧ Below x.w.heap.size x.w w' := fun x => calls_bel (implTxOk y x.w)
  have KZ : ∀ x : Later w, Calls Tryz.prog 66 #[.int .i64 z] x.w fun e w' => e = .returned (.bool (inB z 0 9999)) ∧ Below x.w.heap.size x.w w' := fun x => calls_bel (implTxOk z x.w)
  by_cases hy : txP y
  · simp only [tx_in hy] at KY
    by_cases hz : txP z
    · simp only [tx_in hz] at KZ
      have DY : ∀ x : Later w, Calls Tryz.prog 67 #[.int .i64 y] x.w fun e w' => e = .returned (.string (itoaB y)) ∧ Below x.w.heap.size x.w w' := fun x => by
        have h1 := hy.1
        have h2 := hy.2
        exact implDecText y x.w (by omega) (by omega) (HP.out x)
      have DZ : ∀ x : Later w, Calls Tryz.prog 67 #[.int .i64 z] x.w fun e w' => e = .returned (.string (itoaB z)) ∧ Below x.w.heap.size x.w w' := fun x => by
        have h1 := hz.1
        have h2 := hz.2
        exact implDecText z x.w (by omega) (by omega) (HP.out x)
      by_cases he : y = z
      · subst he
        rw [yt_one hy]
        clear hy hz DZ
        generalize itoaB y = t at *
        go_enter Tryz.func29, Tryz.ntmps29
        go_wp2_with fail
        refine (KY ⟨w, Below.refl _ _⟩).mono ?_
        rintro e w1 ⟨rfl, hb⟩
        obtain ⟨x1, rfl⟩ := Later.of hb
        clear hb
        go_wp2_with fail
        refine (KZ x1).mono ?_
        rintro e w2 ⟨rfl, hb⟩
        obtain ⟨x2, rfl⟩ := x1.next hb
        clear hb
        go_wp2_with fail
        refine (DY x2).mono ?_
        rintro e w3 ⟨rfl, hb⟩
        obtain ⟨x3, rfl⟩ := x2.next hb
        clear hb
        go_wp2
        go_ret
        exact ⟨rfl, x3.below⟩
      · have hd : decide (z = y) = false := decide_eq_false (fun h => he h.symm)
        rw [yt_two hy hz he]
        have s1 := dec_size hy.1 hy.2
        have s2 := dec_size hz.1 hz.2
        have s3 : (itoaB y ++ (⟨#[47]⟩ : ByteArray)).size ≤ 5 := by rw [ByteArray.size_append]; show (itoaB y).size + 1 ≤ 5; omega
        unfold strokeB
        have he' : z ≠ y := fun h => he h.symm
        clear hy hz
        generalize itoaB y = t at *
        generalize itoaB z = u at *
        go_enter Tryz.func29, Tryz.ntmps29
        go_wp2_with fail
        refine (KY ⟨w, Below.refl _ _⟩).mono ?_
        rintro e w1 ⟨rfl, hb⟩
        obtain ⟨x1, rfl⟩ := Later.of hb
        clear hb
        go_wp2_with fail
        refine (KZ x1).mono ?_
        rintro e w2 ⟨rfl, hb⟩
        obtain ⟨x2, rfl⟩ := x1.next hb
        clear hb
        go_wp2_with fail
        refine (DY x2).mono ?_
        rintro e w3 ⟨rfl, hb⟩
        obtain ⟨x3, rfl⟩ := x2.next hb
        clear hb
        go_wp2_with fail
        refine (DZ x3).mono ?_
        rintro e w4 ⟨rfl, hb⟩
        obtain ⟨x4, rfl⟩ := x3.next hb
        clear hb
        go_wp2
        go_ret
        exact ⟨rfl, x4.below⟩
    · simp only [tx_out hz] at KZ
      rw [yt_no (fun h => hz h.2)]
      unfold noText
      clear hy hz
      go_enter Tryz.func29, Tryz.ntmps29
      go_wp2_with fail
      refine (KY ⟨w, Below.refl _ _⟩).mono ?_
      rintro e w1 ⟨rfl, hb⟩
      obtain ⟨x1, rfl⟩ := Later.of hb
      clear hb
      go_wp2_with fail
      refine (KZ x1).mono ?_
      rintro e w2 ⟨rfl, hb⟩
      obtain ⟨x2, rfl⟩ := x1.next hb
      clear hb
      go_wp2
      go_ret
      exact ⟨rfl, x2.below⟩
  · simp only [tx_out hy] at KY
    rw [yt_no (fun h => hy h.1)]
    unfold noText
    clear hy KZ
    go_enter Tryz.func29, Tryz.ntmps29
    go_wp2_with fail
    refine (KY ⟨w, Below.refl _ _⟩).mono ?_
    rintro e w1 ⟨rfl, hb⟩
    obtain ⟨x1, rfl⟩ := Later.of hb
    clear hb
    go_wp2
    go_ret
    exact ⟨rfl, x1.below⟩


/-- What the parts of a text of years tell. -/
def rdParts (s : ByteArray) (y z : Int) : Int × Int × Bool := if s.size = 0 ∨ yearText y z ≠ s then (0, 0, false) else (y, z, true)
def readYr (s : ByteArray) : Int × Int × Bool := rdParts s (readDec ((cut s 47).getD 0 ⟨#[]⟩)) (if (cut s 47).length = 2 then readDec ((cut s 47).getD 1 ⟨#[]⟩) else readDec ((cut s 47).getD 0 ⟨#[]⟩))
/-- What a text that is made again tells. -/
def rdText (s t : ByteArray) (y z : Int) : Int × Int × Bool := if t.size = 0 ∨ t ≠ s then (0, 0, false) else (y, z, true)
theorem rd_same (s : ByteArray) (y z : Int) : rdParts s y z = rdText s (yearText y z) y z := by
  unfold rdParts rdText
  by_cases h : yearText y z = s
  · rw [h]
  · rw [if_pos (.inr h), if_pos (.inr h)]
theorem rd_no {s : ByteArray} {y z : Int} (h : yearText y z ≠ s) : rdParts s y z = (0, 0, false) := by unfold rdParts; rw [if_pos (.inr h)]
theorem rd_hit (s : ByteArray) (p : Nat) (hp : p < s.size) (hat : bAt s p = 47) (hno : ∀ j, j < p → bAt s j ≠ 47) : readYr s = rdText s (yearText (readDec (s.extract 0 p)) (readDec (s.extract (p + 1) s.size))) (readDec (s.extract 0 p)) (readDec (s.extract (p + 1) s.size)) := by
  by_cases h : ∃ q, p < q ∧ q < s.size ∧ bAt s q = 47
  · obtain ⟨q, h1, h2, h3⟩ := h
    have hd : readDec (s.extract (p + 1) s.size) = -1 := by
      apply readDec_sign _ (q - (p + 1)) (by rw [ByteArray.size_extract]; omega)
      rw [bAt_ext s (p + 1) (q - (p + 1)), show p + 1 + (q - (p + 1)) = q from by omega, h3]
      omega
    have hl := cut_more s 47 p q h1 h2 hat h3
    rw [hd]
    unfold readYr
    rw [if_neg (by omega)]
    generalize readDec ((cut s 47).getD 0 ⟨#[]⟩) = y
    rw [rd_no]
    · unfold rdText
      rw [yt_no (fun h => by have := h.2.1; omega), if_pos (.inl rfl)]
    · intro e
      by_cases hy : txP y
      · rw [yt_one hy] at e
        have k1 := read_back y hy.1 (by have := hy.2; omega)
        rw [e, readDec_sign s p hp (by rw [hat]; omega)] at k1
        have := hy.1
        omega
      · rw [yt_no (fun h => hy h.1)] at e
        rw [← e] at hp
        exact absurd hp (Nat.not_lt_zero _)
  · have hc := cut_two s 47 p hp hat hno (fun j h1 h2 h3 => h ⟨j, h1, h2, h3⟩)
    unfold readYr
    rw [hc]
    exact rd_same s _ _
theorem rd_miss (s : ByteArray) (hno : ∀ j, j < s.size → bAt s j ≠ 47) : readYr s = rdText s (yearText (readDec s) (readDec s)) (readDec s) (readDec s) := by
  unfold readYr
  rw [cut_none s 47 hno]
  exact rd_same s _ _
end Go.Proofs.YtifekkehbaegiaaGreatDoor.ctr
