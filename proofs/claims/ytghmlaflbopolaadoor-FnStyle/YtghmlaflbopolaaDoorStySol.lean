/- Contracts of SolarYears of both sides: each answers, in a row of its own, the years of 1 January in which a month's day of a year of a style stands; nothing that was there turns. -/
import Derived.Test.YtghmlaflbopolaaDoorStyFun
import Derived.Test.YtghmlaflbopolaaDoorIntKit
namespace Go.Proofs.YtghmlaflbopolaaDoor.ctr
open Go.RowKit

theorem ibase {w : World} {base e size : Nat} {v : Value} {n : Nat} {xs : List Value} (h : w.ownsRow base e size v n xs) : ∀ k, v.ownBlock = some k → base ≤ k := by
  intro k hk
  rcases h.2 with ⟨rfl, _⟩ | ⟨g, cap, cur, rfl, hb, _⟩
  · cases hk
  · have : k = g := by simpa [Value.ownBlock] using hk.symm
    omega
theorem inew (W : World) (o : Obj) : (W.alloc o).heap.size = W.heap.size + 1 := by simp [World.alloc, -World.alloc_eq]
theorem iown_empty (w : World) (e : TypeId) : (w.alloc (.cells #[] e)).ownsRow w.heap.size e 1 (.slice (some ⟨w.heap.size, 0, none⟩) 0 0) 0 [] :=
  ⟨rfl, .inr ⟨w.heap.size, 0, #[], rfl, Nat.le_refl _, by simp [World.alloc, -World.alloc_eq], Nat.le_refl _, Nat.zero_le _, rfl, rfl⟩⟩
theorem iown_later {w w' : World} {base e size : Nat} {v : Value} {n : Nat} {xs : List Value} (h : w.ownsRow base e size v n xs) (hb : Below w.heap.size w w') : w'.ownsRow base e size v n xs :=
  h.kept (row := none) ⟨hb.os, hb.tape, hb.output, hb.size, fun k hk _ => hb.block k hk⟩ (Classical.em _)
/-- The state of a loop that puts ints together: they lie in a row of their own. -/
structure ISt (w : World) (o : Value) (xs : List Int) (W : World) : Prop where
  row : W.ownsRow w.heap.size 3 1 o xs.length (xs.map (Value.int .i64))
  below : Below w.heap.size w W
theorem ISt.later {w : World} {o : Value} {xs : List Int} {W W' : World} (h : ISt w o xs W) (hb : Below W.heap.size W W') : ISt w o xs W' := ⟨iown_later h.row hb, h.below.trans (hb.mono h.below.size)⟩
theorem ISt.app {w : World} {o o' : Value} {xs : List Int} {W W' : World} {ob : Obj} (h : ISt w o xs W) (z : Int) (hr : W'.ownsRow w.heap.size 3 1 o' (xs.length + 1) (xs.map (Value.int .i64) ++ [.int .i64 z])) (hg : (W.alloc ob).grownBy W' o.ownBlock) : ISt w o' (xs ++ [z]) W' := by
  refine ⟨?_, (h.below.alloc h.below.size ob).grown hg (by have := h.below.size; rw [inew]; omega) (ibase h.row)⟩
  rw [List.length_append, List.map_append]
  exact hr
theorem ISt.nil (w : World) : ISt w (.slice none 0 0) [] w := ⟨World.ownsRow_nil _ _ _ _, Below.refl _ _⟩

/-- The first k of the three years that are told. -/
def solTo (c s y m d : Int) (k : Nat) : List Int := ([y - 1, y, y + 1].take k).filter (solB c s y m d)
theorem solTo_all (c s y m d : Int) : solTo c s y m d 3 = solarYears c s y m d := rfl
theorem solTo_len (c s y m d : Int) (k : Nat) (h : k ≤ 3) : (solTo c s y m d k).length ≤ 3 := by
  unfold solTo
  refine Nat.le_trans (List.length_filter_le _ _) ?_
  simp
  omega
theorem solTo_step (c s y m d : Int) (k : Nat) (h : k < 3) : solTo c s y m d (k + 1) = solTo c s y m d k ++ (if solB c s y m d (y - 1 + k) = true then [y - 1 + k] else []) := by
  have : k = 0 ∨ k = 1 ∨ k = 2 := by omega
  rcases this with rfl | rfl | rfl
  · unfold solTo
    rw [show y - 1 + ((0 : Nat) : Int) = y - 1 by simp]
    by_cases h : solB c s y m d (y - 1) = true <;> simp [List.filter, h]
  · unfold solTo
    rw [show y - 1 + ((1 : Nat) : Int) = y by omega]
    by_cases h0 : solB c s y m d (y - 1) = true <;> by_cases h : solB c s y m d y = true <;> simp [h, h0]
  · unfold solTo
    rw [show y - 1 + ((2 : Nat) : Int) = y + 1 by omega]
    by_cases h0 : solB c s y m d (y - 1) = true <;> by_cases h1 : solB c s y m d y = true <;> by_cases h : solB c s y m d (y + 1) = true <;> simp [h, h0, h1]
theorem solTo_hit {c s y m d : Int} {k : Nat} (h : k < 3) (hb : solB c s y m d (y - 1 + k) = true) : solTo c s y m d (k + 1) = solTo c s y m d k ++ [y - 1 + k] := by rw [solTo_step c s y m d k h, if_pos hb]
theorem solTo_miss {c s y m d : Int} {k : Nat} (h : k < 3) (hb : solB c s y m d (y - 1 + k) = false) : solTo c s y m d (k + 1) = solTo c s y m d k := by rw [solTo_step c s y m d k h, if_neg (by rw [hb]; simp)]; simp
theorem sol_date {c s y m d z : Int} (h : ¬ dateP c z m d) : solB c s y m d z = false := decide_eq_false (fun k => h k.2.2.1)
theorem sol_year {c s y m d z : Int} (h : ¬ (yearP c y ∧ styleP s)) : solB c s y m d z = false := decide_eq_false (fun k => h ⟨k.1, k.2.1⟩)
theorem sol_inB {c s y m d z : Int} (hy : yearP c y) (hs : styleP s) (h : dateP c z m d) : solB c s y m d z = inB (lineD c z m d) (start c s y) (start c s (y + 1) - 1) := by
  unfold solB
  by_cases k : solP c s y m d z
  · rw [decide_eq_true k, inB_true k.2.2.2.1 (by have := k.2.2.2.2; omega)]
  · rw [decide_eq_false k]
    symm
    apply inB_false
    by_cases a : lineD c z m d < start c s y
    · exact .inl a
    · right
      by_cases b : start c s (y + 1) - 1 < lineD c z m d
      · exact b
      · exact absurd ⟨hy, hs, h, by omega, by omega⟩ k
theorem sol_in {c s y m d z : Int} (h : dateP c z m d) : inYearB c s y (dayOf c z m d) = solB c s y m d z := by
  unfold inYearB solB
  have k := sol_iff (s := s) (y := y) h
  generalize styYear c s (dayOf c z m d) = p at *
  obtain ⟨a, b⟩ := p
  cases b
  · have e : ¬ solP c s y m d z := fun g => by have := k.2 g; simp at this
    rw [decide_eq_false e]
    rfl
  · simp only [Bool.true_and]
    congr 1
    apply propext
    rw [← k]
    simp

set_option maxHeartbeats 4000000 in
theorem specSolarYears (c s y m d : Int) (w : World) : Calls Tryd.prog 31 #[.int .i64 c, .int .i64 s, .int .i64 y, .int .i64 m, .int .i64 d] w fun e w' => ∃ v, e = .returned v ∧ MovRow w w' v (solarYears c s y m d) ∧ Below w.heap.size w w' := by
  obtain ⟨i0, hi, hz0, hz1, hz2⟩ := info_parts info_int
  have KY : ∀ W, Calls Tryd.prog 65 #[.int .i64 c, .int .i64 s, .int .i64 y] W fun e w' => e = .returned (.bool (yearB c y && styleB s)) ∧ Below W.heap.size W w' := fun W => specYear6 c s y W
  by_cases h : yearP c y ∧ styleP s
  · simp only [yB_true h] at KY
    have hy1 := h.1.2.1
    have hy2 := h.1.2.2
    have K0 : ∀ W, Calls Tryd.prog 57 #[.int .i64 c, .int .i64 s, .int .i64 y] W fun e w' => e = .returned (.int .i64 (start c s y)) ∧ Below W.heap.size W w' := fun W => specStart c s y W h.1.1 h.2 (by omega) (by omega)
    have K1 : ∀ W, Calls Tryd.prog 57 #[.int .i64 c, .int .i64 s, .int .i64 (y + 1)] W fun e w' => e = .returned (.int .i64 (start c s (y + 1))) ∧ Below W.heap.size W w' := fun W => specStart c s (y + 1) W h.1.1 h.2 (by omega) (by omega)
    have hb1 := start_bound h.1.1 h.2 hy1 (show y ≤ 3900 by omega)
    have hb2 := start_bound h.1.1 h.2 (show 1 ≤ y + 1 by omega) (show y + 1 ≤ 3900 by omega)
    have HX : Hid (∀ z, dateP c z m d → solB c s y m d z = inB (lineD c z m d) (start c s y) (start c s (y + 1) - 1)) := fun z hz => sol_inB h.1 h.2 hz
    have HC := hideP h.1.1
    rw [← solTo_all]
    clear h
    generalize start c s (y + 1) = R1 at *
    generalize start c s y = R0 at *
    go_enter Tryd.func31, Tryd.ntmps31
    go_wp2_with fail
    go_loopw [11, 12] (fun o i wr => ∃ k : Nat, k ≤ 3 ∧ i = .int .i64 (y - 1 + k) ∧ ISt w o (solTo c s y m d k) wr) (fun _ i _ => (4000 - intOf i).toNat)
    case atStart => exact ⟨0, Nat.zero_le _, by simp, iown_empty w _, (Below.refl _ _).alloc (Nat.le_refl _) _⟩
    case round =>
      obtain ⟨k, hk, rfl, hS⟩ := hrel
      have S := hideP hS
      clear hS
      have hlen := solTo_len c s y m d k hk
      by_cases hlt : k < 3
      · have KO : ∀ W, Calls Tryd.prog 69 #[.agg #[.int .i64 c, .int .i64 (y - 1 + k), .int .i64 m, .int .i64 d]] W fun e w' => e = .returned (.bool (dateOk c (y - 1 + k) m d)) ∧ Below W.heap.size W w' := fun W => specDateOk c (y - 1 + k) m d W
        have hle : y - 1 + (k : Int) ≤ y + 1 := by omega
        by_cases hd : dateP c (y - 1 + k) m d
        · simp only [dateOk_true hd] at KO
          have hx := HX.out _ hd
          have hmm := dateP_month hd
          have hdd := dateP_day hd
          have KL : ∀ W, Calls Tryd.prog 67 #[.int .i64 c, .int .i64 (y - 1 + k), .int .i64 m, .int .i64 d] W fun e w' => e = .returned (.int .i64 (lineD c (y - 1 + k) m d)) ∧ Below W.heap.size W w' := fun W => specDay c (y - 1 + k) m d W HC.out (by omega) (by omega) (by omega) (by omega) (by omega)
          have KI : ∀ W, Calls Tryd.prog 58 #[.int .i64 (lineD c (y - 1 + k) m d), .int .i64 R0, .int .i64 (R1 - 1)] W fun e w' => e = .returned (.bool (inB (lineD c (y - 1 + k) m d) R0 (R1 - 1))) ∧ Below W.heap.size W w' := fun W => calls_below (l01In _ _ _ W)
          rw [← hx] at KI
          clear hx hd HX
          cases hb : solB c s y m d (y - 1 + k)
          · simp only [hb] at KI
            have HN := hideP (solTo_miss hlt hb)
            clear hb
            generalize lineD c (y - 1 + k) m d = L at *
            generalize solTo c s y m d k = xs at *
            go_wp2_with fail
            refine (KY _).mono ?_
            rintro e w1 ⟨rfl, hb⟩
            have S1 := hideP (S.out.later hb)
            clear hb
            go_wp2_with fail
            refine (KO _).mono ?_
            rintro e w2 ⟨rfl, hb⟩
            have S2 := hideP (S1.out.later hb)
            clear hb
            go_wp2_with fail
            refine (KL _).mono ?_
            rintro e w3 ⟨rfl, hb⟩
            have S3 := hideP (S2.out.later hb)
            clear hb
            go_wp2_with fail
            refine (K0 _).mono ?_
            rintro e w4 ⟨rfl, hb⟩
            have S4 := hideP (S3.out.later hb)
            clear hb
            go_wp2_with fail
            refine (K1 _).mono ?_
            rintro e w5 ⟨rfl, hb⟩
            have S5 := hideP (S4.out.later hb)
            clear hb
            go_wp2_with fail
            refine (KI _).mono ?_
            rintro e w6 ⟨rfl, hb⟩
            have S6 := hideP (S5.out.later hb)
            clear hb
            go_wp2
            exact ⟨⟨k + 1, by omega, by go_num, by rw [HN.out]; exact S6.out⟩, by simp [intOf]; omega⟩
          · simp only [hb] at KI
            have HN := hideP (solTo_hit hlt hb)
            clear hb
            generalize lineD c (y - 1 + k) m d = L at *
            generalize solTo c s y m d k = xs at *
            go_wp2_with fail
            refine (KY _).mono ?_
            rintro e w1 ⟨rfl, hb⟩
            have S1 := hideP (S.out.later hb)
            clear hb
            go_wp2_with fail
            refine (KO _).mono ?_
            rintro e w2 ⟨rfl, hb⟩
            have S2 := hideP (S1.out.later hb)
            clear hb
            go_wp2_with fail
            refine (KL _).mono ?_
            rintro e w3 ⟨rfl, hb⟩
            have S3 := hideP (S2.out.later hb)
            clear hb
            go_wp2_with fail
            refine (K0 _).mono ?_
            rintro e w4 ⟨rfl, hb⟩
            have S4 := hideP (S3.out.later hb)
            clear hb
            go_wp2_with fail
            refine (K1 _).mono ?_
            rintro e w5 ⟨rfl, hb⟩
            have S5 := hideP (S4.out.later hb)
            clear hb
            go_wp2_with fail
            refine (KI _).mono ?_
            rintro e w6 ⟨rfl, hb⟩
            have S6 := hideP (S5.out.later hb)
            clear hb
            go_wp2_with (at_builtin; refine wpList_append_own _ rfl _ _ 31 rfl w.heap.size 3 i0 (.int .i64 0) 1 8 Tryd.underlying31 hi hz0 hz1 hz2 rfl (by decide) _ _ _ rfl (S6.out.row.alloc _) ⟨w6.heap.size, 0, none⟩ 1 1 [.int .i64 (y - 1 + k)] rfl rfl (cell_one_new _ _ _) (by simp [Value.oneCell']) (by unfold maxLen; omega) (by omega) (by have := S6.out.below.size; rw [inew]; omega) ?_; intro v' w9 hown' hgrow _)
            refine ⟨⟨k + 1, by omega, by go_num, ?_⟩, by simp [intOf]; omega⟩
            rw [HN.out]
            exact S6.out.app (y - 1 + k) hown' hgrow
        · simp only [dateOk_false hd] at KO
          have HN := hideP (solTo_miss hlt (sol_date (s := s) (y := y) hd))
          clear hd HX
          generalize solTo c s y m d k = xs at *
          go_wp2_with fail
          refine (KY _).mono ?_
          rintro e w1 ⟨rfl, hb⟩
          have S1 := hideP (S.out.later hb)
          clear hb
          go_wp2_with fail
          refine (KO _).mono ?_
          rintro e w2 ⟨rfl, hb⟩
          have S2 := hideP (S1.out.later hb)
          clear hb
          go_wp2
          exact ⟨⟨k + 1, by omega, by go_num, by rw [HN.out]; exact S2.out⟩, by simp [intOf]; omega⟩
      · have hk3 : k = 3 := by omega
        have hle : ¬ y - 1 + (k : Int) ≤ y + 1 := by omega
        have HK := hideP hk3
        clear hk3
        go_wp2
        go_ret
        obtain rfl : k = 3 := HK.out
        exact ⟨_, rfl, own_ints S.out.row, S.out.below⟩
  · simp only [yB_false h] at KY
    rw [sol_none h]
    clear h
    go_enter Tryd.func31, Tryd.ntmps31
    go_wp2_with fail
    go_loopw [11, 12] (fun o i wr => i = .int .i64 (wrap64 (y - 1)) ∧ ISt w o [] wr) (fun _ _ _ => 0)
    case atStart => exact ⟨rfl, iown_empty w _, (Below.refl _ _).alloc (Nat.le_refl _) _⟩
    case round =>
      obtain ⟨rfl, hS⟩ := hrel
      have S := hideP hS
      clear hS
      by_cases hle : wrap64 (y - 1) ≤ wrap64 (y + 1)
      · have hd : decide (wrap64 (y - 1) ≤ wrap64 (y + 1)) = true := decide_eq_true hle
        go_wp2_with fail
        refine (KY _).mono ?_
        rintro e w1 ⟨rfl, hb⟩
        have S1 := hideP (S.out.later hb)
        clear hb
        go_wp2
        go_ret
        exact ⟨_, rfl, own_ints S1.out.row, S1.out.below⟩
      · have hd : decide (wrap64 (y - 1) ≤ wrap64 (y + 1)) = false := decide_eq_false hle
        go_wp2
        go_ret
        exact ⟨_, rfl, own_ints S.out.row, S.out.below⟩
end Go.Proofs.YtghmlaflbopolaaDoor.ctr
