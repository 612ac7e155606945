/- Contract of the program's SolarYears: it answers, in a row of its own, the years of 1 January in which a month's day of a year of a style stands; nothing that was there turns. -/
import Derived.Test.YtghmlaflbopolaaDoorStySol
namespace Go.Proofs.YtghmlaflbopolaaDoor.ctr
open Go.RowKit

theorem filt_step (f : Int → Bool) (l : List Int) (k : Nat) (h : k < l.length) : (l.take (k + 1)).filter f = (l.take k).filter f ++ (if f (l.getD k 0) = true then [l.getD k 0] else []) := by
  rw [List.take_succ_eq_append_getElem h, List.filter_append, show l.getD k 0 = l[k] from by simp [List.getD, h]]
  by_cases g : f l[k] = true <;> simp [g]
/-- The three years as the program has them. -/
def three (y : Int) : List Int := [wrap64 (y - 1), y, wrap64 (y + 1)]
def keepTo (c s y m d : Int) (k : Nat) : List Int := ((three y).take k).filter (solB c s y m d)
theorem keep_hit {c s y m d : Int} {k : Nat} (h : k < 3) (hb : solB c s y m d ((three y).getD k 0) = true) : keepTo c s y m d (k + 1) = keepTo c s y m d k ++ [(three y).getD k 0] := by
  unfold keepTo
  rw [filt_step _ _ _ (by exact h), if_pos hb]
theorem keep_miss {c s y m d : Int} {k : Nat} (h : k < 3) (hb : solB c s y m d ((three y).getD k 0) = false) : keepTo c s y m d (k + 1) = keepTo c s y m d k := by
  unfold keepTo
  rw [filt_step _ _ _ (by exact h), if_neg (by rw [hb]; simp), List.append_nil]
theorem keep_len (c s y m d : Int) (k : Nat) : (keepTo c s y m d k).length ≤ 3 := by
  unfold keepTo
  refine Nat.le_trans (List.length_filter_le _ _) ?_
  rw [List.length_take]
  exact Nat.min_le_right _ _
theorem keep_all (c s y m d : Int) : keepTo c s y m d 3 = solarYears c s y m d := by
  by_cases h : yearP c y ∧ styleP s
  · have h1 := h.1.2.1
    have h2 := h.1.2.2
    unfold keepTo three solarYears
    rw [in_range (y - 1) (by omega), in_range (y + 1) (by omega)]
    rfl
  · rw [sol_none h]
    unfold keepTo
    rw [List.filter_eq_nil_iff]
    intro z _
    rw [sol_year h]
    simp
set_option maxRecDepth 100000 in
theorem idx3 (a b e : Int) (k : Nat) (h : k < 3) (w : World) : (Instr.index 59 (.agg #[.int .i64 a, .int .i64 b, .int .i64 e]) (.int .i64 (k : Int))).run Tryd.prog w = .ok (.int .i64 ([a, b, e].getD k 0)) w := by
  have : k = 0 ∨ k = 1 ∨ k = 2 := by omega
  rcases this with rfl | rfl | rfl <;> rfl

set_option maxRecDepth 100000 in
set_option maxHeartbeats 4000000 in
theorem implSolarYears (c s y m d : Int) (w : World) (hT : Tab w) : Calls Tryd.prog 22 #[.int .i64 c, .int .i64 s, .int .i64 y, .int .i64 m, .int .i64 d] w fun e w' => ∃ v, e = .returned v ∧ MovRow w w' v (solarYears c s y m d) ∧ Below w.heap.size w w' := by
  obtain ⟨i0, hi, hz0, hz1, hz2⟩ := info_parts info_int
  have HT := hideP hT
  clear hT
  rw [← keep_all]
  have IX : ∀ (k : Nat), k < 3 → ∀ W, (Instr.index 59 (.agg #[.int .i64 (wrap64 (y - 1)), .int .i64 y, .int .i64 (wrap64 (y + 1))]) (.int .i64 (k : Int))).run Tryd.prog W = .ok (.int .i64 ((three y).getD k 0)) W := fun k h W => idx3 _ _ _ k h W
  obtain ⟨AR, hAR⟩ : ∃ AR : Array Value, AR = #[.int .i64 (wrap64 (y - 1)), .int .i64 y, .int .i64 (wrap64 (y + 1))] := ⟨_, rfl⟩
  rw [← hAR] at IX
  have HAR := hideP hAR
  have HIX := hideP IX
  clear IX hAR
  go_enter Tryd.func22, Tryd.ntmps22
  go_wp2_with fail
  rw [← HAR.out]
  clear HAR
  go_loopw [11, 21] (fun o i wr => ∃ k : Nat, k ≤ 3 ∧ i = .int .i64 (k : Int) ∧ ISt w o (keepTo c s y m d k) wr) (fun _ i _ => 3 - (intOf i).toNat)
  case atStart => exact ⟨0, Nat.zero_le _, rfl, ISt.nil w⟩
  case round =>
    obtain ⟨k, hk, rfl, hS⟩ := hrel
    have S := hideP hS
    clear hS
    have hlen := keep_len c s y m d k
    by_cases hlt : k < 3
    · have hix := HIX.out k hlt
      have H1 : Hid (solB c s y m d ((three y).getD k 0) = true → keepTo c s y m d (k + 1) = keepTo c s y m d k ++ [(three y).getD k 0]) := keep_hit hlt
      have H2 : Hid (solB c s y m d ((three y).getD k 0) = false → keepTo c s y m d (k + 1) = keepTo c s y m d k) := keep_miss hlt
      generalize (three y).getD k 0 = z at *
      generalize keepTo c s y m d k = xs at *
      obtain ⟨V, hV⟩ : ∃ V, V = wr.alloc (.cells #[.int .i64 c, .int .i64 z, .int .i64 m, .int .i64 d] 40) := ⟨_, rfl⟩
      have HV := hideP hV
      have c0 : ∀ x : Later V, x.w.cell? ⟨wr.heap.size, 0, none⟩ = some (.int .i64 c) := Later.new hV 0 rfl
      have c1 : ∀ x : Later V, x.w.cell? ⟨wr.heap.size, 1, none⟩ = some (.int .i64 z) := Later.new hV 1 rfl
      have c2 : ∀ x : Later V, x.w.cell? ⟨wr.heap.size, 2, none⟩ = some (.int .i64 m) := Later.new hV 2 rfl
      have c3 : ∀ x : Later V, x.w.cell? ⟨wr.heap.size, 3, none⟩ = some (.int .i64 d) := Later.new hV 3 rfl
      have SV : Hid (∀ x : Later V, ISt w u11 xs x.w) := fun x => S.out.later (below_of_alloc HV.out x.below)
      have KT : Hid (∀ x : Later V, Tab x.w) := fun x => HT.out.later (SV.out x).below
      have KO : ∀ x : Later V, Calls Tryd.prog 60 #[.agg #[.int .i64 c, .int .i64 z, .int .i64 m, .int .i64 d]] x.w fun e w' => e = .returned (.bool (dateOk c z m d)) ∧ Below x.w.heap.size x.w w' := fun x => implDateOk c z m d x.w (KT.out x)
      have KD : ∀ x : Later V, Calls Tryd.prog 36 #[.agg #[.int .i64 c, .int .i64 z, .int .i64 m, .int .i64 d]] x.w fun e w' => e = .returned (.int .i64 (dayOf c z m d)) ∧ Below x.w.heap.size x.w w' := fun x => implDayOf c z m d x.w (KT.out x)
      have KI : ∀ x : Later V, Calls Tryd.prog 61 #[.int .i64 c, .int .i64 s, .int .i64 y, .int .i64 (dayOf c z m d)] x.w fun e w' => e = .returned (.bool (inYearB c s y (dayOf c z m d))) ∧ Below x.w.heap.size x.w w' := fun x => implIsIn c s y (dayOf c z m d) x.w (KT.out x)
      clear hV
      by_cases hd : dateP c z m d
      · simp only [dateOk_true hd] at KO
        simp only [sol_in hd] at KI
        clear hd
        generalize dayOf c z m d = D at *
        cases hb : solB c s y m d z
        · simp only [hb] at KI
          have HN := hideP (H2.out hb)
          clear hb H1 H2
          go_wp2_with fail
          rw [← HV.out]
          refine (KO ⟨V, Below.refl _ _⟩).mono ?_
          rintro e w1 ⟨rfl, hb⟩
          obtain ⟨x1, rfl⟩ := Later.of hb
          clear hb
          go_wp2_with fail
          refine (KD x1).mono ?_
          rintro e w2 ⟨rfl, hb⟩
          obtain ⟨x2, rfl⟩ := x1.next hb
          clear hb
          go_wp2_with fail
          refine (KI x2).mono ?_
          rintro e w3 ⟨rfl, hb⟩
          obtain ⟨x3, rfl⟩ := x2.next hb
          clear hb
          go_wp2
          exact ⟨⟨k + 1, by omega, by go_num, by rw [HN.out]; exact SV.out x3⟩, by simp [intOf]; omega⟩
        · simp only [hb] at KI
          have HN := hideP (H1.out hb)
          clear hb H1 H2
          go_wp2_with fail
          rw [← HV.out]
          refine (KO ⟨V, Below.refl _ _⟩).mono ?_
          rintro e w1 ⟨rfl, hb⟩
          obtain ⟨x1, rfl⟩ := Later.of hb
          clear hb
          go_wp2_with fail
          refine (KD x1).mono ?_
          rintro e w2 ⟨rfl, hb⟩
          obtain ⟨x2, rfl⟩ := x1.next hb
          clear hb
          go_wp2_with fail
          refine (KI x2).mono ?_
          rintro e w3 ⟨rfl, hb⟩
          obtain ⟨x3, rfl⟩ := x2.next hb
          clear hb
          have S6 := hideP (SV.out x3)
          go_wp2_with (at_builtin; refine wpList_append_own _ rfl _ _ 31 rfl w.heap.size 3 i0 (.int .i64 0) 1 8 Tryd.underlying31 hi hz0 hz1 hz2 rfl (by decide) _ _ _ rfl (S6.out.row.alloc _) ⟨x3.w.heap.size, 0, none⟩ 1 1 [.int .i64 z] rfl rfl (cell_one_new _ _ _) (by simp [Value.oneCell']) (by unfold maxLen; omega) (by omega) (by have := S6.out.below.size; rw [inew]; omega) ?_; intro v' w9 hown' hgrow _)
          refine ⟨⟨k + 1, by omega, by go_num, ?_⟩, by simp [intOf]; omega⟩
          rw [HN.out]
          exact S6.out.app z hown' hgrow
      · simp only [dateOk_false hd] at KO
        have HN := hideP (H2.out (sol_date hd))
        clear hd H1 H2 KD KI
        go_wp2_with fail
        rw [← HV.out]
        refine (KO ⟨V, Below.refl _ _⟩).mono ?_
        rintro e w1 ⟨rfl, hb⟩
        obtain ⟨x1, rfl⟩ := Later.of hb
        clear hb
        go_wp2
        exact ⟨⟨k + 1, by omega, by go_num, by rw [HN.out]; exact SV.out x1⟩, by simp [intOf]; omega⟩
    · have hk3 : k = 3 := by omega
      have HK := hideP hk3
      have hge : ¬ (k : Int) < 3 := by omega
      clear hk3
      go_wp2
      go_ret
      obtain rfl : k = 3 := HK.out
      exact ⟨_, rfl, own_ints S.out.row, S.out.below⟩
end Go.Proofs.YtghmlaflbopolaaDoor.ctr
