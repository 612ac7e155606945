/- Contracts of both ReadingText: at every reading whose calendar and month there are, the calendar's name, the year, the solar year, the month's name and the day, a blank between two; else the empty text. -/
import Derived.Test.YteebgakbeoiflaaDoorRdgCtr
import Derived.Test.YteebgakbeoiflaaDoorDatTx
import Derived.Test.YteebgakbeoiflaaDoorMonCtr
import Derived.Test.YteebgakbeoiflaaDoorIntOpenW
namespace Go.Proofs.YteebgakbeoiflaaDoor.ctr
open Go.RowKit

abbrev b32 : ByteArray := ⟨#[32]⟩
def rdgTx (x : Rdg) : ByteArray := if calText x.cal = ⟨#[]⟩ ∨ monthText x.mon = ⟨#[]⟩ then ⟨#[]⟩ else calText x.cal ++ b32 ++ decN x.year ++ b32 ++ decN x.sol ++ b32 ++ monthText x.mon ++ b32 ++ decN x.day
def RdgW (x : Rdg) : Prop := ∀ z ∈ rdgK.iv x, (Lit.int .i64 z).wf = true
theorem rdgW_nums {x : Rdg} (h : RdgW x) : (-9223372036854775808 ≤ x.year ∧ x.year ≤ 9223372036854775807) ∧ (-9223372036854775808 ≤ x.sol ∧ x.sol ≤ 9223372036854775807) ∧ (-9223372036854775808 ≤ x.day ∧ x.day ≤ 9223372036854775807) := by
  have h1 := kit.wf_bounds (h x.year (by simp [rdgK]))
  have h2 := kit.wf_bounds (h x.sol (by simp [rdgK]))
  have h3 := kit.wf_bounds (h x.day (by simp [rdgK]))
  exact ⟨h1, h2, h3⟩
theorem emp_yes {s : ByteArray} (h : s = ⟨#[]⟩) : s.toList.isEmpty = true := by rw [ByteArray.toList_eq, h]; rfl
theorem emp_no {s : ByteArray} (h : ¬ s = ⟨#[]⟩) : s.toList.isEmpty = false := by
  rw [ByteArray.toList_eq]
  simp
  intro e
  exact h (by obtain ⟨d⟩ := s; exact congrArg ByteArray.mk e)
theorem monthT_small (m : Int) : (monthText m).size ≤ 3 := by
  by_cases h : 1 ≤ m ∧ m ≤ 12
  · rcases mon_cases h.1 h.2 with rfl | rfl | rfl | rfl | rfl | rfl | rfl | rfl | rfl | rfl | rfl | rfl <;> decide
  · rw [monthText_no (by omega)]
    decide
abbrev Mons (w : World) : Prop := kit.StrIs Tryd.prog w "loop.example/g00638/impl.monthNames" mons
theorem mons_later {w w1 : World} (h : Mons w) (hb : Below w.heap.size w w1) : Mons w1 := kit.StrIs.below h hb (g := 0) (by kernel_rfl)

set_option maxHeartbeats 4000000 in
theorem implReadingText (x : Rdg) (hx : RdgW x) (w : World) (hM : ∀ W, Below w.heap.size w W → Mons W) (hP : PowN w) : Calls Tryd.prog 10 #[rdgV x] w fun e w' => e = .returned (.string (rdgTx x)) ∧ Below w.heap.size w w' := by
  obtain ⟨W0, hW0, c0, c1, c2, c3, c4, hBl⟩ := rdg_box w x 28
  have HW0 := hideP hW0
  have HBl := hideP hBl
  obtain ⟨⟨y0, y1⟩, ⟨s0, s1⟩, ⟨d0, d1⟩⟩ := rdgW_nums hx
  have KC : ∀ z : Later W0, Calls Tryd.prog 16 #[.int .i64 x.cal] z.w fun e w' => e = .returned (.string (calText x.cal)) ∧ Below z.w.heap.size z.w w' := fun z => (implCalName x.cal z.w).mono fun _ _ h => ⟨h.1, by rw [h.2]; exact Below.refl _ _⟩
  have KM : ∀ z : Later W0, Calls Tryd.prog 17 #[.int .i64 x.mon] z.w fun e w' => e = .returned (.string (monthText x.mon)) ∧ Below z.w.heap.size z.w w' := fun z => (implMonthName x.mon z.w (hM _ (hBl z))).mono fun _ _ h => ⟨h.1, by rw [h.2]; exact Below.refl _ _⟩
  have Ky : ∀ z : Later W0, Calls Tryd.prog 18 #[.int .i64 x.year] z.w fun e w' => e = .returned (.string (decN x.year)) ∧ Below z.w.heap.size z.w w' := fun z => implDecText x.year z.w y0 y1 (hP.later (hBl z))
  have Ks : ∀ z : Later W0, Calls Tryd.prog 18 #[.int .i64 x.sol] z.w fun e w' => e = .returned (.string (decN x.sol)) ∧ Below z.w.heap.size z.w w' := fun z => implDecText x.sol z.w s0 s1 (hP.later (hBl z))
  have Kd : ∀ z : Later W0, Calls Tryd.prog 18 #[.int .i64 x.day] z.w fun e w' => e = .returned (.string (decN x.day)) ∧ Below z.w.heap.size z.w w' := fun z => implDecText x.day z.w d0 d1 (hP.later (hBl z))
  have z1 := calT_small x.cal
  have z2 := decN_small y0 y1
  have z3 := decN_small s0 s1
  have z4 := monthT_small x.mon
  have z5 := decN_small d0 d1
  unfold rdgTx
  clear hW0 hBl hx y0 y1 s0 s1 d0 d1 hM hP
  obtain ⟨c, y, s, m, d⟩ := x
  simp only at *
  generalize calText c = tc at *
  generalize monthText m = tm at *
  generalize decN y = ty at *
  generalize decN s = ts at *
  generalize decN d = td at *
  by_cases h1 : tc = ⟨#[]⟩
  · rw [if_pos (.inl h1)]
    have e1 := emp_yes h1
    go_enter Tryd.func10, Tryd.ntmps10
    go_wp2_with fail
    rw [← HW0.out]
    refine wp_region_later (W := W0) (Below.refl _ _) (by kernel_rfl) (by kernel_rfl) ?_
    repeat (go_big_quiet_step (first | (go_at_call 16; exact calls_later (KC _)) | (go_at_call 17; exact calls_later (KM _)) | (go_at_call_of 18 y; exact calls_later (Ky _)) | (go_at_call_of 18 s; exact calls_later (Ks _)) | (go_at_call_of 18 d; exact calls_later (Kd _))))
    refine wpQuiet_nil ?_
    intro _ hw'
    obtain ⟨x1, rfl⟩ := hw'
    go_wp2
    go_ret
    exact ⟨rfl, HBl.out x1⟩
  by_cases h2 : tm = ⟨#[]⟩
  · rw [if_pos (.inr h2)]
    have e1 := emp_no h1
    have e2 := emp_yes h2
    go_enter Tryd.func10, Tryd.ntmps10
    go_wp2_with fail
    rw [← HW0.out]
    refine wp_region_later (W := W0) (Below.refl _ _) (by kernel_rfl) (by kernel_rfl) ?_
    repeat (go_big_quiet_step (first | (go_at_call 16; exact calls_later (KC _)) | (go_at_call 17; exact calls_later (KM _)) | (go_at_call_of 18 y; exact calls_later (Ky _)) | (go_at_call_of 18 s; exact calls_later (Ks _)) | (go_at_call_of 18 d; exact calls_later (Kd _))))
    refine wpQuiet_nil ?_
    intro _ hw'
    obtain ⟨x1, rfl⟩ := hw'
    go_wp2
    go_ret
    exact ⟨rfl, HBl.out x1⟩
  · rw [if_neg (by simp [h1, h2])]
    have e1 := emp_no h1
    have e2 := emp_no h2
    have s1 : (tc ++ (⟨#[32]⟩ : ByteArray)).size ≤ 4 := by rw [ByteArray.size_append]; show _ + 1 ≤ 4; omega
    have s2 : (tc ++ (⟨#[32]⟩ : ByteArray) ++ ty).size ≤ 25 := by rw [ByteArray.size_append]; omega
    have s3 : (tc ++ (⟨#[32]⟩ : ByteArray) ++ ty ++ (⟨#[32]⟩ : ByteArray)).size ≤ 26 := by rw [ByteArray.size_append]; show _ + 1 ≤ 26; omega
    have s4 : (tc ++ (⟨#[32]⟩ : ByteArray) ++ ty ++ (⟨#[32]⟩ : ByteArray) ++ ts).size ≤ 47 := by rw [ByteArray.size_append]; omega
    have s5 : (tc ++ (⟨#[32]⟩ : ByteArray) ++ ty ++ (⟨#[32]⟩ : ByteArray) ++ ts ++ (⟨#[32]⟩ : ByteArray)).size ≤ 48 := by rw [ByteArray.size_append]; show _ + 1 ≤ 48; omega
    have s6 : (tc ++ (⟨#[32]⟩ : ByteArray) ++ ty ++ (⟨#[32]⟩ : ByteArray) ++ ts ++ (⟨#[32]⟩ : ByteArray) ++ tm).size ≤ 51 := by rw [ByteArray.size_append]; omega
    have s7 : (tc ++ (⟨#[32]⟩ : ByteArray) ++ ty ++ (⟨#[32]⟩ : ByteArray) ++ ts ++ (⟨#[32]⟩ : ByteArray) ++ tm ++ (⟨#[32]⟩ : ByteArray)).size ≤ 52 := by rw [ByteArray.size_append]; show _ + 1 ≤ 52; omega
    have s8 : (tc ++ (⟨#[32]⟩ : ByteArray) ++ ty ++ (⟨#[32]⟩ : ByteArray) ++ ts ++ (⟨#[32]⟩ : ByteArray) ++ tm ++ (⟨#[32]⟩ : ByteArray) ++ td).size ≤ 73 := by rw [ByteArray.size_append]; omega
    go_enter Tryd.func10, Tryd.ntmps10
    go_wp2_with fail
    rw [← HW0.out]
    refine wp_region_later (W := W0) (Below.refl _ _) (by kernel_rfl) (by kernel_rfl) ?_
    repeat (go_big_quiet_step (first | (go_at_call 16; exact calls_later (KC _)) | (go_at_call 17; exact calls_later (KM _)) | (go_at_call_of 18 y; exact calls_later (Ky _)) | (go_at_call_of 18 s; exact calls_later (Ks _)) | (go_at_call_of 18 d; exact calls_later (Kd _))))
    refine wpQuiet_nil ?_
    intro _ hw'
    obtain ⟨x1, rfl⟩ := hw'
    go_wp2_with fail
    refine wp_region_later (W := W0) x1.below (by kernel_rfl) (by kernel_rfl) ?_
    repeat (go_big_quiet_step (first | (go_at_call 16; exact calls_later (KC _)) | (go_at_call 17; exact calls_later (KM _)) | (go_at_call_of 18 y; exact calls_later (Ky _)) | (go_at_call_of 18 s; exact calls_later (Ks _)) | (go_at_call_of 18 d; exact calls_later (Kd _))))
    refine wpQuiet_nil ?_
    intro _ hw'
    obtain ⟨x, rfl⟩ := hw'
    go_wp2
    go_ret
    exact ⟨rfl, HBl.out x⟩

set_option maxHeartbeats 4000000 in
theorem specReadingText (x : Rdg) (hx : RdgW x) (w : World) : Calls Tryd.prog 9 #[rdgV x] w fun e w' => e = .returned (.string (rdgTx x)) ∧ Below w.heap.size w w' := by
  obtain ⟨W0, hW0, c0, c1, c2, c3, c4, hBl⟩ := rdg_box w x 28
  have HW0 := hideP hW0
  have HBl := hideP hBl
  obtain ⟨⟨y0, y1⟩, ⟨s0, s1⟩, ⟨d0, d1⟩⟩ := rdgW_nums hx
  have KC : ∀ z : Later W0, Calls Tryd.prog 13 #[.int .i64 x.cal] z.w fun e w' => e = .returned (.string (calText x.cal)) ∧ Below z.w.heap.size z.w w' := fun z => (specCalName x.cal z.w).mono fun _ _ h => ⟨h.1, by rw [h.2]; exact Below.refl _ _⟩
  have KM : ∀ z : Later W0, Calls Tryd.prog 14 #[.int .i64 x.mon] z.w fun e w' => e = .returned (.string (monthText x.mon)) ∧ Below z.w.heap.size z.w w' := fun z => specMonthName x.mon z.w
  have Ky : ∀ z : Later W0, Calls Tryd.prog 15 #[.int .i64 x.year] z.w fun e w' => e = .returned (.string (decN x.year)) ∧ Below z.w.heap.size z.w w' := fun z => (specDecText x.year z.w y0 y1).mono fun _ _ h => ⟨h.1, by rw [h.2]; exact Below.refl _ _⟩
  have Ks : ∀ z : Later W0, Calls Tryd.prog 15 #[.int .i64 x.sol] z.w fun e w' => e = .returned (.string (decN x.sol)) ∧ Below z.w.heap.size z.w w' := fun z => (specDecText x.sol z.w s0 s1).mono fun _ _ h => ⟨h.1, by rw [h.2]; exact Below.refl _ _⟩
  have Kd : ∀ z : Later W0, Calls Tryd.prog 15 #[.int .i64 x.day] z.w fun e w' => e = .returned (.string (decN x.day)) ∧ Below z.w.heap.size z.w w' := fun z => (specDecText x.day z.w d0 d1).mono fun _ _ h => ⟨h.1, by rw [h.2]; exact Below.refl _ _⟩
  have z1 := calT_small x.cal
  have z2 := decN_small y0 y1
  have z3 := decN_small s0 s1
  have z4 := monthT_small x.mon
  have z5 := decN_small d0 d1
  unfold rdgTx
  clear hW0 hBl hx y0 y1 s0 s1 d0 d1
  obtain ⟨c, y, s, m, d⟩ := x
  simp only at *
  generalize calText c = tc at *
  generalize monthText m = tm at *
  generalize decN y = ty at *
  generalize decN s = ts at *
  generalize decN d = td at *
  by_cases h1 : tc = ⟨#[]⟩
  · rw [if_pos (.inl h1)]
    have e1 := emp_yes h1
    go_enter Tryd.func9, Tryd.ntmps9
    go_wp2_with fail
    rw [← HW0.out]
    refine (KC ⟨W0, Below.refl _ _⟩).mono ?_
    rintro e w1 ⟨rfl, hb⟩
    obtain ⟨x0, rfl⟩ := Later.of hb
    clear hb
    go_wp2
    go_ret
    exact ⟨rfl, HBl.out x0⟩
  by_cases h2 : tm = ⟨#[]⟩
  · rw [if_pos (.inr h2)]
    have e1 := emp_no h1
    have e2 := emp_yes h2
    go_enter Tryd.func9, Tryd.ntmps9
    go_wp2_with fail
    rw [← HW0.out]
    refine (KC ⟨W0, Below.refl _ _⟩).mono ?_
    rintro e w1 ⟨rfl, hb⟩
    obtain ⟨x0, rfl⟩ := Later.of hb
    clear hb
    go_wp2_with fail
    refine (KM x0).mono ?_
    rintro e w1 ⟨rfl, hb⟩
    obtain ⟨x1, rfl⟩ := x0.next hb
    clear hb
    go_wp2
    go_ret
    exact ⟨rfl, HBl.out x1⟩
  · rw [if_neg (by simp [h1, h2])]
    have e1 := emp_no h1
    have e2 := emp_no h2
    have s1 : (tc ++ (⟨#[32]⟩ : ByteArray)).size ≤ 4 := by rw [ByteArray.size_append]; show _ + 1 ≤ 4; omega
    have s2 : (tc ++ (⟨#[32]⟩ : ByteArray) ++ ty).size ≤ 25 := by rw [ByteArray.size_append]; omega
    have s3 : (tc ++ (⟨#[32]⟩ : ByteArray) ++ ty ++ (⟨#[32]⟩ : ByteArray)).size ≤ 26 := by rw [ByteArray.size_append]; show _ + 1 ≤ 26; omega
    have s4 : (tc ++ (⟨#[32]⟩ : ByteArray) ++ ty ++ (⟨#[32]⟩ : ByteArray) ++ ts).size ≤ 47 := by rw [ByteArray.size_append]; omega
    have s5 : (tc ++ (⟨#[32]⟩ : ByteArray) ++ ty ++ (⟨#[32]⟩ : ByteArray) ++ ts ++ (⟨#[32]⟩ : ByteArray)).size ≤ 48 := by rw [ByteArray.size_append]; show _ + 1 ≤ 48; omega
    have s6 : (tc ++ (⟨#[32]⟩ : ByteArray) ++ ty ++ (⟨#[32]⟩ : ByteArray) ++ ts ++ (⟨#[32]⟩ : ByteArray) ++ tm).size ≤ 51 := by rw [ByteArray.size_append]; omega
    have s7 : (tc ++ (⟨#[32]⟩ : ByteArray) ++ ty ++ (⟨#[32]⟩ : ByteArray) ++ ts ++ (⟨#[32]⟩ : ByteArray) ++ tm ++ (⟨#[32]⟩ : ByteArray)).size ≤ 52 := by rw [ByteArray.size_append]; show _ + 1 ≤ 52; omega
    have s8 : (tc ++ (⟨#[32]⟩ : ByteArray) ++ ty ++ (⟨#[32]⟩ : ByteArray) ++ ts ++ (⟨#[32]⟩ : ByteArray) ++ tm ++ (⟨#[32]⟩ : ByteArray) ++ td).size ≤ 73 := by rw [ByteArray.size_append]; omega
    go_enter Tryd.func9, Tryd.ntmps9
    go_wp2_with fail
    rw [← HW0.out]
    refine (KC ⟨W0, Below.refl _ _⟩).mono ?_
    rintro e w1 ⟨rfl, hb⟩
    obtain ⟨x0, rfl⟩ := Later.of hb
    clear hb
    go_wp2_with fail
    refine (KM x0).mono ?_
    rintro e w1 ⟨rfl, hb⟩
    obtain ⟨x1, rfl⟩ := x0.next hb
    clear hb
    go_wp2_with fail
    refine wp_region_later (W := W0) x1.below (by kernel_rfl) (by kernel_rfl) ?_
    repeat (go_big_quiet_step (first | (go_at_call 13; exact calls_later (KC _)) | (go_at_call 14; exact calls_later (KM _)) | (go_at_call_of 15 y; exact calls_later (Ky _)) | (go_at_call_of 15 s; exact calls_later (Ks _)) | (go_at_call_of 15 d; exact calls_later (Kd _))))
    refine wpQuiet_nil ?_
    intro _ hw'
    obtain ⟨x, rfl⟩ := hw'
    go_wp2
    go_ret
    exact ⟨rfl, HBl.out x⟩
end Go.Proofs.YteebgakbeoiflaaDoor.ctr
