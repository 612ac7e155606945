/- Contracts of both DateText: at every date the calendar's name, a blank and the numbers with hyphens; the empty text at what is no date. -/
import Derived.Test.YtioiaefjkmgmdaaDoorSolOkImpl
import Derived.Test.YtioiaefjkmgmdaaDoorDecImpl
import Derived.Lib.ItoaLen
namespace Go.Proofs.YtioiaefjkmgmdaaDoor.ctr
open Go.RowKit

def decN (n : Int) : ByteArray := ⟨(Lib.itoa n).toArray⟩
def dateTx (c y m d : Int) : ByteArray := if dateOk c y m d = true then calText c ++ ⟨#[32]⟩ ++ decN y ++ ⟨#[45]⟩ ++ decN m ++ ⟨#[45]⟩ ++ decN d else ⟨#[]⟩
abbrev PowN (w : World) : Prop := Lib.TabIs Tryd.prog w "internal/strconv.uint64pow10" .u64 Lib.pow10Tab
theorem PowN.later {w w1 : World} (h : PowN w) (hb : Below w.heap.size w w1) : PowN w1 := kit.tab_below h hb (g := 3) (by kernel_rfl)
theorem calT_small (c : Int) : (calText c).size ≤ 3 := by
  unfold calText
  repeat' split
  all_goals decide
theorem decN_small {n : Int} (h0 : -9223372036854775808 ≤ n) (h1 : n ≤ 9223372036854775807) : (decN n).size ≤ 21 := by
  have h := Lib.itoa_length_le n h0 h1
  show (Lib.itoa n).toArray.size ≤ 21
  simpa using h
theorem date_nums {c y m d : Int} (h : dateOk c y m d = true) : 0 ≤ y ∧ y ≤ 3000 ∧ 0 ≤ m ∧ m ≤ 12 ∧ 0 ≤ d ∧ d ≤ 31 := by
  have hP : dateP c y m d := of_decide_eq_true h
  have h1 := dateP_month hP
  have h2 := dateP_day hP
  have h3 := hP.2.1
  have h4 := hP.2.2.1
  omega

set_option maxHeartbeats 2000000 in
theorem implDateText (c y m d : Int) (w : World) (hT : Tab w) (hP : PowN w) : Calls Tryd.prog 8 #[.agg #[.int .i64 c, .int .i64 y, .int .i64 m, .int .i64 d]] w fun e w' => e = .returned (.string (dateTx c y m d)) ∧ Below w.heap.size w w' := by
  obtain ⟨W0, hW0⟩ : ∃ W0, W0 = w.alloc (.cells #[.int .i64 c, .int .i64 y, .int .i64 m, .int .i64 d] 25) := ⟨_, rfl⟩
  have c0 : ∀ x : Later W0, x.w.cell? ⟨w.heap.size, 0, none⟩ = some (.int .i64 c) := Later.new hW0 0 rfl
  have c1 : ∀ x : Later W0, x.w.cell? ⟨w.heap.size, 1, none⟩ = some (.int .i64 y) := Later.new hW0 1 rfl
  have c2 : ∀ x : Later W0, x.w.cell? ⟨w.heap.size, 2, none⟩ = some (.int .i64 m) := Later.new hW0 2 rfl
  have c3 : ∀ x : Later W0, x.w.cell? ⟨w.heap.size, 3, none⟩ = some (.int .i64 d) := Later.new hW0 3 rfl
  have hBl : ∀ x : Later W0, Below w.heap.size w x.w := fun x => below_of_alloc hW0 x.below
  have HW0 := hideP hW0
  have HBl := hideP hBl
  have KO := hideP (implDateOk c y m d W0 (hT.later (hBl ⟨W0, Below.refl _ _⟩)))
  have KC : ∀ z : Later W0, Calls Tryd.prog 18 #[.int .i64 c] z.w fun e w' => e = .returned (.string (calText c)) ∧ w' = z.w := fun z => implCalName c z.w
  have Ky : dateOk c y m d = true → ∀ z : Later W0, Calls Tryd.prog 19 #[.int .i64 y] z.w fun e w' => e = .returned (.string (decN y)) ∧ Below z.w.heap.size z.w w' := fun h z => by
    have := date_nums h
    exact implDecText y z.w (by omega) (by omega) (hP.later (hBl z))
  have Km : dateOk c y m d = true → ∀ z : Later W0, Calls Tryd.prog 19 #[.int .i64 m] z.w fun e w' => e = .returned (.string (decN m)) ∧ Below z.w.heap.size z.w w' := fun h z => by
    have := date_nums h
    exact implDecText m z.w (by omega) (by omega) (hP.later (hBl z))
  have Kd : dateOk c y m d = true → ∀ z : Later W0, Calls Tryd.prog 19 #[.int .i64 d] z.w fun e w' => e = .returned (.string (decN d)) ∧ Below z.w.heap.size z.w w' := fun h z => by
    have := date_nums h
    exact implDecText d z.w (by omega) (by omega) (hP.later (hBl z))
  have hsz : dateOk c y m d = true → (decN y).size ≤ 21 ∧ (decN m).size ≤ 21 ∧ (decN d).size ≤ 21 := fun h => by
    have := date_nums h
    exact ⟨decN_small (by omega) (by omega), decN_small (by omega) (by omega), decN_small (by omega) (by omega)⟩
  have z1 := calT_small c
  unfold dateTx
  clear hW0 hBl hT hP
  generalize dateOk c y m d = b at *
  generalize calText c = tc at *
  generalize decN y = ty at *
  generalize decN m = tm at *
  generalize decN d = td at *
  cases b
  · rw [if_neg (by simp)]
    clear Ky Km Kd hsz
    go_enter Tryd.func8, Tryd.ntmps8
    go_wp2_with fail
    rw [← HW0.out]
    refine KO.out.mono ?_
    rintro e w1 ⟨rfl, hb⟩
    obtain ⟨x1, rfl⟩ := Later.of hb
    clear hb
    go_wp2
    go_ret
    exact ⟨rfl, HBl.out x1⟩
  · rw [if_pos rfl]
    obtain ⟨z2, z3, z4⟩ := hsz rfl
    have Jy := Ky rfl
    have Jm := Km rfl
    have Jd := Kd rfl
    clear Ky Km Kd hsz
    have s1 : (tc ++ (⟨#[32]⟩ : ByteArray)).size ≤ 4 := by rw [ByteArray.size_append]; show tc.size + 1 ≤ 4; omega
    have s2 : (tc ++ (⟨#[32]⟩ : ByteArray) ++ ty).size ≤ 25 := by rw [ByteArray.size_append]; omega
    have s3 : (tc ++ (⟨#[32]⟩ : ByteArray) ++ ty ++ (⟨#[45]⟩ : ByteArray)).size ≤ 26 := by rw [ByteArray.size_append]; show _ + 1 ≤ 26; omega
    have s4 : (tc ++ (⟨#[32]⟩ : ByteArray) ++ ty ++ (⟨#[45]⟩ : ByteArray) ++ tm).size ≤ 47 := by rw [ByteArray.size_append]; omega
    have s5 : (tc ++ (⟨#[32]⟩ : ByteArray) ++ ty ++ (⟨#[45]⟩ : ByteArray) ++ tm ++ (⟨#[45]⟩ : ByteArray)).size ≤ 48 := by rw [ByteArray.size_append]; show _ + 1 ≤ 48; omega
    have s6 : (tc ++ (⟨#[32]⟩ : ByteArray) ++ ty ++ (⟨#[45]⟩ : ByteArray) ++ tm ++ (⟨#[45]⟩ : ByteArray) ++ td).size ≤ 69 := by rw [ByteArray.size_append]; omega
    go_enter Tryd.func8, Tryd.ntmps8
    go_wp2_with fail
    rw [← HW0.out]
    refine KO.out.mono ?_
    rintro e w1 ⟨rfl, hb⟩
    obtain ⟨x1, rfl⟩ := Later.of hb
    clear hb
    go_wp2_with fail
    refine wp_region_later (W := W0) x1.below (by kernel_rfl) (by kernel_rfl) ?_
    repeat (go_big_quiet_step (first | (go_at_call 18; exact calls_same (KC _)) | (go_at_call_of 19 y; exact calls_later (Jy _)) | (go_at_call_of 19 m; exact calls_later (Jm _)) | (go_at_call_of 19 d; exact calls_later (Jd _))))
    refine wpQuiet_nil ?_
    intro _ hw'
    obtain ⟨x, rfl⟩ := hw'
    go_wp2
    go_ret
    exact ⟨rfl, HBl.out x⟩

set_option maxHeartbeats 2000000 in
theorem specDateText (c y m d : Int) (w : World) : Calls Tryd.prog 6 #[.agg #[.int .i64 c, .int .i64 y, .int .i64 m, .int .i64 d]] w fun e w' => e = .returned (.string (dateTx c y m d)) ∧ Below w.heap.size w w' := by
  obtain ⟨W0, hW0⟩ : ∃ W0, W0 = w.alloc (.cells #[.int .i64 c, .int .i64 y, .int .i64 m, .int .i64 d] 25) := ⟨_, rfl⟩
  have c0 : ∀ x : Later W0, x.w.cell? ⟨w.heap.size, 0, none⟩ = some (.int .i64 c) := Later.new hW0 0 rfl
  have c1 : ∀ x : Later W0, x.w.cell? ⟨w.heap.size, 1, none⟩ = some (.int .i64 y) := Later.new hW0 1 rfl
  have c2 : ∀ x : Later W0, x.w.cell? ⟨w.heap.size, 2, none⟩ = some (.int .i64 m) := Later.new hW0 2 rfl
  have c3 : ∀ x : Later W0, x.w.cell? ⟨w.heap.size, 3, none⟩ = some (.int .i64 d) := Later.new hW0 3 rfl
  have hBl : ∀ x : Later W0, Below w.heap.size w x.w := fun x => below_of_alloc hW0 x.below
  have HW0 := hideP hW0
  have HBl := hideP hBl
  have KO := hideP (specDateOk c y m d W0)
  have KC : ∀ z : Later W0, Calls Tryd.prog 15 #[.int .i64 c] z.w fun e w' => e = .returned (.string (calText c)) ∧ w' = z.w := fun z => specCalName c z.w
  have Ky : dateOk c y m d = true → ∀ z : Later W0, Calls Tryd.prog 16 #[.int .i64 y] z.w fun e w' => e = .returned (.string (decN y)) ∧ w' = z.w := fun h z => by
    have := date_nums h
    exact specDecText y z.w (by omega) (by omega)
  have Km : dateOk c y m d = true → ∀ z : Later W0, Calls Tryd.prog 16 #[.int .i64 m] z.w fun e w' => e = .returned (.string (decN m)) ∧ w' = z.w := fun h z => by
    have := date_nums h
    exact specDecText m z.w (by omega) (by omega)
  have Kd : dateOk c y m d = true → ∀ z : Later W0, Calls Tryd.prog 16 #[.int .i64 d] z.w fun e w' => e = .returned (.string (decN d)) ∧ w' = z.w := fun h z => by
    have := date_nums h
    exact specDecText d z.w (by omega) (by omega)
  have hsz : dateOk c y m d = true → (decN y).size ≤ 21 ∧ (decN m).size ≤ 21 ∧ (decN d).size ≤ 21 := fun h => by
    have := date_nums h
    exact ⟨decN_small (by omega) (by omega), decN_small (by omega) (by omega), decN_small (by omega) (by omega)⟩
  have z1 := calT_small c
  unfold dateTx
  clear hW0 hBl
  generalize dateOk c y m d = b at *
  generalize calText c = tc at *
  generalize decN y = ty at *
  generalize decN m = tm at *
  generalize decN d = td at *
  cases b
  · rw [if_neg (by simp)]
    clear Ky Km Kd hsz
    go_enter Tryd.func6, Tryd.ntmps6
    go_wp2_with fail
    rw [← HW0.out]
    refine KO.out.mono ?_
    rintro e w1 ⟨rfl, hb⟩
    obtain ⟨x1, rfl⟩ := Later.of hb
    clear hb
    go_wp2
    go_ret
    exact ⟨rfl, HBl.out x1⟩
  · rw [if_pos rfl]
    obtain ⟨z2, z3, z4⟩ := hsz rfl
    have Jy := Ky rfl
    have Jm := Km rfl
    have Jd := Kd rfl
    clear Ky Km Kd hsz
    have s1 : (tc ++ (⟨#[32]⟩ : ByteArray)).size ≤ 4 := by rw [ByteArray.size_append]; show tc.size + 1 ≤ 4; omega
    have s2 : (tc ++ (⟨#[32]⟩ : ByteArray) ++ ty).size ≤ 25 := by rw [ByteArray.size_append]; omega
    have s3 : (tc ++ (⟨#[32]⟩ : ByteArray) ++ ty ++ (⟨#[45]⟩ : ByteArray)).size ≤ 26 := by rw [ByteArray.size_append]; show _ + 1 ≤ 26; omega
    have s4 : (tc ++ (⟨#[32]⟩ : ByteArray) ++ ty ++ (⟨#[45]⟩ : ByteArray) ++ tm).size ≤ 47 := by rw [ByteArray.size_append]; omega
    have s5 : (tc ++ (⟨#[32]⟩ : ByteArray) ++ ty ++ (⟨#[45]⟩ : ByteArray) ++ tm ++ (⟨#[45]⟩ : ByteArray)).size ≤ 48 := by rw [ByteArray.size_append]; show _ + 1 ≤ 48; omega
    have s6 : (tc ++ (⟨#[32]⟩ : ByteArray) ++ ty ++ (⟨#[45]⟩ : ByteArray) ++ tm ++ (⟨#[45]⟩ : ByteArray) ++ td).size ≤ 69 := by rw [ByteArray.size_append]; omega
    go_enter Tryd.func6, Tryd.ntmps6
    go_wp2_with fail
    rw [← HW0.out]
    refine KO.out.mono ?_
    rintro e w1 ⟨rfl, hb⟩
    obtain ⟨x1, rfl⟩ := Later.of hb
    clear hb
    go_wp2_with fail
    refine wp_region_later (W := W0) x1.below (by kernel_rfl) (by kernel_rfl) ?_
    repeat (go_big_quiet_step (first | (go_at_call 15; exact calls_same (KC _)) | (go_at_call_of 16 y; exact calls_same (Jy _)) | (go_at_call_of 16 m; exact calls_same (Jm _)) | (go_at_call_of 16 d; exact calls_same (Jd _))))
    refine wpQuiet_nil ?_
    intro _ hw'
    obtain ⟨x, rfl⟩ := hw'
    go_wp2
    go_ret
    exact ⟨rfl, HBl.out x⟩
end Go.Proofs.YtioiaefjkmgmdaaDoor.ctr
