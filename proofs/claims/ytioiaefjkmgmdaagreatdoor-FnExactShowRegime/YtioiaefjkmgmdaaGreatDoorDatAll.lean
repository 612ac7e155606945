/- Contracts of both DateText: at every date the calendar's name, a blank and the numbers with hyphens; the empty text at what is no date. Contracts of the model's MonthName and of the program's MonthName: each answers the plain function monthText, at every argument, where the program's table of months holds its texts. Contract of the program's StyleName, where its table of styles holds its texts. Contracts of both SegText: each answers its plain function at every segment, where the program's tables hold their texts and numbers. -/
import Derived.Test.YtioiaefjkmgmdaaGreatDoorSolOkImpl
import Derived.Test.YtioiaefjkmgmdaaGreatDoorDecImpl
import Derived.Lib.ItoaLen
import Derived.Test.YtioiaefjkmgmdaaGreatDoorVarsKit
import Derived.Test.YtioiaefjkmgmdaaGreatDoorBase
import Derived.Test.YtioiaefjkmgmdaaGreatDoorStyBase
import Derived.Test.YtioiaefjkmgmdaaGreatDoorSegOk
import Derived.Test.YtioiaefjkmgmdaaGreatDoorDecCtr
namespace Go.Proofs.YtioiaefjkmgmdaaGreatDoor.ctr
open Go.RowKit

def decN (n : Int) : ByteArray := ⟨(Lib.itoa n).toArray⟩
def dateTx (c y m d : Int) : ByteArray := if dateOk c y m d = true then calText c ++ ⟨#[32]⟩ ++ decN y ++ ⟨#[45]⟩ ++ decN m ++ ⟨#[45]⟩ ++ decN d else ⟨#[]⟩
abbrev PowN (w : World) : Prop := Lib.TabIs Tryz.prog w "internal/strconv.uint64pow10" .u64 Lib.pow10Tab
theorem PowN.later {w w1 : World} (h : PowN w) (hb : Below w.heap.size w w1) : PowN w1 := kit.tab_below h hb (g := 9) (by kernel_rfl)
theorem calT_small (c : Int) : (calText c).size ≤ 3 := by
  unfold calText
  repeat' split
  all_goals decide
theorem decN_small {n : Int} (h0 : -9223372036854775808 ≤ n) (h1 : n ≤ 9223372036854775807) : (decN n).size ≤ 21 := by
  have h := Lib.itoa_length_le n h0 h1
  show (Lib.itoa n).toArray.size ≤ 21
  simpa using h
theorem date_nums {c y m d : Int} (h : dateOk c y m d = true) : 0 ≤ y ∧ y ≤ 3000 ∧ 0 ≤ m ∧ m ≤ 12 ∧ 0 ≤ d ∧ d ≤ 31 := by
  have hP : dateP c y m d := of_decide_eq_true h
  have h1 := dateP_month hP
  have h2 := dateP_day hP
  have h3 := hP.2.1
  have h4 := hP.2.2.1
  omega

set_option maxHeartbeats 2000000 in
theorem implDateText (c y m d : Int) (w : World) (hT : Tab w) (hP : PowN w) : Calls Tryz.prog 26 #[.agg #[.int .i64 c, .int .i64 y, .int .i64 m, .int .i64 d]] w fun e w' => e = .returned (.string (dateTx c y m d)) ∧ Below w.heap.size w w' := by
  obtain ⟨W0, hW0⟩ : ∃ W0, W0 = w.alloc (.cells #[.int .i64 c, .int .i64 y, .int .i64 m, .int .i64 d] 36) := ⟨_, rfl⟩
  have c0 : ∀ x : Later W0, x.w.cell? ⟨w.heap.size, 0, none⟩ = some (.int .i64 c) := Later.new hW0 0 rfl
  have c1 : ∀ x : Later W0, x.w.cell? ⟨w.heap.size, 1, none⟩ = some (.int .i64 y) := Later.new hW0 1 rfl
  have c2 : ∀ x : Later W0, x.w.cell? ⟨w.heap.size, 2, none⟩ = some (.int .i64 m) := Later.new hW0 2 rfl
  have c3 : ∀ x : Later W0, x.w.cell? ⟨w.heap.size, 3, none⟩ = some (.int .i64 d) := Later.new hW0 3 rfl
  have hBl : ∀ x : Later W0, Below w.heap.size w x.w := fun x => below_of_alloc hW0 x.below
  have HW0 := hideP hW0
  have HBl := hideP hBl
  have KO := hideP (implDateOk c y m d W0 (hT.later (hBl ⟨W0, Below.refl _ _⟩)))
  have KC : ∀ z : Later W0, Calls Tryz.prog 86 #[.int .i64 c] z.w fun e w' => e = .returned (.string (calText c)) ∧ w' = z.w := fun z => implCalName c z.w
  have Ky : dateOk c y m d = true → ∀ z : Later W0, Calls Tryz.prog 87 #[.int .i64 y] z.w fun e w' => e = .returned (.string (decN y)) ∧ Below z.w.heap.size z.w w' := fun h z => by
    have := date_nums h
    exact implDecText y z.w (by omega) (by omega) (hP.later (hBl z))
  have Km : dateOk c y m d = true → ∀ z : Later W0, Calls Tryz.prog 87 #[.int .i64 m] z.w fun e w' => e = .returned (.string (decN m)) ∧ Below z.w.heap.size z.w w' := fun h z => by
    have := date_nums h
    exact implDecText m z.w (by omega) (by omega) (hP.later (hBl z))
  have Kd : dateOk c y m d = true → ∀ z : Later W0, Calls Tryz.prog 87 #[.int .i64 d] z.w fun e w' => e = .returned (.string (decN d)) ∧ Below z.w.heap.size z.w w' := fun h z => by
    have := date_nums h
    exact implDecText d z.w (by omega) (by omega) (hP.later (hBl z))
  have hsz : dateOk c y m d = true → (decN y).size ≤ 21 ∧ (decN m).size ≤ 21 ∧ (decN d).size ≤ 21 := fun h => by
    have := date_nums h
    exact ⟨decN_small (by omega) (by omega), decN_small (by omega) (by omega), decN_small (by omega) (by omega)⟩
  have z1 := calT_small c
  unfold dateTx
  clear hW0 hBl hT hP
  generalize dateOk c y m d = b at *
  generalize calText c = tc at *
  generalize decN y = ty at *
  generalize decN m = tm at *
  generalize decN d = td at *
  cases b
  · rw [if_neg (by simp)]
    clear Ky Km Kd hsz
    go_enter Tryz.func26, Tryz.ntmps26
    go_wp2_with fail
    rw [← HW0.out]
    refine KO.out.mono ?_
    rintro e w1 ⟨rfl, hb⟩
    obtain ⟨x1, rfl⟩ := Later.of hb
    clear hb
    go_wp2
    go_ret
    exact ⟨rfl, HBl.out x1⟩
  · rw [if_pos rfl]
    obtain ⟨z2, z3, z4⟩ := hsz rfl
    have Jy := Ky rfl
    have Jm := Km rfl
    have Jd := Kd rfl
    clear Ky Km Kd hsz
    have s1 : (tc ++ (⟨#[32]⟩ : ByteArray)).size ≤ 4 := by rw [ByteArray.size_append]; show tc.size + 1 ≤ 4; omega
    have s2 : (tc ++ (⟨#[32]⟩ : ByteArray) ++ ty).size ≤ 25 := by rw [ByteArray.size_append]; omega
    have s3 : (tc ++ (⟨#[32]⟩ : ByteArray) ++ ty ++ (⟨#[45]⟩ : ByteArray)).size ≤ 26 := by rw [ByteArray.size_append]; show _ + 1 ≤ 26; omega
    have s4 : (tc ++ (⟨#[32]⟩ : ByteArray) ++ ty ++ (⟨#[45]⟩ : ByteArray) ++ tm).size ≤ 47 := by rw [ByteArray.size_append]; omega
    have s5 : (tc ++ (⟨#[32]⟩ : ByteArray) ++ ty ++ (⟨#[45]⟩ : ByteArray) ++ tm ++ (⟨#[45]⟩ : ByteArray)).size ≤ 48 := by rw [ByteArray.size_append]; show _ + 1 ≤ 48; omega
    have s6 : (tc ++ (⟨#[32]⟩ : ByteArray) ++ ty ++ (⟨#[45]⟩ : ByteArray) ++ tm ++ (⟨#[45]⟩ : ByteArray) ++ td).size ≤ 69 := by rw [ByteArray.size_append]; omega
    go_enter Tryz.func26, Tryz.ntmps26
    go_wp2_with fail
    rw [← HW0.out]
    refine KO.out.mono ?_
    rintro e w1 ⟨rfl, hb⟩
    obtain ⟨x1, rfl⟩ := Later.of hb
    clear hb
    go_wp2_with fail
    refine wp_region_later (W := W0) x1.below (by kernel_rfl) (by kernel_rfl) ?_
    repeat (go_big_quiet_step (first | (go_at_call 86; exact calls_same (KC _)) | (go_at_call_of 87 y; exact calls_later (Jy _)) | (go_at_call_of 87 m; exact calls_later (Jm _)) | (go_at_call_of 87 d; exact calls_later (Jd _))))
    refine wpQuiet_nil ?_
    intro _ hw'
    obtain ⟨x, rfl⟩ := hw'
    go_wp2
    go_ret
    exact ⟨rfl, HBl.out x⟩

set_option maxHeartbeats 2000000 in
theorem specDateText (c y m d : Int) (w : World) : Calls Tryz.prog 27 #[.agg #[.int .i64 c, .int .i64 y, .int .i64 m, .int .i64 d]] w fun e w' => e = .returned (.string (dateTx c y m d)) ∧ Below w.heap.size w w' := by
  obtain ⟨W0, hW0⟩ : ∃ W0, W0 = w.alloc (.cells #[.int .i64 c, .int .i64 y, .int .i64 m, .int .i64 d] 36) := ⟨_, rfl⟩
  have c0 : ∀ x : Later W0, x.w.cell? ⟨w.heap.size, 0, none⟩ = some (.int .i64 c) := Later.new hW0 0 rfl
  have c1 : ∀ x : Later W0, x.w.cell? ⟨w.heap.size, 1, none⟩ = some (.int .i64 y) := Later.new hW0 1 rfl
  have c2 : ∀ x : Later W0, x.w.cell? ⟨w.heap.size, 2, none⟩ = some (.int .i64 m) := Later.new hW0 2 rfl
  have c3 : ∀ x : Later W0, x.w.cell? ⟨w.heap.size, 3, none⟩ = some (.int .i64 d) := Later.new hW0 3 rfl
  have hBl : ∀ x : Later W0, Below w.heap.size w x.w := fun x => below_of_alloc hW0 x.below
  have HW0 := hideP hW0
  have HBl := hideP hBl
  have KO := hideP (specDateOk c y m d W0)
  have KC : ∀ z : Later W0, Calls Tryz.prog 81 #[.int .i64 c] z.w fun e w' => e = .returned (.string (calText c)) ∧ w' = z.w := fun z => specCalName c z.w
  have Ky : dateOk c y m d = true → ∀ z : Later W0, Calls Tryz.prog 84 #[.int .i64 y] z.w fun e w' => e = .returned (.string (decN y)) ∧ w' = z.w := fun h z => by
    have := date_nums h
    exact specDecText y z.w (by omega) (by omega)
  have Km : dateOk c y m d = true → ∀ z : Later W0, Calls Tryz.prog 84 #[.int .i64 m] z.w fun e w' => e = .returned (.string (decN m)) ∧ w' = z.w := fun h z => by
    have := date_nums h
    exact specDecText m z.w (by omega) (by omega)
  have Kd : dateOk c y m d = true → ∀ z : Later W0, Calls Tryz.prog 84 #[.int .i64 d] z.w fun e w' => e = .returned (.string (decN d)) ∧ w' = z.w := fun h z => by
    have := date_nums h
    exact specDecText d z.w (by omega) (by omega)
  have hsz : dateOk c y m d = true → (decN y).size ≤ 21 ∧ (decN m).size ≤ 21 ∧ (decN d).size ≤ 21 := fun h => by
    have := date_nums h
    exact ⟨decN_small (by omega) (by omega), decN_small (by omega) (by omega), decN_small (by omega) (by omega)⟩
  have z1 := calT_small c
  unfold dateTx
  clear hW0 hBl
  generalize dateOk c y m d = b at *
  generalize calText c = tc at *
  generalize decN y = ty at *
  generalize decN m = tm at *
  generalize decN d = td at *
  cases b
  · rw [if_neg (by simp)]
    clear Ky Km Kd hsz
    go_enter Tryz.func27, Tryz.ntmps27
    go_wp2_with fail
    rw [← HW0.out]
    refine KO.out.mono ?_
    rintro e w1 ⟨rfl, hb⟩
    obtain ⟨x1, rfl⟩ := Later.of hb
    clear hb
    go_wp2
    go_ret
    exact ⟨rfl, HBl.out x1⟩
  · rw [if_pos rfl]
    obtain ⟨z2, z3, z4⟩ := hsz rfl
    have Jy := Ky rfl
    have Jm := Km rfl
    have Jd := Kd rfl
    clear Ky Km Kd hsz
    have s1 : (tc ++ (⟨#[32]⟩ : ByteArray)).size ≤ 4 := by rw [ByteArray.size_append]; show tc.size + 1 ≤ 4; omega
    have s2 : (tc ++ (⟨#[32]⟩ : ByteArray) ++ ty).size ≤ 25 := by rw [ByteArray.size_append]; omega
    have s3 : (tc ++ (⟨#[32]⟩ : ByteArray) ++ ty ++ (⟨#[45]⟩ : ByteArray)).size ≤ 26 := by rw [ByteArray.size_append]; show _ + 1 ≤ 26; omega
    have s4 : (tc ++ (⟨#[32]⟩ : ByteArray) ++ ty ++ (⟨#[45]⟩ : ByteArray) ++ tm).size ≤ 47 := by rw [ByteArray.size_append]; omega
    have s5 : (tc ++ (⟨#[32]⟩ : ByteArray) ++ ty ++ (⟨#[45]⟩ : ByteArray) ++ tm ++ (⟨#[45]⟩ : ByteArray)).size ≤ 48 := by rw [ByteArray.size_append]; show _ + 1 ≤ 48; omega
    have s6 : (tc ++ (⟨#[32]⟩ : ByteArray) ++ ty ++ (⟨#[45]⟩ : ByteArray) ++ tm ++ (⟨#[45]⟩ : ByteArray) ++ td).size ≤ 69 := by rw [ByteArray.size_append]; omega
    go_enter Tryz.func27, Tryz.ntmps27
    go_wp2_with fail
    rw [← HW0.out]
    refine KO.out.mono ?_
    rintro e w1 ⟨rfl, hb⟩
    obtain ⟨x1, rfl⟩ := Later.of hb
    clear hb
    go_wp2_with fail
    refine wp_region_later (W := W0) x1.below (by kernel_rfl) (by kernel_rfl) ?_
    repeat (go_big_quiet_step (first | (go_at_call 81; exact calls_same (KC _)) | (go_at_call_of 84 y; exact calls_same (Jy _)) | (go_at_call_of 84 m; exact calls_same (Jm _)) | (go_at_call_of 84 d; exact calls_same (Jd _))))
    refine wpQuiet_nil ?_
    intro _ hw'
    obtain ⟨x, rfl⟩ := hw'
    go_wp2
    go_ret
    exact ⟨rfl, HBl.out x⟩
end Go.Proofs.YtioiaefjkmgmdaaGreatDoor.ctr

namespace Go.Proofs.YtioiaefjkmgmdaaGreatDoor.ctr
open Go.RowKit

def mons : List (List UInt8) := [[106, 97, 110], [102, 101, 98], [109, 97, 114], [97, 112, 114], [109, 97, 121], [106, 117, 110], [106, 117, 108], [97, 117, 103], [115, 101, 112], [111, 99, 116], [110, 111, 118], [100, 101, 99]]
def monthText (m : Int) : ByteArray := ⟨(if 1 ≤ m ∧ m ≤ 12 then mons.getD (m - 1).toNat [] else []).toArray⟩
theorem monthText_no {m : Int} (h : m < 1 ∨ 12 < m) : monthText m = ⟨#[]⟩ := by unfold monthText; rw [if_neg (by omega)]
theorem mon_cases {m : Int} (h1 : 1 ≤ m) (h2 : m ≤ 12) : m = 1 ∨ m = 2 ∨ m = 3 ∨ m = 4 ∨ m = 5 ∨ m = 6 ∨ m = 7 ∨ m = 8 ∨ m = 9 ∨ m = 10 ∨ m = 11 ∨ m = 12 := by omega

set_option maxHeartbeats 400000 in
theorem specMonthName (m : Int) (w : World) :
    Calls Tryz.prog 83 #[.int .i64 m] w fun e w' => e = .returned (.string (monthText m)) ∧ Below w.heap.size w w' := by
  by_cases h1 : m < 1
  · rw [monthText_no (.inl h1)]
    go_enter Tryz.func83, Tryz.ntmps83
    go_wp2
    go_ret
    exact ⟨rfl, Below.refl _ _⟩
  by_cases h2 : 12 < m
  · rw [monthText_no (.inr h2)]
    have hd : decide (m ≤ 12) = false := by simp; omega
    go_enter Tryz.func83, Tryz.ntmps83
    go_wp2
    go_ret
    exact ⟨rfl, Below.refl _ _⟩
  rcases mon_cases (m := m) (by omega) (by omega) with rfl | rfl | rfl | rfl | rfl | rfl | rfl | rfl | rfl | rfl | rfl | rfl
  all_goals
    go_enter Tryz.func83, Tryz.ntmps83
    go_wp2
    go_ret
    exact ⟨rfl, (Below.refl _ _).alloc (Nat.le_refl _) _⟩

theorem implMonthName (m : Int) (w : World) (hT : kit.StrIs Tryz.prog w "loop.example/g00638/impl.monthNames" mons) :
    Calls Tryz.prog 136 #[.int .i64 m] w fun e w' => e = .returned (.string (monthText m)) ∧ w' = w := by
  by_cases h1 : m < 1
  · rw [monthText_no (.inl h1)]
    clear hT
    go_enter Tryz.func136, Tryz.ntmps136
    go_wp2
    go_ret
    exact ⟨rfl, rfl⟩
  by_cases h2 : 12 < m
  · rw [monthText_no (.inr h2)]
    clear hT
    go_enter Tryz.func136, Tryz.ntmps136
    go_wp2
    go_ret
    exact ⟨rfl, rfl⟩
  rcases mon_cases (m := m) (by omega) (by omega) with rfl | rfl | rfl | rfl | rfl | rfl | rfl | rfl | rfl | rfl | rfl | rfl
  · have c := hT.cell (g := 3) (by kernel_rfl) 0 (by decide)
    clear hT h1 h2
    go_enter Tryz.func136, Tryz.ntmps136
    go_wp2
    go_ret
    exact ⟨rfl, rfl⟩
  · have c := hT.cell (g := 3) (by kernel_rfl) 1 (by decide)
    clear hT h1 h2
    go_enter Tryz.func136, Tryz.ntmps136
    go_wp2
    go_ret
    exact ⟨rfl, rfl⟩
  · have c := hT.cell (g := 3) (by kernel_rfl) 2 (by decide)
    clear hT h1 h2
    go_enter Tryz.func136, Tryz.ntmps136
    go_wp2
    go_ret
    exact ⟨rfl, rfl⟩
  · have c := hT.cell (g := 3) (by kernel_rfl) 3 (by decide)
    clear hT h1 h2
    go_enter Tryz.func136, Tryz.ntmps136
    go_wp2
    go_ret
    exact ⟨rfl, rfl⟩
  · have c := hT.cell (g := 3) (by kernel_rfl) 4 (by decide)
    clear hT h1 h2
    go_enter Tryz.func136, Tryz.ntmps136
    go_wp2
    go_ret
    exact ⟨rfl, rfl⟩
  · have c := hT.cell (g := 3) (by kernel_rfl) 5 (by decide)
    clear hT h1 h2
    go_enter Tryz.func136, Tryz.ntmps136
    go_wp2
    go_ret
    exact ⟨rfl, rfl⟩
  · have c := hT.cell (g := 3) (by kernel_rfl) 6 (by decide)
    clear hT h1 h2
    go_enter Tryz.func136, Tryz.ntmps136
    go_wp2
    go_ret
    exact ⟨rfl, rfl⟩
  · have c := hT.cell (g := 3) (by kernel_rfl) 7 (by decide)
    clear hT h1 h2
    go_enter Tryz.func136, Tryz.ntmps136
    go_wp2
    go_ret
    exact ⟨rfl, rfl⟩
  · have c := hT.cell (g := 3) (by kernel_rfl) 8 (by decide)
    clear hT h1 h2
    go_enter Tryz.func136, Tryz.ntmps136
    go_wp2
    go_ret
    exact ⟨rfl, rfl⟩
  · have c := hT.cell (g := 3) (by kernel_rfl) 9 (by decide)
    clear hT h1 h2
    go_enter Tryz.func136, Tryz.ntmps136
    go_wp2
    go_ret
    exact ⟨rfl, rfl⟩
  · have c := hT.cell (g := 3) (by kernel_rfl) 10 (by decide)
    clear hT h1 h2
    go_enter Tryz.func136, Tryz.ntmps136
    go_wp2
    go_ret
    exact ⟨rfl, rfl⟩
  · have c := hT.cell (g := 3) (by kernel_rfl) 11 (by decide)
    clear hT h1 h2
    go_enter Tryz.func136, Tryz.ntmps136
    go_wp2
    go_ret
    exact ⟨rfl, rfl⟩
end Go.Proofs.YtioiaefjkmgmdaaGreatDoor.ctr

namespace Go.Proofs.YtioiaefjkmgmdaaGreatDoor.ctr
open Go.RowKit

/-- The program's table of styles holds its texts. -/
abbrev TabS (w : World) : Prop := kit.StrIs Tryz.prog w "loop.example/g00638/impl.styleNames" stys
theorem TabS.later {w w1 : World} (h : TabS w) (hb : Below w.heap.size w w1) : TabS w1 := kit.StrIs.below h hb (g := 2) (by kernel_rfl)
theorem implStyleName (s : Int) (w : World) (hT : TabS w) : Calls Tryz.prog 134 #[.int .i64 s] w fun e w' => e = .returned (.string (styText s)) ∧ w' = w := by
  have KI := implStyleOk s w
  by_cases h : styleP s
  · rw [styleB_true h] at KI
    rcases style_cases h with rfl | rfl | rfl | rfl | rfl | rfl | rfl
    · have c := hT.cell (g := 2) (by kernel_rfl) 0 (by decide)
      clear hT h
      go_enter Tryz.func134, Tryz.ntmps134
      go_wp2_with fail
      refine KI.mono ?_
      rintro e w1 ⟨rfl, rfl⟩
      go_wp2
      go_ret
      exact ⟨rfl, rfl⟩
    · have c := hT.cell (g := 2) (by kernel_rfl) 1 (by decide)
      clear hT h
      go_enter Tryz.func134, Tryz.ntmps134
      go_wp2_with fail
      refine KI.mono ?_
      rintro e w1 ⟨rfl, rfl⟩
      go_wp2
      go_ret
      exact ⟨rfl, rfl⟩
    · have c := hT.cell (g := 2) (by kernel_rfl) 2 (by decide)
      clear hT h
      go_enter Tryz.func134, Tryz.ntmps134
      go_wp2_with fail
      refine KI.mono ?_
      rintro e w1 ⟨rfl, rfl⟩
      go_wp2
      go_ret
      exact ⟨rfl, rfl⟩
    · have c := hT.cell (g := 2) (by kernel_rfl) 3 (by decide)
      clear hT h
      go_enter Tryz.func134, Tryz.ntmps134
      go_wp2_with fail
      refine KI.mono ?_
      rintro e w1 ⟨rfl, rfl⟩
      go_wp2
      go_ret
      exact ⟨rfl, rfl⟩
    · have c := hT.cell (g := 2) (by kernel_rfl) 4 (by decide)
      clear hT h
      go_enter Tryz.func134, Tryz.ntmps134
      go_wp2_with fail
      refine KI.mono ?_
      rintro e w1 ⟨rfl, rfl⟩
      go_wp2
      go_ret
      exact ⟨rfl, rfl⟩
    · have c := hT.cell (g := 2) (by kernel_rfl) 5 (by decide)
      clear hT h
      go_enter Tryz.func134, Tryz.ntmps134
      go_wp2_with fail
      refine KI.mono ?_
      rintro e w1 ⟨rfl, rfl⟩
      go_wp2
      go_ret
      exact ⟨rfl, rfl⟩
    · have c := hT.cell (g := 2) (by kernel_rfl) 6 (by decide)
      clear hT h
      go_enter Tryz.func134, Tryz.ntmps134
      go_wp2_with fail
      refine KI.mono ?_
      rintro e w1 ⟨rfl, rfl⟩
      go_wp2
      go_ret
      exact ⟨rfl, rfl⟩
  · rw [styleB_false h] at KI
    rw [styText_no h]
    clear h hT
    go_enter Tryz.func134, Tryz.ntmps134
    go_wp2_with fail
    refine KI.mono ?_
    rintro e w1 ⟨rfl, rfl⟩
    go_wp2
    go_ret
    exact ⟨rfl, rfl⟩

def styB (j : Nat) : ByteArray := ⟨(stys.getD j []).toArray⟩
def styOf (s : ByteArray) : Int := if (stys.findIdx fun l => l == s.data.toList) < 7 then ((stys.findIdx fun l => l == s.data.toList : Nat) : Int) else -1
end Go.Proofs.YtioiaefjkmgmdaaGreatDoor.ctr

namespace Go.Proofs.YtioiaefjkmgmdaaGreatDoor.ctr
open Go.RowKit

def decT (n : Int) : ByteArray := ⟨(Lib.itoa n).toArray⟩
def offTx (o : Int) : ByteArray := if 0 < o then ⟨#[32, 43]⟩ ++ decT o else if o < 0 then ⟨#[32]⟩ ++ decT o else ⟨#[]⟩
def segTx (s : Seg) : ByteArray := if segOkB s = true then calText s.cal ++ ⟨#[32]⟩ ++ styText s.sty ++ offTx s.off else ⟨#[]⟩
abbrev PowT (w : World) : Prop := Lib.TabIs Tryz.prog w "internal/strconv.uint64pow10" .u64 Lib.pow10Tab
theorem PowT.later {w w1 : World} (h : PowT w) (hb : Below w.heap.size w w1) : PowT w1 := kit.tab_below h hb (g := 9) (by kernel_rfl)
theorem off_cases {o : Int} (h : inB o (-3) 3 = true) : o = -3 ∨ o = -2 ∨ o = -1 ∨ o = 0 ∨ o = 1 ∨ o = 2 ∨ o = 3 := by
  unfold inB at h
  simp at h
  omega
theorem dec_small {o : Int} (h : inB o (-3) 3 = true) : (decT o).size ≤ 2 := by
  rcases off_cases h with rfl | rfl | rfl | rfl | rfl | rfl | rfl <;> decide +kernel
theorem offTx_small {o : Int} (h : inB o (-3) 3 = true) : (offTx o).size ≤ 4 := by
  rcases off_cases h with rfl | rfl | rfl | rfl | rfl | rfl | rfl <;> decide +kernel
theorem sty_small (s : Int) : (styText s).size ≤ 6 := by
  by_cases h : styleP s
  · rcases style_cases h with rfl | rfl | rfl | rfl | rfl | rfl | rfl <;> decide
  · rw [styText_no h]; decide
theorem cal_small (c : Int) : (calText c).size ≤ 20 := by
  unfold calText
  repeat' split
  all_goals decide
theorem segOk_off {s : Seg} (h : segOkB s = true) : inB s.off (-3) 3 = true := by
  unfold segOkB at h
  simp only [Bool.and_eq_true] at h
  exact h.2.2.2.2.2
set_option maxHeartbeats 1000000 in
theorem implOffText (o : Int) (w : World) (h : inB o (-3) 3 = true) (hT : PowT w) : Calls Tryz.prog 135 #[.int .i64 o] w fun e w' => e = .returned (.string (offTx o)) ∧ Below w.heap.size w w' := by
  have ho := off_cases h
  have KD := hideP (implDecText o w (by omega) (by omega) hT)
  have hs := dec_small h
  unfold offTx
  change Hid (Calls _ _ _ _ fun e w' => e = .returned (.string (decT o)) ∧ _) at KD
  clear hT h
  by_cases h1 : 0 < o
  · rw [if_pos h1]
    generalize decT o = t at *
    have hd : decide (0 < o) = true := decide_eq_true h1
    have s1 : ((⟨#[32, 43]⟩ : ByteArray) ++ t).size ≤ 4 := by rw [ByteArray.size_append]; show 2 + t.size ≤ 4; omega
    go_enter Tryz.func135, Tryz.ntmps135
    go_wp2_with fail
    refine KD.out.mono ?_
    rintro e w1 ⟨rfl, hb⟩
    have HB := hideP hb
    clear hb
    go_wp2
    go_ret
    exact ⟨rfl, HB.out⟩
  rw [if_neg h1]
  have hd : decide (0 < o) = false := decide_eq_false h1
  by_cases h2 : o < 0
  · rw [if_pos h2]
    generalize decT o = t at *
    have hd2 : decide (o < 0) = true := decide_eq_true h2
    have s1 : ((⟨#[32]⟩ : ByteArray) ++ t).size ≤ 4 := by rw [ByteArray.size_append]; show 1 + t.size ≤ 4; omega
    go_enter Tryz.func135, Tryz.ntmps135
    go_wp2_with fail
    refine KD.out.mono ?_
    rintro e w1 ⟨rfl, hb⟩
    have HB := hideP hb
    clear hb
    go_wp2
    go_ret
    exact ⟨rfl, HB.out⟩
  · rw [if_neg h2]
    have hd2 : decide (o < 0) = false := decide_eq_false h2
    go_enter Tryz.func135, Tryz.ntmps135
    go_wp2
    go_ret
    exact ⟨rfl, Below.refl _ _⟩
set_option maxHeartbeats 2000000 in
theorem specSegText (s : Seg) (w : World) : Calls Tryz.prog 80 #[.agg #[.int .i64 s.fr, .int .i64 s.to, .int .i64 s.cal, .int .i64 s.sty, .int .i64 s.off]] w fun e w' => e = .returned (.string (segTx s)) ∧ Below w.heap.size w w' := by
  obtain ⟨W0, hW0, c0, c1, c2, c3, c4, hBl⟩ := seg_box w s.fr s.to s.cal s.sty s.off 56
  have HW0 := hideP hW0
  have HBl := hideP hBl
  have KO := hideP (specSegOk s)
  have KC : ∀ y : Later W0, Calls Tryz.prog 81 #[.int .i64 s.cal] y.w fun e w' => e = .returned (.string (calText s.cal)) ∧ w' = y.w := fun y => specCalName s.cal y.w
  have KN : ∀ y : Later W0, Calls Tryz.prog 82 #[.int .i64 s.sty] y.w fun e w' => e = .returned (.string (styText s.sty)) ∧ Below y.w.heap.size y.w w' := fun y => specStyleName s.sty y.w
  have KD0 : segOkB s = true → ∀ y : Later W0, Calls Tryz.prog 84 #[.int .i64 s.off] y.w fun e w' => e = .returned (.string (decT s.off)) ∧ w' = y.w := fun h y => by
    have := off_cases (segOk_off h)
    exact specDecText s.off y.w (by omega) (by omega)
  have hsz : segOkB s = true → (decT s.off).size ≤ 2 := fun h => dec_small (segOk_off h)
  have z1 := cal_small s.cal
  have z2 := sty_small s.sty
  obtain ⟨R, hR⟩ : ∃ R, R = segTx s := ⟨_, rfl⟩
  have HR := hideP hR
  rw [← hR]
  unfold segTx offTx at HR
  clear hW0 hBl hR
  generalize segOkB s = b at *
  generalize calText s.cal = tc at *
  generalize styText s.sty = ts at *
  generalize decT s.off = td at *
  cases b
  · have HE : Hid (R = ⟨#[]⟩) := HR.out
    clear KD0 hsz HR
    go_enter Tryz.func80, Tryz.ntmps80
    go_wp2_with fail
    rw [← HW0.out]
    refine (KO.out _).mono ?_
    rintro e w1 ⟨rfl, hb⟩
    obtain ⟨x1, rfl⟩ := Later.of hb
    clear hb
    go_wp2
    go_ret
    exact ⟨ret_str HE.out.symm, HBl.out x1⟩
  · have z3 := hsz rfl
    have KD := hideP (KD0 rfl)
    clear KD0 hsz
    have s1 : (tc ++ (⟨#[32]⟩ : ByteArray)).size ≤ 21 := by rw [ByteArray.size_append]; show tc.size + 1 ≤ 21; omega
    have s2 : (tc ++ (⟨#[32]⟩ : ByteArray) ++ ts).size ≤ 27 := by rw [ByteArray.size_append]; omega
    have s3 : (tc ++ (⟨#[32]⟩ : ByteArray) ++ ts ++ (⟨#[32, 43]⟩ : ByteArray)).size ≤ 29 := by rw [ByteArray.size_append]; show _ + 2 ≤ 29; omega
    have s4 : (tc ++ (⟨#[32]⟩ : ByteArray) ++ ts ++ (⟨#[32, 43]⟩ : ByteArray) ++ td).size ≤ 31 := by rw [ByteArray.size_append]; omega
    have s5 : (tc ++ (⟨#[32]⟩ : ByteArray) ++ ts ++ (⟨#[32]⟩ : ByteArray)).size ≤ 29 := by rw [ByteArray.size_append]; show _ + 1 ≤ 29; omega
    have s6 : (tc ++ (⟨#[32]⟩ : ByteArray) ++ ts ++ (⟨#[32]⟩ : ByteArray) ++ td).size ≤ 31 := by rw [ByteArray.size_append]; omega
    by_cases h1 : 0 < s.off
    case pos =>
      have HE : Hid (R = tc ++ ⟨#[32]⟩ ++ ts ++ ⟨#[32, 43]⟩ ++ td) := by unfold Hid; rw [HR.out, if_pos rfl, if_pos h1, ByteArray.append_assoc (a := tc ++ ⟨#[32]⟩ ++ ts)]
      have hd : decide (0 < s.off) = true := decide_eq_true h1
      clear HR
      go_enter Tryz.func80, Tryz.ntmps80
      go_wp2_with fail
      rw [← HW0.out]
      refine (KO.out _).mono ?_
      rintro e w1 ⟨rfl, hb⟩
      obtain ⟨x1, rfl⟩ := Later.of hb
      clear hb
      go_wp2_with fail
      refine wp_region_later (W := W0) x1.below (by kernel_rfl) (by kernel_rfl) ?_
      repeat (go_big_quiet_step (first | (go_at_call 81; exact calls_same (KC _)) | (go_at_call 82; exact calls_later (KN _))))
      refine wpQuiet_nil ?_
      intro _ hw'
      obtain ⟨x, rfl⟩ := hw'
      go_wp2_with fail
      refine (KD.out x).mono ?_
      rintro e w2 ⟨rfl, rfl⟩
      go_wp2
      go_ret
      exact ⟨ret_str HE.out.symm, HBl.out x⟩
    have hd : decide (0 < s.off) = false := decide_eq_false h1
    by_cases h2 : s.off < 0
    case pos =>
      have HE : Hid (R = tc ++ ⟨#[32]⟩ ++ ts ++ ⟨#[32]⟩ ++ td) := by unfold Hid; rw [HR.out, if_pos rfl, if_neg h1, if_pos h2, ByteArray.append_assoc (a := tc ++ ⟨#[32]⟩ ++ ts)]
      have hd2 : decide (s.off < 0) = true := decide_eq_true h2
      clear HR
      go_enter Tryz.func80, Tryz.ntmps80
      go_wp2_with fail
      rw [← HW0.out]
      refine (KO.out _).mono ?_
      rintro e w1 ⟨rfl, hb⟩
      obtain ⟨x1, rfl⟩ := Later.of hb
      clear hb
      go_wp2_with fail
      refine wp_region_later (W := W0) x1.below (by kernel_rfl) (by kernel_rfl) ?_
      repeat (go_big_quiet_step (first | (go_at_call 81; exact calls_same (KC _)) | (go_at_call 82; exact calls_later (KN _))))
      refine wpQuiet_nil ?_
      intro _ hw'
      obtain ⟨x, rfl⟩ := hw'
      go_wp2_with fail
      refine (KD.out x).mono ?_
      rintro e w2 ⟨rfl, rfl⟩
      go_wp2
      go_ret
      exact ⟨ret_str HE.out.symm, HBl.out x⟩
    · have HE : Hid (R = tc ++ ⟨#[32]⟩ ++ ts) := by
        unfold Hid
        rw [HR.out, if_pos rfl, if_neg h1, if_neg h2]
        exact ByteArray.append_empty
      have hd2 : decide (s.off < 0) = false := decide_eq_false h2
      clear HR
      go_enter Tryz.func80, Tryz.ntmps80
      go_wp2_with fail
      rw [← HW0.out]
      refine (KO.out _).mono ?_
      rintro e w1 ⟨rfl, hb⟩
      obtain ⟨x1, rfl⟩ := Later.of hb
      clear hb
      go_wp2_with fail
      refine wp_region_later (W := W0) x1.below (by kernel_rfl) (by kernel_rfl) ?_
      repeat (go_big_quiet_step (first | (go_at_call 81; exact calls_same (KC _)) | (go_at_call 82; exact calls_later (KN _))))
      refine wpQuiet_nil ?_
      intro _ hw'
      obtain ⟨x, rfl⟩ := hw'
      go_wp2
      go_ret
      exact ⟨ret_str HE.out.symm, HBl.out x⟩
end Go.Proofs.YtioiaefjkmgmdaaGreatDoor.ctr
