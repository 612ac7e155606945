/- Contracts of both SegText: each answers its plain function at every segment, where the program's tables hold their texts and numbers. -/
import Derived.Test.YtkinapfoigibcaaDoorSegOk
import Derived.Test.YtkinapfoigibcaaDoorStyNm
import Derived.Test.YtkinapfoigibcaaDoorDecCtr
import Derived.Test.YtkinapfoigibcaaDoorDecImpl
namespace Go.Proofs.YtkinapfoigibcaaDoor.ctr
open Go.RowKit

def decT (n : Int) : ByteArray := ⟨(Lib.itoa n).toArray⟩
def offTx (o : Int) : ByteArray := if 0 < o then ⟨#[32, 43]⟩ ++ decT o else if o < 0 then ⟨#[32]⟩ ++ decT o else ⟨#[]⟩
def segTx (s : Seg) : ByteArray := if segOkB s = true then calText s.cal ++ ⟨#[32]⟩ ++ styText s.sty ++ offTx s.off else ⟨#[]⟩
abbrev PowT (w : World) : Prop := Lib.TabIs Tryd.prog w "internal/strconv.uint64pow10" .u64 Lib.pow10Tab
theorem PowT.later {w w1 : World} (h : PowT w) (hb : Below w.heap.size w w1) : PowT w1 := kit.tab_below h hb (g := 2) (by kernel_rfl)
theorem off_cases {o : Int} (h : inB o (-3) 3 = true) : o = -3 ∨ o = -2 ∨ o = -1 ∨ o = 0 ∨ o = 1 ∨ o = 2 ∨ o = 3 := by
  unfold inB at h
  simp at h
  omega
theorem dec_small {o : Int} (h : inB o (-3) 3 = true) : (decT o).size ≤ 2 := by
  rcases off_cases h with rfl | rfl | rfl | rfl | rfl | rfl | rfl <;> decide +kernel
theorem offTx_small {o : Int} (h : inB o (-3) 3 = true) : (offTx o).size ≤ 4 := by
  rcases off_cases h with rfl | rfl | rfl | rfl | rfl | rfl | rfl <;> decide +kernel
theorem sty_small (s : Int) : (styText s).size ≤ 6 := by
  by_cases h : styleP s
  · rcases style_cases h with rfl | rfl | rfl | rfl | rfl | rfl | rfl <;> decide
  · rw [styText_no h]; decide
theorem cal_small (c : Int) : (calText c).size ≤ 20 := by
  unfold calText
  repeat' split
  all_goals decide
theorem segOk_off {s : Seg} (h : segOkB s = true) : inB s.off (-3) 3 = true := by
  unfold segOkB at h
  simp only [Bool.and_eq_true] at h
  exact h.2.2.2.2.2
set_option maxHeartbeats 1000000 in
theorem implOffText (o : Int) (w : World) (h : inB o (-3) 3 = true) (hT : PowT w) : Calls Tryd.prog 24 #[.int .i64 o] w fun e w' => e = .returned (.string (offTx o)) ∧ Below w.heap.size w w' := by
  have ho := off_cases h
  have KD := hideP (implDecText o w (by omega) (by omega) hT)
  have hs := dec_small h
  unfold offTx
  change Hid (Calls _ _ _ _ fun e w' => e = .returned (.string (decT o)) ∧ _) at KD
  clear hT h
  by_cases h1 : 0 < o
  · rw [if_pos h1]
    generalize decT o = t at *
    have hd : decide (0 < o) = true := decide_eq_true h1
    have s1 : ((⟨#[32, 43]⟩ : ByteArray) ++ t).size ≤ 4 := by rw [ByteArray.size_append]; show 2 + t.size ≤ 4; omega
    go_enter Tryd.func24, Tryd.ntmps24
    go_wp2_with fail
    refine KD.out.mono ?_
    rintro e w1 ⟨rfl, hb⟩
    have HB := hideP hb
    clear hb
    go_wp2
    go_ret
    exact ⟨rfl, HB.out⟩
  rw [if_neg h1]
  have hd : decide (0 < o) = false := decide_eq_false h1
  by_cases h2 : o < 0
  · rw [if_pos h2]
    generalize decT o = t at *
    have hd2 : decide (o < 0) = true := decide_eq_true h2
    have s1 : ((⟨#[32]⟩ : ByteArray) ++ t).size ≤ 4 := by rw [ByteArray.size_append]; show 1 + t.size ≤ 4; omega
    go_enter Tryd.func24, Tryd.ntmps24
    go_wp2_with fail
    refine KD.out.mono ?_
    rintro e w1 ⟨rfl, hb⟩
    have HB := hideP hb
    clear hb
    go_wp2
    go_ret
    exact ⟨rfl, HB.out⟩
  · rw [if_neg h2]
    have hd2 : decide (o < 0) = false := decide_eq_false h2
    go_enter Tryd.func24, Tryd.ntmps24
    go_wp2
    go_ret
    exact ⟨rfl, Below.refl _ _⟩
set_option maxHeartbeats 2000000 in
theorem implSegText (s : Seg) (w : World) (hP : PowT w) (hS : TabS w) : Calls Tryd.prog 12 #[.agg #[.int .i64 s.fr, .int .i64 s.to, .int .i64 s.cal, .int .i64 s.sty, .int .i64 s.off]] w fun e w' => e = .returned (.string (segTx s)) ∧ Below w.heap.size w w' := by
  obtain ⟨W0, hW0, c0, c1, c2, c3, c4, hBl⟩ := seg_box w s.fr s.to s.cal s.sty s.off 32
  have HW0 := hideP hW0
  have HBl := hideP hBl
  have KO := hideP (implSegOk s)
  have KC : ∀ y : Later W0, Calls Tryd.prog 22 #[.int .i64 s.cal] y.w fun e w' => e = .returned (.string (calText s.cal)) ∧ w' = y.w := fun y => implCalName s.cal y.w
  have KN : ∀ y : Later W0, Calls Tryd.prog 23 #[.int .i64 s.sty] y.w fun e w' => e = .returned (.string (styText s.sty)) ∧ w' = y.w := fun y => implStyleName s.sty y.w (hS.later (hBl y))
  have KF : segOkB s = true → ∀ y : Later W0, Calls Tryd.prog 24 #[.int .i64 s.off] y.w fun e w' => e = .returned (.string (offTx s.off)) ∧ Below y.w.heap.size y.w w' := fun h y => implOffText s.off y.w (segOk_off h) (hP.later (hBl y))
  have hsz : segOkB s = true → (offTx s.off).size ≤ 4 := fun h => offTx_small (segOk_off h)
  have z1 := cal_small s.cal
  have z2 := sty_small s.sty
  unfold segTx
  clear hW0 hBl hP hS
  generalize segOkB s = b at *
  generalize calText s.cal = tc at *
  generalize styText s.sty = ts at *
  generalize offTx s.off = to at *
  cases b
  · rw [if_neg (by simp)]
    clear KF hsz
    go_enter Tryd.func12, Tryd.ntmps12
    go_wp2_with fail
    rw [← HW0.out]
    refine (KO.out _).mono ?_
    rintro e w1 ⟨rfl, hb⟩
    obtain ⟨x1, rfl⟩ := Later.of hb
    clear hb
    go_wp2
    go_ret
    exact ⟨rfl, HBl.out x1⟩
  · rw [if_pos rfl]
    have z3 := hsz rfl
    have KF' := KF rfl
    clear KF hsz
    have s1 : (tc ++ (⟨#[32]⟩ : ByteArray)).size ≤ 21 := by rw [ByteArray.size_append]; show tc.size + 1 ≤ 21; omega
    have s2 : (tc ++ (⟨#[32]⟩ : ByteArray) ++ ts).size ≤ 27 := by rw [ByteArray.size_append]; omega
    have s3 : (tc ++ (⟨#[32]⟩ : ByteArray) ++ ts ++ to).size ≤ 31 := by rw [ByteArray.size_append]; omega
    go_enter Tryd.func12, Tryd.ntmps12
    go_wp2_with fail
    rw [← HW0.out]
    refine (KO.out _).mono ?_
    rintro e w1 ⟨rfl, hb⟩
    obtain ⟨x1, rfl⟩ := Later.of hb
    clear hb
    go_wp2_with fail
    refine wp_region_later (W := W0) x1.below (by kernel_rfl) (by kernel_rfl) ?_
    repeat (go_big_quiet_step (first | (go_at_call 22; exact calls_same (KC _)) | (go_at_call 23; exact calls_same (KN _)) | (go_at_call 24; exact calls_later (KF' _))))
    refine wpQuiet_nil ?_
    intro _ hw'
    obtain ⟨x, rfl⟩ := hw'
    go_wp2
    go_ret
    exact ⟨rfl, HBl.out x⟩
set_option maxHeartbeats 2000000 in
theorem specSegText (s : Seg) (w : World) : Calls Tryd.prog 10 #[.agg #[.int .i64 s.fr, .int .i64 s.to, .int .i64 s.cal, .int .i64 s.sty, .int .i64 s.off]] w fun e w' => e = .returned (.string (segTx s)) ∧ Below w.heap.size w w' := by
  obtain ⟨W0, hW0, c0, c1, c2, c3, c4, hBl⟩ := seg_box w s.fr s.to s.cal s.sty s.off 32
  have HW0 := hideP hW0
  have HBl := hideP hBl
  have KO := hideP (specSegOk s)
  have KC : ∀ y : Later W0, Calls Tryd.prog 18 #[.int .i64 s.cal] y.w fun e w' => e = .returned (.string (calText s.cal)) ∧ w' = y.w := fun y => specCalName s.cal y.w
  have KN : ∀ y : Later W0, Calls Tryd.prog 19 #[.int .i64 s.sty] y.w fun e w' => e = .returned (.string (styText s.sty)) ∧ Below y.w.heap.size y.w w' := fun y => specStyleName s.sty y.w
  have KD0 : segOkB s = true → ∀ y : Later W0, Calls Tryd.prog 20 #[.int .i64 s.off] y.w fun e w' => e = .returned (.string (decT s.off)) ∧ w' = y.w := fun h y => by
    have := off_cases (segOk_off h)
    exact specDecText s.off y.w (by omega) (by omega)
  have hsz : segOkB s = true → (decT s.off).size ≤ 2 := fun h => dec_small (segOk_off h)
  have z1 := cal_small s.cal
  have z2 := sty_small s.sty
  obtain ⟨R, hR⟩ : ∃ R, R = segTx s := ⟨_, rfl⟩
  have HR := hideP hR
  rw [← hR]
  unfold segTx offTx at HR
  clear hW0 hBl hR
  generalize segOkB s = b at *
  generalize calText s.cal = tc at *
  generalize styText s.sty = ts at *
  generalize decT s.off = td at *
  cases b
  · have HE : Hid (R = ⟨#[]⟩) := HR.out
    clear KD0 hsz HR
    go_enter Tryd.func10, Tryd.ntmps10
    go_wp2_with fail
    rw [← HW0.out]
    refine (KO.out _).mono ?_
    rintro e w1 ⟨rfl, hb⟩
    obtain ⟨x1, rfl⟩ := Later.of hb
    clear hb
    go_wp2
    go_ret
    exact ⟨ret_str HE.out.symm, HBl.out x1⟩
  · have z3 := hsz rfl
    have KD := hideP (KD0 rfl)
    clear KD0 hsz
    have s1 : (tc ++ (⟨#[32]⟩ : ByteArray)).size ≤ 21 := by rw [ByteArray.size_append]; show tc.size + 1 ≤ 21; omega
    have s2 : (tc ++ (⟨#[32]⟩ : ByteArray) ++ ts).size ≤ 27 := by rw [ByteArray.size_append]; omega
    have s3 : (tc ++ (⟨#[32]⟩ : ByteArray) ++ ts ++ (⟨#[32, 43]⟩ : ByteArray)).size ≤ 29 := by rw [ByteArray.size_append]; show _ + 2 ≤ 29; omega
    have s4 : (tc ++ (⟨#[32]⟩ : ByteArray) ++ ts ++ (⟨#[32, 43]⟩ : ByteArray) ++ td).size ≤ 31 := by rw [ByteArray.size_append]; omega
    have s5 : (tc ++ (⟨#[32]⟩ : ByteArray) ++ ts ++ (⟨#[32]⟩ : ByteArray)).size ≤ 29 := by rw [ByteArray.size_append]; show _ + 1 ≤ 29; omega
    have s6 : (tc ++ (⟨#[32]⟩ : ByteArray) ++ ts ++ (⟨#[32]⟩ : ByteArray) ++ td).size ≤ 31 := by rw [ByteArray.size_append]; omega
    by_cases h1 : 0 < s.off
    case pos =>
      have HE : Hid (R = tc ++ ⟨#[32]⟩ ++ ts ++ ⟨#[32, 43]⟩ ++ td) := by unfold Hid; rw [HR.out, if_pos rfl, if_pos h1, ByteArray.append_assoc (a := tc ++ ⟨#[32]⟩ ++ ts)]
      have hd : decide (0 < s.off) = true := decide_eq_true h1
      clear HR
      go_enter Tryd.func10, Tryd.ntmps10
      go_wp2_with fail
      rw [← HW0.out]
      refine (KO.out _).mono ?_
      rintro e w1 ⟨rfl, hb⟩
      obtain ⟨x1, rfl⟩ := Later.of hb
      clear hb
      go_wp2_with fail
      refine wp_region_later (W := W0) x1.below (by kernel_rfl) (by kernel_rfl) ?_
      repeat (go_big_quiet_step (first | (go_at_call 18; exact calls_same (KC _)) | (go_at_call 19; exact calls_later (KN _))))
      refine wpQuiet_nil ?_
      intro _ hw'
      obtain ⟨x, rfl⟩ := hw'
      go_wp2_with fail
      refine (KD.out x).mono ?_
      rintro e w2 ⟨rfl, rfl⟩
      go_wp2
      go_ret
      exact ⟨ret_str HE.out.symm, HBl.out x⟩
    have hd : decide (0 < s.off) = false := decide_eq_false h1
    by_cases h2 : s.off < 0
    case pos =>
      have HE : Hid (R = tc ++ ⟨#[32]⟩ ++ ts ++ ⟨#[32]⟩ ++ td) := by unfold Hid; rw [HR.out, if_pos rfl, if_neg h1, if_pos h2, ByteArray.append_assoc (a := tc ++ ⟨#[32]⟩ ++ ts)]
      have hd2 : decide (s.off < 0) = true := decide_eq_true h2
      clear HR
      go_enter Tryd.func10, Tryd.ntmps10
      go_wp2_with fail
      rw [← HW0.out]
      refine (KO.out _).mono ?_
      rintro e w1 ⟨rfl, hb⟩
      obtain ⟨x1, rfl⟩ := Later.of hb
      clear hb
      go_wp2_with fail
      refine wp_region_later (W := W0) x1.below (by kernel_rfl) (by kernel_rfl) ?_
      repeat (go_big_quiet_step (first | (go_at_call 18; exact calls_same (KC _)) | (go_at_call 19; exact calls_later (KN _))))
      refine wpQuiet_nil ?_
      intro _ hw'
      obtain ⟨x, rfl⟩ := hw'
      go_wp2_with fail
      refine (KD.out x).mono ?_
      rintro e w2 ⟨rfl, rfl⟩
      go_wp2
      go_ret
      exact ⟨ret_str HE.out.symm, HBl.out x⟩
    · have HE : Hid (R = tc ++ ⟨#[32]⟩ ++ ts) := by
        unfold Hid
        rw [HR.out, if_pos rfl, if_neg h1, if_neg h2]
        exact ByteArray.append_empty
      have hd2 : decide (s.off < 0) = false := decide_eq_false h2
      clear HR
      go_enter Tryd.func10, Tryd.ntmps10
      go_wp2_with fail
      rw [← HW0.out]
      refine (KO.out _).mono ?_
      rintro e w1 ⟨rfl, hb⟩
      obtain ⟨x1, rfl⟩ := Later.of hb
      clear hb
      go_wp2_with fail
      refine wp_region_later (W := W0) x1.below (by kernel_rfl) (by kernel_rfl) ?_
      repeat (go_big_quiet_step (first | (go_at_call 18; exact calls_same (KC _)) | (go_at_call 19; exact calls_later (KN _))))
      refine wpQuiet_nil ?_
      intro _ hw'
      obtain ⟨x, rfl⟩ := hw'
      go_wp2
      go_ret
      exact ⟨ret_str HE.out.symm, HBl.out x⟩
end Go.Proofs.YtkinapfoigibcaaDoor.ctr
