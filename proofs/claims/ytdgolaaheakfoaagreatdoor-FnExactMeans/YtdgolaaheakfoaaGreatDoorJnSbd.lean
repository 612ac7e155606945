/- Contract of the program's beginning: the day on which a year of a style begins, where the table of months holds its numbers. Plain laws of years of a style, of no program: which days come twice in a year from Easter to Easter, in which years of 1 January a month's day of a year stands, how long a year is. Contracts of the program's YearStart, YearDays, StyleYear, isInYear: each answers its plain function, where the table of months holds its numbers. -/
import Derived.Test.YtdgolaaheakfoaaGreatDoorJnSbc
import Derived.Test.YtdgolaaheakfoaaGreatDoorJnSaz
import Derived.Test.YtdgolaaheakfoaaGreatDoorJnSba
import Derived.Test.YtdgolaaheakfoaaGreatDoorJnSat
namespace Go.Proofs.YtdgolaaheakfoaaGreatDoor.ctr
open Go.RowKit
theorem beg_one : (#[.func (.func 157) #[] #[], .func (.func 158) #[] #[], .func (.func 159) #[] #[], .func (.func 160) #[] #[], .func (.func 161) #[] #[], .func (.func 162) #[] #[], .func (.func 163) #[] #[]] : Array Value).all (·.oneCell') = true := by first | rfl | kernel_rfl | decide | simp [Value.oneCell']
theorem beg_size : (Tryz.prog.info? 197).map (·.size) = some (#[.func (.func 157) #[] #[], .func (.func 158) #[] #[], .func (.func 159) #[] #[], .func (.func 160) #[] #[], .func (.func 161) #[] #[], .func (.func 162) #[] #[], .func (.func 163) #[] #[]] : Array Value).size := by kernel_rfl
set_option maxHeartbeats 1000000 in
theorem implBeginning (c s y : Int) (w : World) (hT : Tab w) (hc : c = 0 ∨ c = 1) (hs : styleP s) (hy1 : 1 ≤ y) (hy2 : y ≤ 3900) : Calls Tryz.prog 132 #[.int .i64 c, .int .i64 s, .int .i64 y] w fun e w' => e = .returned (.int .i64 (start c s y)) ∧ Below w.heap.size w w' := by
  obtain ⟨W1, hW1⟩ : ∃ W1, W1 = (w.alloc (.cells #[.nilFunc, .nilFunc, .nilFunc, .nilFunc, .nilFunc, .nilFunc, .nilFunc] 197)).setRow w.heap.size #[.func (.func 157) #[] #[], .func (.func 158) #[] #[], .func (.func 159) #[] #[], .func (.func 160) #[] #[], .func (.func 161) #[] #[], .func (.func 162) #[] #[], .func (.func 163) #[] #[]] := ⟨_, rfl⟩
  have HB : Hid (Blk W1 w.heap.size #[.func (.func 157) #[] #[], .func (.func 158) #[] #[], .func (.func 159) #[] #[], .func (.func 160) #[] #[], .func (.func 161) #[] #[], .func (.func 162) #[] #[], .func (.func 163) #[] #[]] 197) := by unfold Hid; rw [hW1]; exact (Blk.new w _ _).setRow _
  have HL : Hid (Below w.heap.size w W1) := by unfold Hid; rw [hW1]; exact below_setRow ((Below.refl _ _).alloc (Nat.le_refl _) _) _ (Nat.le_refl _)
  have HW1 := hideP hW1
  have KT : Tab W1 := hT.later HL.out
  clear hT hW1
  rcases style_cases hs with rfl | rfl | rfl | rfl | rfl | rfl | rfl
  · have ck : W1.cell? ⟨w.heap.size, 0, none⟩ = some (.func (.func 157) #[] #[]) := HB.out.cell 0 rfl
    have KL : Calls Tryz.prog 157 #[.agg #[.int .i64 c, .int .i64 y]] W1 fun e w' => e = .returned (.int .i64 (start c 0 y)) ∧ Below W1.heap.size W1 w' := by rw [start_0]; exact impl_january c y W1 KT hc (by omega) (by omega)
    clear KT hc hs
    generalize start c 0 y = R at *
    go_enter Tryz.func132, Tryz.ntmps132
    go_wp2_with (refine wpList_store_row _ rfl 197 _ _ rfl w.heap.size #[.nilFunc, .nilFunc, .nilFunc, .nilFunc, .nilFunc, .nilFunc, .nilFunc] #[.func (.func 157) #[] #[], .func (.func 158) #[] #[], .func (.func 159) #[] #[], .func (.func 160) #[] #[], .func (.func 161) #[] #[], .func (.func 162) #[] #[], .func (.func 163) #[] #[]] rfl rfl (Blk.new w _ _) beg_size rfl beg_one ?_; rw [← HW1.out])
    refine KL.mono ?_
    rintro e w1 ⟨rfl, hb⟩
    go_wp2
    go_ret
    exact ⟨rfl, HL.out.trans (hb.mono HL.out.size)⟩
  · have ck : W1.cell? ⟨w.heap.size, 1, none⟩ = some (.func (.func 158) #[] #[]) := HB.out.cell 1 rfl
    have KL : Calls Tryz.prog 158 #[.agg #[.int .i64 c, .int .i64 y]] W1 fun e w' => e = .returned (.int .i64 (start c 1 y)) ∧ Below W1.heap.size W1 w' := by rw [start_1]; exact impl_march c y W1 KT hc (by omega) (by omega)
    clear KT hc hs
    generalize start c 1 y = R at *
    go_enter Tryz.func132, Tryz.ntmps132
    go_wp2_with (refine wpList_store_row _ rfl 197 _ _ rfl w.heap.size #[.nilFunc, .nilFunc, .nilFunc, .nilFunc, .nilFunc, .nilFunc, .nilFunc] #[.func (.func 157) #[] #[], .func (.func 158) #[] #[], .func (.func 159) #[] #[], .func (.func 160) #[] #[], .func (.func 161) #[] #[], .func (.func 162) #[] #[], .func (.func 163) #[] #[]] rfl rfl (Blk.new w _ _) beg_size rfl beg_one ?_; rw [← HW1.out])
    refine KL.mono ?_
    rintro e w1 ⟨rfl, hb⟩
    go_wp2
    go_ret
    exact ⟨rfl, HL.out.trans (hb.mono HL.out.size)⟩
  · have ck : W1.cell? ⟨w.heap.size, 2, none⟩ = some (.func (.func 159) #[] #[]) := HB.out.cell 2 rfl
    have KL : Calls Tryz.prog 159 #[.agg #[.int .i64 c, .int .i64 y]] W1 fun e w' => e = .returned (.int .i64 (start c 2 y)) ∧ Below W1.heap.size W1 w' := by rw [start_2]; exact impl_lady c y W1 KT hc (by omega) (by omega)
    clear KT hc hs
    generalize start c 2 y = R at *
    go_enter Tryz.func132, Tryz.ntmps132
    go_wp2_with (refine wpList_store_row _ rfl 197 _ _ rfl w.heap.size #[.nilFunc, .nilFunc, .nilFunc, .nilFunc, .nilFunc, .nilFunc, .nilFunc] #[.func (.func 157) #[] #[], .func (.func 158) #[] #[], .func (.func 159) #[] #[], .func (.func 160) #[] #[], .func (.func 161) #[] #[], .func (.func 162) #[] #[], .func (.func 163) #[] #[]] rfl rfl (Blk.new w _ _) beg_size rfl beg_one ?_; rw [← HW1.out])
    refine KL.mono ?_
    rintro e w1 ⟨rfl, hb⟩
    go_wp2
    go_ret
    exact ⟨rfl, HL.out.trans (hb.mono HL.out.size)⟩
  · have ck : W1.cell? ⟨w.heap.size, 3, none⟩ = some (.func (.func 160) #[] #[]) := HB.out.cell 3 rfl
    have KL : Calls Tryz.prog 160 #[.agg #[.int .i64 c, .int .i64 y]] W1 fun e w' => e = .returned (.int .i64 (start c 3 y)) ∧ Below W1.heap.size W1 w' := by rw [start_3]; exact impl_pisa c y W1 KT hc (by omega) (by omega)
    clear KT hc hs
    generalize start c 3 y = R at *
    go_enter Tryz.func132, Tryz.ntmps132
    go_wp2_with (refine wpList_store_row _ rfl 197 _ _ rfl w.heap.size #[.nilFunc, .nilFunc, .nilFunc, .nilFunc, .nilFunc, .nilFunc, .nilFunc] #[.func (.func 157) #[] #[], .func (.func 158) #[] #[], .func (.func 159) #[] #[], .func (.func 160) #[] #[], .func (.func 161) #[] #[], .func (.func 162) #[] #[], .func (.func 163) #[] #[]] rfl rfl (Blk.new w _ _) beg_size rfl beg_one ?_; rw [← HW1.out])
    refine KL.mono ?_
    rintro e w1 ⟨rfl, hb⟩
    go_wp2
    go_ret
    exact ⟨rfl, HL.out.trans (hb.mono HL.out.size)⟩
  · have ck : W1.cell? ⟨w.heap.size, 4, none⟩ = some (.func (.func 161) #[] #[]) := HB.out.cell 4 rfl
    have KL : Calls Tryz.prog 161 #[.agg #[.int .i64 c, .int .i64 y]] W1 fun e w' => e = .returned (.int .i64 (start c 4 y)) ∧ Below W1.heap.size W1 w' := by rw [start_4]; exact impl_easter c y W1 KT hc (by omega) (by omega)
    clear KT hc hs
    generalize start c 4 y = R at *
    go_enter Tryz.func132, Tryz.ntmps132
    go_wp2_with (refine wpList_store_row _ rfl 197 _ _ rfl w.heap.size #[.nilFunc, .nilFunc, .nilFunc, .nilFunc, .nilFunc, .nilFunc, .nilFunc] #[.func (.func 157) #[] #[], .func (.func 158) #[] #[], .func (.func 159) #[] #[], .func (.func 160) #[] #[], .func (.func 161) #[] #[], .func (.func 162) #[] #[], .func (.func 163) #[] #[]] rfl rfl (Blk.new w _ _) beg_size rfl beg_one ?_; rw [← HW1.out])
    refine KL.mono ?_
    rintro e w1 ⟨rfl, hb⟩
    go_wp2
    go_ret
    exact ⟨rfl, HL.out.trans (hb.mono HL.out.size)⟩
  · have ck : W1.cell? ⟨w.heap.size, 5, none⟩ = some (.func (.func 162) #[] #[]) := HB.out.cell 5 rfl
    have KL : Calls Tryz.prog 162 #[.agg #[.int .i64 c, .int .i64 y]] W1 fun e w' => e = .returned (.int .i64 (start c 5 y)) ∧ Below W1.heap.size W1 w' := by rw [start_5]; exact impl_september c y W1 KT hc (by omega) (by omega)
    clear KT hc hs
    generalize start c 5 y = R at *
    go_enter Tryz.func132, Tryz.ntmps132
    go_wp2_with (refine wpList_store_row _ rfl 197 _ _ rfl w.heap.size #[.nilFunc, .nilFunc, .nilFunc, .nilFunc, .nilFunc, .nilFunc, .nilFunc] #[.func (.func 157) #[] #[], .func (.func 158) #[] #[], .func (.func 159) #[] #[], .func (.func 160) #[] #[], .func (.func 161) #[] #[], .func (.func 162) #[] #[], .func (.func 163) #[] #[]] rfl rfl (Blk.new w _ _) beg_size rfl beg_one ?_; rw [← HW1.out])
    refine KL.mono ?_
    rintro e w1 ⟨rfl, hb⟩
    go_wp2
    go_ret
    exact ⟨rfl, HL.out.trans (hb.mono HL.out.size)⟩
  · have ck : W1.cell? ⟨w.heap.size, 6, none⟩ = some (.func (.func 163) #[] #[]) := HB.out.cell 6 rfl
    have KL : Calls Tryz.prog 163 #[.agg #[.int .i64 c, .int .i64 y]] W1 fun e w' => e = .returned (.int .i64 (start c 6 y)) ∧ Below W1.heap.size W1 w' := by rw [start_6]; exact impl_yule c y W1 KT hc (by omega) (by omega)
    clear KT hc hs
    generalize start c 6 y = R at *
    go_enter Tryz.func132, Tryz.ntmps132
    go_wp2_with (refine wpList_store_row _ rfl 197 _ _ rfl w.heap.size #[.nilFunc, .nilFunc, .nilFunc, .nilFunc, .nilFunc, .nilFunc, .nilFunc] #[.func (.func 157) #[] #[], .func (.func 158) #[] #[], .func (.func 159) #[] #[], .func (.func 160) #[] #[], .func (.func 161) #[] #[], .func (.func 162) #[] #[], .func (.func 163) #[] #[]] rfl rfl (Blk.new w _ _) beg_size rfl beg_one ?_; rw [← HW1.out])
    refine KL.mono ?_
    rintro e w1 ⟨rfl, hb⟩
    go_wp2
    go_ret
    exact ⟨rfl, HL.out.trans (hb.mono HL.out.size)⟩
end Go.Proofs.YtdgolaaheakfoaaGreatDoor.ctr
namespace Go.Proofs.YtdgolaaheakfoaaGreatDoor.ctr
open Go.RowKit
theorem first_le' {c y z : Int} (hc : c = 0 ∨ c = 1) (h : y ≤ z) : first c y ≤ first c z := by
  by_cases e : y = z
  · subst e; omega
  · have := first_lt hc (show y < z by omega); omega
def solP (c s y m d z : Int) : Prop := yearP c y ∧ styleP s ∧ dateP c z m d ∧ start c s y ≤ lineD c z m d ∧ lineD c z m d < start c s (y + 1)
instance (c s y m d z : Int) : Decidable (solP c s y m d z) := by unfold solP; infer_instance
end Go.Proofs.YtdgolaaheakfoaaGreatDoor.ctr
namespace Go.Proofs.YtdgolaaheakfoaaGreatDoor.ctr
open Go.RowKit
set_option maxHeartbeats 2000000 in
theorem implStyleYear (c s n : Int) (w : World) (hT : Tab w) : Calls Tryz.prog 97 #[.int .i64 c, .int .i64 s, .int .i64 n] w fun e w' => e = .returned (styR c s n) ∧ Below w.heap.size w w' := by
  have KD := implDateOf c n w hT
  rcases date_cases c n with hD | ⟨Y, m, d, hD, hc, hY1, hY2, hn1, hn2⟩
  · rw [dateR_no hD] at KD
    have HR : Hid (styR c s n = .tuple #[.int .i64 0, .bool false]) := styR_no (sty_none hD)
    rw [HR.out]
    clear hD HR hT
    unfold z4 at KD
    go_enter Tryz.func97, Tryz.ntmps97
    go_wp2_with fail
    refine KD.mono ?_
    rintro e w1 ⟨rfl, hb⟩
    go_wp2
    go_returns
    exact ⟨rfl, hb.alloc hb.size _⟩
  · rw [dateR_yes hD] at KD
    have KS : ∀ W, Calls Tryz.prog 131 #[.int .i64 s] W fun e w' => e = .returned (.bool (styleB s)) ∧ Below W.heap.size W w' := fun W => calls_below (implStyleOk s W)
    by_cases hs : styleP s
    · simp only [styleB_true hs] at KS
      have KB : Hid (∀ (y : Int), 0 ≤ y → y ≤ 3001 → ∀ x : Later w, Calls Tryz.prog 132 #[.int .i64 c, .int .i64 s, .int .i64 (y + 1)] x.w fun e w' => e = .returned (.int .i64 (start c s (y + 1))) ∧ Below x.w.heap.size x.w w') := fun y h1 h2 x => implBeginning c s (y + 1) x.w (hT.later x.below) hc hs (by omega) (by omega)
      have HRaw : Hid (∀ y, (y = Y - 1 ∨ y = Y ∨ y = Y + 1) → (Y ≤ y → start c s Y ≤ n) → (Y + 1 ≤ y → start c s (Y + 1) ≤ n) → (y ≤ Y → n < start c s (y + 1)) → rawYear c s Y n = y) := fun y h h1 h2 he => raw_of h h1 h2 he
      have HO : Hid (1 ≤ rawYear c s Y n → rawYear c s Y n ≤ 3000 → styR c s n = .tuple #[.int .i64 (rawYear c s Y n), .bool true]) := fun h1 h2 => styR_yes (sty_yes hD hs h1 h2)
      have HN : Hid (¬ (1 ≤ rawYear c s Y n ∧ rawYear c s Y n ≤ 3000) → styR c s n = .tuple #[.int .i64 0, .bool false]) := fun h => styR_no (sty_out hD h)
      generalize styR c s n = R at *
      clear hD hn1 hn2 hc hs hT
      go_enter Tryz.func97, Tryz.ntmps97
      go_wp2_with fail
      refine KD.mono ?_
      rintro e w1 ⟨rfl, hb1⟩
      have HB1 := hideP hb1
      obtain ⟨W0, hW0⟩ : ∃ W0, W0 = w1.alloc (.cells #[.int .i64 c, .int .i64 Y, .int .i64 m, .int .i64 d] 92) := ⟨_, rfl⟩
      have HW0 := hideP hW0
      have c1 : ∀ x : Later W0, x.w.cell? ⟨w1.heap.size, 1, none⟩ = some (.int .i64 Y) := Later.new hW0 1 rfl
      have HL : Hid (∀ x : Later W0, Below w.heap.size w x.w) := fun x => HB1.out.trans ((below_of_alloc HW0.out x.below).mono HB1.out.size)
      clear hb1 hW0 KD
      go_wp2_with fail
      rw [← HW0.out]
      refine (KS _).mono ?_
      rintro e w2 ⟨rfl, hb⟩
      obtain ⟨x1, rfl⟩ := Later.of hb
      clear hb
      go_wp2_with fail
      go_loopw [10] (fun i wr => ∃ (y : Int) (x : Later W0), i = .int .i64 y ∧ wr = x.w ∧ Y - 1 ≤ y ∧ y ≤ Y + 1 ∧ Hid (Y ≤ y → start c s Y ≤ n) ∧ Hid (Y + 1 ≤ y → start c s (Y + 1) ≤ n)) (fun i _ => (4000 - intOf i).toNat)
      case atStart => exact ⟨Y - 1, x1, rfl, rfl, by omega, by omega, fun h => by omega, fun h => by omega⟩
      case round =>
        obtain ⟨y, x, rfl, rfl, y1, y2, H1, H2⟩ := hrel
        have K := KB.out y (by omega) (by omega) ⟨x.w, HL.out x⟩
        by_cases hyY : y ≤ Y
        · by_cases hle : start c s (y + 1) ≤ n
          · have H1' : Hid (Y ≤ y + 1 → start c s Y ≤ n) := fun h => by
              by_cases e : Y ≤ y
              · exact H1.out e
              · rw [show Y = y + 1 by omega]; exact hle
            have H2' : Hid (Y + 1 ≤ y + 1 → start c s (Y + 1) ≤ n) := fun h => by
              rw [show Y = y by omega]; exact hle
            clear H1 H2
            generalize start c s (y + 1) = S at *
            have hd1 : decide (y ≤ Y) = true := decide_eq_true hyY
            have hd2 : decide (S ≤ n) = true := decide_eq_true hle
            go_wp2_with fail
            refine K.mono ?_
            rintro e w3 ⟨rfl, hb⟩
            obtain ⟨x3, rfl⟩ := x.next hb
            clear hb
            go_wp2
            exact ⟨⟨y + 1, x3, rfl, rfl, by omega, by omega, H1', H2'⟩, by simp [intOf]; omega⟩
          · have hraw : rawYear c s Y n = y := HRaw.out y (by omega) H1.out H2.out (fun _ => by omega)
            rw [hraw] at HO HN
            clear H1 H2 HRaw hraw KB
            generalize start c s (y + 1) = S at *
            have hd1 : decide (y ≤ Y) = true := decide_eq_true hyY
            have hd2 : decide (S ≤ n) = false := decide_eq_false hle
            by_cases hlo : y < 1
            · go_wp2_with fail
              refine K.mono ?_
              rintro e w3 ⟨rfl, hb⟩
              obtain ⟨x3, rfl⟩ := x.next hb
              clear hb
              go_wp2
              go_returns
              rw [HN.out (by omega)]
              exact ⟨rfl, HL.out x3⟩
            · have hlo' : decide (y < 1) = false := decide_eq_false hlo
              have hhi' : decide (3000 < y) = false := decide_eq_false (by omega)
              go_wp2_with fail
              refine K.mono ?_
              rintro e w3 ⟨rfl, hb⟩
              obtain ⟨x3, rfl⟩ := x.next hb
              clear hb
              go_wp2
              go_returns
              rw [HO.out (by omega) (by omega)]
              exact ⟨rfl, HL.out x3⟩
        · have hraw : rawYear c s Y n = y := HRaw.out y (by omega) H1.out H2.out (fun h => by omega)
          rw [hraw] at HO HN
          clear H1 H2 HRaw hraw KB K
          have hd1 : decide (y ≤ Y) = false := decide_eq_false hyY
          by_cases hhi : 3000 < y
          · have hlo' : decide (y < 1) = false := decide_eq_false (by omega)
            have hhi' : decide (3000 < y) = true := decide_eq_true hhi
            go_wp2
            go_returns
            rw [HN.out (by omega)]
            exact ⟨rfl, HL.out x⟩
          · have hlo' : decide (y < 1) = false := decide_eq_false (by omega)
            have hhi' : decide (3000 < y) = false := decide_eq_false hhi
            go_wp2
            go_returns
            rw [HO.out (by omega) (by omega)]
            exact ⟨rfl, HL.out x⟩
    · simp only [styleB_false hs] at KS
      have HR : Hid (styR c s n = .tuple #[.int .i64 0, .bool false]) := styR_no (sty_style hs)
      rw [HR.out]
      clear hD HR hs hn1 hn2 hc hT
      go_enter Tryz.func97, Tryz.ntmps97
      go_wp2_with fail
      refine KD.mono ?_
      rintro e w1 ⟨rfl, hb1⟩
      have HB1 := hideP hb1
      clear hb1
      go_wp2_with fail
      refine (KS _).mono ?_
      rintro e w2 ⟨rfl, hb⟩
      have HB2 := hideP (below_alloc hb)
      clear hb
      go_wp2
      go_returns
      exact ⟨rfl, HB1.out.trans (HB2.out.mono HB1.out.size)⟩
end Go.Proofs.YtdgolaaheakfoaaGreatDoor.ctr
