/- Contracts of the program's YearStart, YearDays, StyleYear, isInYear: each answers its plain function, where the table of months holds its numbers. -/
import Derived.Test.YtdmlhiailjnhcaaGreatDoorJnXay
import Derived.Test.YtdmlhiailjnhcaaGreatDoorJnXaw
import Derived.Test.YtdmlhiailjnhcaaGreatDoorJnXal
import Derived.Test.YtdmlhiailjnhcaaGreatDoorJnXar
namespace Go.Proofs.YtdmlhiailjnhcaaGreatDoor.ctr
open Go.RowKit
set_option maxHeartbeats 2000000 in
theorem implStyleYear (c s n : Int) (w : World) (hT : Tab w) : CR 143 #[.int .i64 c, .int .i64 s, .int .i64 n] w (styR c s n) := by
 have KD := implDateOf c n w hT
 rcases date_cases c n with hD | ⟨Y, m, d, hD, hc, hY1, hY2, hn1, hn2⟩
 · rw [dateR_no hD] at KD
   have HR : Hid (styR c s n = .tuple #[.int .i64 0, .bool false]) := styR_no (sty_none hD)
   rw [HR.out]
   clear hD HR hT
   unfold z4 at KD
   go_enter Tryz.func143, Tryz.ntmps143
   go_wp2_with fail
   refine KD.mono ?_
   rintro e w1 ⟨rfl, hb⟩
   go_wp2
   go_returns
   exact ⟨rfl, hb.alloc hb.size _⟩
 · rw [dateR_yes hD] at KD
   have KS : ∀ W, CR 181 #[.int .i64 s] W (.bool (styleB s)) := fun W => calls_below (implStyleOk s W)
   by_cases hs : styleP s
   · simp only [styleB_true hs] at KS
     have KB : Hid (∀ (y : Int), 0 ≤ y → y ≤ 3001 → ∀ x : Later w, CR 182 #[.int .i64 c, .int .i64 s, .int .i64 (y + 1)] x.w (.int .i64 (start c s (y + 1)))) := fun y h1 h2 x => implBeginning c s (y + 1) x.w (hT.later x.below) hc hs (by omega) (by omega)
     have HRaw : Hid (∀ y, (y = Y - 1 ∨ y = Y ∨ y = Y + 1) → (Y ≤ y → start c s Y ≤ n) → (Y + 1 ≤ y → start c s (Y + 1) ≤ n) → (y ≤ Y → n < start c s (y + 1)) → rawYear c s Y n = y) := fun y h h1 h2 he => raw_of h h1 h2 he
     have HO : Hid (1 ≤ rawYear c s Y n → rawYear c s Y n ≤ 3000 → styR c s n = .tuple #[.int .i64 (rawYear c s Y n), .bool true]) := fun h1 h2 => styR_yes (sty_yes hD hs h1 h2)
     have HN : Hid (¬ (1 ≤ rawYear c s Y n ∧ rawYear c s Y n ≤ 3000) → styR c s n = .tuple #[.int .i64 0, .bool false]) := fun h => styR_no (sty_out hD h)
     generalize styR c s n = R at *
     clear hD hn1 hn2 hc hs hT
     go_enter Tryz.func143, Tryz.ntmps143
     go_wp2_with fail
     refine KD.mono ?_
     rintro e w1 ⟨rfl, hb1⟩
     have HB1 := hideP hb1
     obtain ⟨W0, hW0⟩ : ∃ W0, W0 = w1.alloc (.cells #[.int .i64 c, .int .i64 Y, .int .i64 m, .int .i64 d] 99) := ⟨_, rfl⟩
     have HW0 := hideP hW0
     have c1 : ∀ x : Later W0, x.w.cell? ⟨w1.heap.size, 1, none⟩ = some (.int .i64 Y) := Later.new hW0 1 rfl
     have HL : Hid (∀ x : Later W0, Below w.heap.size w x.w) := fun x => HB1.out.trans ((below_of_alloc HW0.out x.below).mono HB1.out.size)
     clear hb1 hW0 KD
     go_wp2_with fail
     rw [← HW0.out]
     refine latO (KS _) fun x1 => ?_
     go_wp2_with fail
     go_loopw [10] (fun i wr => ∃ (y : Int) (x : Later W0), i = .int .i64 y ∧ wr = x.w ∧ Y - 1 ≤ y ∧ y ≤ Y + 1 ∧ Hid (Y ≤ y → start c s Y ≤ n) ∧ Hid (Y + 1 ≤ y → start c s (Y + 1) ≤ n)) (fun i _ => (4000 - intOf i).toNat)
     case atStart => exact ⟨Y - 1, x1, rfl, rfl, by omega, by omega, fun h => by omega, fun h => by omega⟩
     case round =>
      obtain ⟨y, x, rfl, rfl, y1, y2, H1, H2⟩ := hrel
      have K := KB.out y (by omega) (by omega) ⟨x.w, HL.out x⟩
      by_cases hyY : y ≤ Y
      · by_cases hle : start c s (y + 1) ≤ n
        · have H1' : Hid (Y ≤ y + 1 → start c s Y ≤ n) := fun h => by
           by_cases e : Y ≤ y
           · exact H1.out e
           · rw [show Y = y + 1 by omega]; exact hle
          have H2' : Hid (Y + 1 ≤ y + 1 → start c s (Y + 1) ≤ n) := fun h => by
           rw [show Y = y by omega]; exact hle
          clear H1 H2
          generalize start c s (y + 1) = S at *
          have hd1 : decide (y ≤ Y) = true := decide_eq_true hyY
          have hd2 : decide (S ≤ n) = true := decide_eq_true hle
          go_wp2_with fail
          refine lat K fun x3 => ?_
          go_wp2
          exact ⟨⟨y + 1, x3, rfl, rfl, by omega, by omega, H1', H2'⟩, by simp [intOf]; omega⟩
        · have hraw : rawYear c s Y n = y := HRaw.out y (by omega) H1.out H2.out (fun _ => by omega)
          rw [hraw] at HO HN
          clear H1 H2 HRaw hraw KB
          generalize start c s (y + 1) = S at *
          have hd1 : decide (y ≤ Y) = true := decide_eq_true hyY
          have hd2 : decide (S ≤ n) = false := decide_eq_false hle
          by_cases hlo : y < 1
          · go_wp2_with fail
            refine lat K fun x3 => ?_
            go_wp2
            go_returns
            rw [HN.out (by omega)]
            exact ⟨rfl, HL.out x3⟩
          · have hlo' : decide (y < 1) = false := decide_eq_false hlo
            have hhi' : decide (3000 < y) = false := decide_eq_false (by omega)
            go_wp2_with fail
            refine lat K fun x3 => ?_
            go_wp2
            go_returns
            rw [HO.out (by omega) (by omega)]
            exact ⟨rfl, HL.out x3⟩
      · have hraw : rawYear c s Y n = y := HRaw.out y (by omega) H1.out H2.out (fun h => by omega)
        rw [hraw] at HO HN
        clear H1 H2 HRaw hraw KB K
        have hd1 : decide (y ≤ Y) = false := decide_eq_false hyY
        by_cases hhi : 3000 < y
        · have hlo' : decide (y < 1) = false := decide_eq_false (by omega)
          have hhi' : decide (3000 < y) = true := decide_eq_true hhi
          go_wp2
          go_returns
          rw [HN.out (by omega)]
          exact ⟨rfl, HL.out x⟩
        · have hlo' : decide (y < 1) = false := decide_eq_false (by omega)
          have hhi' : decide (3000 < y) = false := decide_eq_false hhi
          go_wp2
          go_returns
          rw [HO.out (by omega) (by omega)]
          exact ⟨rfl, HL.out x⟩
   · simp only [styleB_false hs] at KS
     have HR : Hid (styR c s n = .tuple #[.int .i64 0, .bool false]) := styR_no (sty_style hs)
     rw [HR.out]
     clear hD HR hs hn1 hn2 hc hT
     go_enter Tryz.func143, Tryz.ntmps143
     go_wp2_with fail
     refine KD.mono ?_
     rintro e w1 ⟨rfl, hb1⟩
     have HB1 := hideP hb1
     clear hb1
     go_wp2_with fail
     refine (KS _).mono ?_
     rintro e w2 ⟨rfl, hb⟩
     have HB2 := hideP (below_alloc hb)
     clear hb
     go_wp2
     go_returns
     exact ⟨rfl, HB1.out.trans (HB2.out.mono HB1.out.size)⟩
end Go.Proofs.YtdmlhiailjnhcaaGreatDoor.ctr
