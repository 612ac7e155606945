/- Contracts of the model's l06Start, l06Year, YearStart, YearDays, StyleYear: each answers its plain function. Plain facts on the segments of a right regime: they stand in order and apart, so halves find the one segment of a day; what a day is called. The program's search by halves for a day's segment: the closure, sort.Search over it. Contract of the program's segmentOn: in a right regime, at a day of it, the one segment that SegAt tells. A whole array by value, of no program: loaded out of its block, stored into a block of its own, handed back. Contracts of the program's beginnings of years: the methods of solarYear, beginning. Each answers its plain function where the table of months holds its numbers. Contract of the program's beginning: the day on which a year of a style begins, where the table of months holds its numbers. Plain laws of years of a style, of no program: which days come twice in a year from Easter to Easter, in which years of 1 January a month's day of a year stands, how long a year is. Contracts of the program's YearStart, YearDays, StyleYear, isInYear: each answers its plain function, where the table of months holds its numbers. A region that draws its order, one of whose calls may end in a panic. -/
import Derived.Test.YtjojgfdfbkmlkaaGreatDoorJnDav
import Derived.Test.YtjojgfdfbkmlkaaGreatDoorJnDbh
import Derived.Test.YtjojgfdfbkmlkaaGreatDoorJnDap
import Derived.Test.YtjojgfdfbkmlkaaGreatDoorJnDar
import Derived.Deep.LoopGhost
import Derived.Test.YtjojgfdfbkmlkaaGreatDoorJnDac
import Derived.Deep.WholeRow
import Derived.Test.YtjojgfdfbkmlkaaGreatDoorJnDaq
import Derived.Test.YtjojgfdfbkmlkaaGreatDoorJnDas
import Derived.Deep.RegionHeld2
namespace Go.Proofs.YtjojgfdfbkmlkaaGreatDoor.ctr
open Go.RowKit
theorem calls_below {P : Program} {f : FuncId} {args : Array Value} {W : World} {v : Value} (h : Calls P f args W fun e w' => e = .returned v ∧ w' = W) : Calls P f args W fun e w' => e = .returned v ∧ Below W.heap.size W w' :=
  h.mono fun _ _ ⟨he, hm⟩ => ⟨he, by rw [hm]; exact Below.refl _ _⟩
set_option maxHeartbeats 1000000 in
theorem specStart (c s y : Int) (w : World) (hc : c = 0 ∨ c = 1) (hs : styleP s) (hy1 : 1 ≤ y) (hy2 : y ≤ 3900) : Calls Tryz.prog 137 #[.int .i64 c, .int .i64 s, .int .i64 y] w fun e w' => e = .returned (.int .i64 (start c s y)) ∧ Below w.heap.size w w' := by
  rcases style_cases hs with rfl | rfl | rfl | rfl | rfl | rfl | rfl
  · have K : ∀ x : Later w, Calls Tryz.prog 174 #[.int .i64 c, .int .i64 y] x.w fun e w' => e = .returned (.int .i64 (start c 0 y)) ∧ Below x.w.heap.size x.w w' := fun x => calls_below (specFirst c y x.w hc (by omega) (by omega))
    generalize start c 0 y = R at *
    clear hc hs
    go_enter Tryz.func137, Tryz.ntmps137
    go_wp2_with fail
    refine (K ⟨w, Below.refl _ _⟩).mono ?_
    rintro e w1 ⟨rfl, hb⟩
    obtain ⟨x1, rfl⟩ := Later.of hb
    clear hb
    go_wp2
    go_ret
    exact ⟨rfl, x1.below⟩
  · have K : ∀ x : Later w, Calls Tryz.prog 109 #[.int .i64 c, .int .i64 y, .int .i64 3, .int .i64 1] x.w fun e w' => e = .returned (.int .i64 (start c 1 y)) ∧ Below x.w.heap.size x.w w' := fun x => by rw [start_1]; exact specDay c y 3 1 x.w hc (by omega) (by omega) (by omega) (by omega) (by omega)
    generalize start c 1 y = R at *
    clear hc hs
    go_enter Tryz.func137, Tryz.ntmps137
    go_wp2_with fail
    refine (K ⟨w, Below.refl _ _⟩).mono ?_
    rintro e w1 ⟨rfl, hb⟩
    obtain ⟨x1, rfl⟩ := Later.of hb
    clear hb
    go_wp2
    go_ret
    exact ⟨rfl, x1.below⟩
  · have K : ∀ x : Later w, Calls Tryz.prog 109 #[.int .i64 c, .int .i64 y, .int .i64 3, .int .i64 25] x.w fun e w' => e = .returned (.int .i64 (start c 2 y)) ∧ Below x.w.heap.size x.w w' := fun x => by rw [start_2]; exact specDay c y 3 25 x.w hc (by omega) (by omega) (by omega) (by omega) (by omega)
    generalize start c 2 y = R at *
    clear hc hs
    go_enter Tryz.func137, Tryz.ntmps137
    go_wp2_with fail
    refine (K ⟨w, Below.refl _ _⟩).mono ?_
    rintro e w1 ⟨rfl, hb⟩
    obtain ⟨x1, rfl⟩ := Later.of hb
    clear hb
    go_wp2
    go_ret
    exact ⟨rfl, x1.below⟩
  · have K : ∀ x : Later w, Calls Tryz.prog 109 #[.int .i64 c, .int .i64 (y - 1), .int .i64 3, .int .i64 25] x.w fun e w' => e = .returned (.int .i64 (start c 3 y)) ∧ Below x.w.heap.size x.w w' := fun x => by rw [start_3]; exact specDay c (y - 1) 3 25 x.w hc (by omega) (by omega) (by omega) (by omega) (by omega)
    generalize start c 3 y = R at *
    clear hc hs
    go_enter Tryz.func137, Tryz.ntmps137
    go_wp2_with fail
    refine (K ⟨w, Below.refl _ _⟩).mono ?_
    rintro e w1 ⟨rfl, hb⟩
    obtain ⟨x1, rfl⟩ := Later.of hb
    clear hb
    go_wp2
    go_ret
    exact ⟨rfl, x1.below⟩
  · have K : ∀ x : Later w, Calls Tryz.prog 207 #[.int .i64 c, .int .i64 y] x.w fun e w' => e = .returned (.int .i64 (start c 4 y)) ∧ Below x.w.heap.size x.w w' := fun x => by rw [start_4]; exact specL03 c y x.w hc hy1 (by omega)
    generalize start c 4 y = R at *
    clear hc hs
    go_enter Tryz.func137, Tryz.ntmps137
    go_wp2_with fail
    refine (K ⟨w, Below.refl _ _⟩).mono ?_
    rintro e w1 ⟨rfl, hb⟩
    obtain ⟨x1, rfl⟩ := Later.of hb
    clear hb
    go_wp2
    go_ret
    exact ⟨rfl, x1.below⟩
  · have K : ∀ x : Later w, Calls Tryz.prog 109 #[.int .i64 c, .int .i64 (y - 1), .int .i64 9, .int .i64 1] x.w fun e w' => e = .returned (.int .i64 (start c 5 y)) ∧ Below x.w.heap.size x.w w' := fun x => by rw [start_5]; exact specDay c (y - 1) 9 1 x.w hc (by omega) (by omega) (by omega) (by omega) (by omega)
    generalize start c 5 y = R at *
    clear hc hs
    go_enter Tryz.func137, Tryz.ntmps137
    go_wp2_with fail
    refine (K ⟨w, Below.refl _ _⟩).mono ?_
    rintro e w1 ⟨rfl, hb⟩
    obtain ⟨x1, rfl⟩ := Later.of hb
    clear hb
    go_wp2
    go_ret
    exact ⟨rfl, x1.below⟩
  · have K : ∀ x : Later w, Calls Tryz.prog 109 #[.int .i64 c, .int .i64 (y - 1), .int .i64 12, .int .i64 25] x.w fun e w' => e = .returned (.int .i64 (start c 6 y)) ∧ Below x.w.heap.size x.w w' := fun x => by rw [start_6]; exact specDay c (y - 1) 12 25 x.w hc (by omega) (by omega) (by omega) (by omega) (by omega)
    generalize start c 6 y = R at *
    clear hc hs
    go_enter Tryz.func137, Tryz.ntmps137
    go_wp2_with fail
    refine (K ⟨w, Below.refl _ _⟩).mono ?_
    rintro e w1 ⟨rfl, hb⟩
    obtain ⟨x1, rfl⟩ := Later.of hb
    clear hb
    go_wp2
    go_ret
    exact ⟨rfl, x1.below⟩
theorem date_cases (c n : Int) : dateOf c n = (0, 0, 0, 0, false) ∨ ∃ Y m d, dateOf c n = (c, Y, m, d, true) ∧ (c = 0 ∨ c = 1) ∧ 1 ≤ Y ∧ Y ≤ 3000 ∧ first c Y ≤ n ∧ n < first c (Y + 1) := by
  by_cases h : (c = 0 ∨ c = 1) ∧ 1 ≤ yearOf c n ∧ yearOf c n ≤ 3000 ∧ -1000 ≤ n ∧ n ≤ 1200000
  · right
    have k : dateOf c n = (c, yearOf c n, (monthOf c (yearOf c n) (n - first c (yearOf c n)) : Int) + 1, n - first c (yearOf c n) - before c (yearOf c n) (monthOf c (yearOf c n) (n - first c (yearOf c n))) + 1, true) := by
      unfold dateOf
      rw [if_pos h]
    obtain ⟨_, hd, hn⟩ := date_back k
    have hl := line_in h.1 (dateP_month hd).1 (dateP_month hd).2 hd.2.2.2.1 hd.2.2.2.2
    rw [← lineD_dayOf hd, hn] at hl
    exact ⟨_, _, _, k, h.1, h.2.1, h.2.2.1, hl.1, hl.2⟩
  · exact .inl (dateOf_no h)
noncomputable def styR (c s n : Int) : Value := .tuple #[.int .i64 (styYear c s n).1, .bool (styYear c s n).2]
theorem styR_no {c s n : Int} (h : styYear c s n = (0, false)) : styR c s n = .tuple #[.int .i64 0, .bool false] := by unfold styR; rw [h]
theorem styR_yes {c s n y : Int} (h : styYear c s n = (y, true)) : styR c s n = .tuple #[.int .i64 y, .bool true] := by unfold styR; rw [h]
theorem raw_of {c s Y n y : Int} (h : y = Y - 1 ∨ y = Y ∨ y = Y + 1) (h1 : Y ≤ y → start c s Y ≤ n) (h2 : Y + 1 ≤ y → start c s (Y + 1) ≤ n) (he : y ≤ Y → n < start c s (y + 1)) : rawYear c s Y n = y := by
  rcases h with rfl | rfl | rfl
  · have := he (by omega)
    rw [show Y - 1 + 1 = Y by omega] at this
    exact raw_lo this
  · exact raw_mid (by have := h1 (by omega); omega) (he (by omega))
  · exact raw_hi (by have := h1 (by omega); have := h2 (by omega); omega) (by have := h2 (by omega); omega)
set_option maxHeartbeats 2000000 in
theorem specStyleYear (c s n : Int) (w : World) : Calls Tryz.prog 112 #[.int .i64 c, .int .i64 s, .int .i64 n] w fun e w' => e = .returned (styR c s n) ∧ Below w.heap.size w w' := by
  have KD := specDateOf c n w
  rcases date_cases c n with hD | ⟨Y, m, d, hD, hc, hY1, hY2, hn1, hn2⟩
  · rw [dateR_no hD] at KD
    have HR : Hid (styR c s n = .tuple #[.int .i64 0, .bool false]) := styR_no (sty_none hD)
    rw [HR.out]
    clear hD HR
    unfold z4 at KD
    go_enter Tryz.func112, Tryz.ntmps112
    go_wp2_with fail
    refine KD.mono ?_
    rintro e w1 ⟨rfl, hb⟩
    go_wp2
    go_returns
    exact ⟨rfl, hb.alloc hb.size _⟩
  · rw [dateR_yes hD] at KD
    by_cases hs : styleP s
    · have hE := styText_some hs
      have KS : ∀ W, Calls Tryz.prog 177 #[.int .i64 s] W fun e w' => e = .returned (.string (styText s)) ∧ Below W.heap.size W w' := fun W => specStyleName s W
      have KB : Hid (∀ (y : Int), 0 ≤ y → y ≤ 3001 → ∀ W, Calls Tryz.prog 137 #[.int .i64 c, .int .i64 s, .int .i64 (y + 1)] W fun e w' => e = .returned (.int .i64 (start c s (y + 1))) ∧ Below W.heap.size W w') := fun y h1 h2 W => specStart c s (y + 1) W hc hs (by omega) (by omega)
      have HF := hideP (start_far hc hs hY1 hY2 hn2)
      have HRaw : Hid (∀ y, (y = Y - 1 ∨ y = Y ∨ y = Y + 1) → (Y ≤ y → start c s Y ≤ n) → (Y + 1 ≤ y → start c s (Y + 1) ≤ n) → (y ≤ Y → n < start c s (y + 1)) → rawYear c s Y n = y) := fun y h h1 h2 he => raw_of h h1 h2 he
      have HO : Hid (1 ≤ rawYear c s Y n → rawYear c s Y n ≤ 3000 → styR c s n = .tuple #[.int .i64 (rawYear c s Y n), .bool true]) := fun h1 h2 => styR_yes (sty_yes hD hs h1 h2)
      have HN : Hid (¬ (1 ≤ rawYear c s Y n ∧ rawYear c s Y n ≤ 3000) → styR c s n = .tuple #[.int .i64 0, .bool false]) := fun h => styR_no (sty_out hD h)
      generalize styR c s n = R at *
      generalize styText s = t at *
      clear hD hn1 hn2 hc hs
      go_enter Tryz.func112, Tryz.ntmps112
      go_wp2_with fail
      refine KD.mono ?_
      rintro e w1 ⟨rfl, hb1⟩
      have HB1 := hideP hb1
      obtain ⟨W0, hW0⟩ : ∃ W0, W0 = w1.alloc (.cells #[.int .i64 c, .int .i64 Y, .int .i64 m, .int .i64 d] 88) := ⟨_, rfl⟩
      have HW0 := hideP hW0
      have c1 : ∀ x : Later W0, x.w.cell? ⟨w1.heap.size, 1, none⟩ = some (.int .i64 Y) := Later.new hW0 1 rfl
      have HL : Hid (∀ x : Later W0, Below w.heap.size w x.w) := fun x => HB1.out.trans ((below_of_alloc HW0.out x.below).mono HB1.out.size)
      clear hb1 hW0 KD
      go_wp2_with fail
      rw [← HW0.out]
      refine (KS _).mono ?_
      rintro e w2 ⟨rfl, hb⟩
      obtain ⟨x1, rfl⟩ := Later.of hb
      clear hb
      go_wp2_with fail
      go_loopw [10] (fun i wr => ∃ (y : Int) (x : Later W0), i = .int .i64 y ∧ wr = x.w ∧ Y - 1 ≤ y ∧ y ≤ Y + 1 ∧ Hid (Y ≤ y → start c s Y ≤ n) ∧ Hid (Y + 1 ≤ y → start c s (Y + 1) ≤ n)) (fun i _ => (4000 - intOf i).toNat)
      case atStart => exact ⟨Y - 1, x1, rfl, rfl, by omega, by omega, fun h => by omega, fun h => by omega⟩
      case round =>
        obtain ⟨y, x, rfl, rfl, y1, y2, H1, H2⟩ := hrel
        have K := KB.out y (by omega) (by omega)
        by_cases hle : start c s (y + 1) ≤ n
        · have hyY : y ≤ Y := by
            by_cases h : y ≤ Y
            · exact h
            · have e : y = Y + 1 := by omega
              subst e
              have := HF.out
              rw [show Y + 1 + 1 = Y + 2 by omega] at hle
              omega
          have H1' : Hid (Y ≤ y + 1 → start c s Y ≤ n) := fun h => by
            by_cases e : Y ≤ y
            · exact H1.out e
            · rw [show Y = y + 1 by omega]; exact hle
          have H2' : Hid (Y + 1 ≤ y + 1 → start c s (Y + 1) ≤ n) := fun h => by
            rw [show Y = y by omega]; exact hle
          clear H1 H2 HF
          generalize start c s (y + 1) = S at *
          go_wp2_with fail
          refine (K _).mono ?_
          rintro e w3 ⟨rfl, hb⟩
          obtain ⟨x3, rfl⟩ := x.next hb
          clear hb
          go_wp2
          exact ⟨⟨y + 1, x3, rfl, rfl, by omega, by omega, H1', H2'⟩, by simp [intOf]; omega⟩
        · have hraw : rawYear c s Y n = y := HRaw.out y (by omega) H1.out H2.out (fun _ => by omega)
          rw [hraw] at HO HN
          clear H1 H2 HF HRaw hraw KB
          generalize start c s (y + 1) = S at *
          by_cases hin : 1 ≤ y ∧ y ≤ 3000
          · have hI : inB y 1 3000 = true := inB_true hin.1 hin.2
            have KI := fun W => l01In y 1 3000 W
            rw [hI] at KI
            go_wp2_with fail
            refine (K _).mono ?_
            rintro e w3 ⟨rfl, hb⟩
            obtain ⟨x3, rfl⟩ := x.next hb
            clear hb
            go_wp2_with fail
            refine (KI _).mono ?_
            rintro e w4 ⟨rfl, hw⟩
            rw [hw]
            clear hw
            go_wp2
            go_returns
            rw [HO.out hin.1 hin.2]
            exact ⟨rfl, HL.out x3⟩
          · have hI : inB y 1 3000 = false := inB_false (by omega)
            have KI := fun W => l01In y 1 3000 W
            rw [hI] at KI
            go_wp2_with fail
            refine (K _).mono ?_
            rintro e w3 ⟨rfl, hb⟩
            obtain ⟨x3, rfl⟩ := x.next hb
            clear hb
            go_wp2_with fail
            refine (KI _).mono ?_
            rintro e w4 ⟨rfl, hw⟩
            rw [hw]
            clear hw
            go_wp2
            go_returns
            rw [HN.out hin]
            exact ⟨rfl, HL.out x3⟩
    · have hE := styText_none hs
      have KS : ∀ W, Calls Tryz.prog 177 #[.int .i64 s] W fun e w' => e = .returned (.string (styText s)) ∧ Below W.heap.size W w' := fun W => specStyleName s W
      have HR : Hid (styR c s n = .tuple #[.int .i64 0, .bool false]) := styR_no (sty_style hs)
      rw [HR.out]
      clear hD HR hs hn1 hn2 hc
      generalize styText s = t at *
      go_enter Tryz.func112, Tryz.ntmps112
      go_wp2_with fail
      refine KD.mono ?_
      rintro e w1 ⟨rfl, hb1⟩
      have HB1 := hideP hb1
      clear hb1
      go_wp2_with fail
      refine (KS _).mono ?_
      rintro e w2 ⟨rfl, hb⟩
      have HB2 := hideP (below_alloc hb)
      clear hb
      go_wp2
      go_returns
      exact ⟨rfl, HB1.out.trans (HB2.out.mono HB1.out.size)⟩
end Go.Proofs.YtjojgfdfbkmlkaaGreatDoor.ctr
namespace Go.Proofs.YtjojgfdfbkmlkaaGreatDoor.ctr
open Go.RowKit
theorem of_inB {x a b : Int} (h : inB x a b = true) : a ≤ x ∧ x ≤ b := by simpa [inB] using h
theorem tag_rise : ∀ {l : List Seg} (b : Nat), (l.Pairwise fun x y => x.fr < y.fr) → InOrder (tagS l b)
  | [], b, _ => List.Pairwise.nil
  | s :: l, b, h => by
    obtain ⟨h1, h2⟩ := List.pairwise_cons.1 h
    refine List.Pairwise.cons (fun y hy => ?_) (tag_rise (b + 1) h2)
    have := h1 _ (tagS_mem l (b + 1) y hy)
    rw [leP_iff]
    dsimp only
    omega
theorem rise_sort {l : List Seg} (h : l.Pairwise fun x y => x.fr < y.fr) : sortS l = l := by
  have e := sorted_same (l := l) (out := tagS l 0) (tag_rise 0 h) (List.Perm.refl _)
  rw [tagS_map] at e
  exact e.symm
theorem right_seg {r : Rgm} (h : regimeB r = true) {k : Nat} (hk : k < r.segs.length) : segOkB (atK segK r.segs k) = true ∧ r.fr ≤ (atK segK r.segs k).fr ∧ (atK segK r.segs k).to ≤ r.to := segFit_ok (allTo_at (regime_parts h).1 hk)
theorem right_next {r : Rgm} (h : regimeB r = true) {k : Nat} (hk : k + 1 < r.segs.length) : (atK segK r.segs k).fr < (atK segK r.segs (k + 1)).fr := by
  have := allTo_at (regime_parts h).1 hk
  rw [segFit_succ] at this
  simp only [Bool.and_eq_true, decide_eq_true_eq] at this
  exact this.2.2.2
theorem right_rise {r : Rgm} (h : regimeB r = true) : ∀ (d i : Nat), i + d + 1 < r.segs.length → (atK segK r.segs i).fr < (atK segK r.segs (i + d + 1)).fr
  | 0, i, hd => right_next h hd
  | d + 1, i, hd => by
    have h1 := right_rise h d i (by omega)
    have h2 := right_next h (k := i + d + 1) (by omega)
    rw [show i + (d + 1) + 1 = i + d + 1 + 1 by omega]
    omega
theorem right_pair {r : Rgm} (h : regimeB r = true) : r.segs.Pairwise fun x y => x.fr < y.fr := by
  rw [List.pairwise_iff_getElem]
  intro i j hi hj hij
  have := right_rise h (j - i - 1) i (by omega)
  rw [show i + (j - i - 1) + 1 = j by omega, atK_eq hi, atK_eq hj] at this
  exact this
theorem right_full {r : Rgm} (h : regimeB r = true) : fullS r.segs = r.segs := by
  unfold fullS
  rw [rise_sort (right_pair h)]
  refine List.filter_eq_self.2 (fun s hs => ?_)
  obtain ⟨k, hk, rfl⟩ := List.getElem_of_mem hs
  have := segOk_days (right_seg h hk).1
  rw [atK_eq hk] at this
  simpa [hasDayB] using this.1
theorem right_apart {r : Rgm} (h : regimeB r = true) {k : Nat} (hk : k + 1 < r.segs.length) : (atK segK r.segs k).to < (atK segK r.segs (k + 1)).fr := by
  have ht := (regime_parts h).2
  unfold tilesZ tileC at ht
  rw [right_full h] at ht
  by_cases a : sharedB r.segs = true
  · rw [if_pos a] at ht; omega
  · by_cases b : (atK segK r.segs k).to < (atK segK r.segs (k + 1)).fr
    · exact b
    · exfalso
      refine a (shared_yes ⟨k + 1, by omega, hk, ?_⟩)
      rw [sgA_eq hk, show k + 1 - 1 = k by omega, sgA_eq (by omega : k < r.segs.length)]
      rw [atK_eq (by omega : k < r.segs.length), atK_eq hk] at b
      omega
theorem right_far {r : Rgm} (h : regimeB r = true) {i j : Nat} (hij : i < j) (hj : j < r.segs.length) : (atK segK r.segs i).to < (atK segK r.segs j).fr := by
  have h1 := right_apart h (k := i) (by omega)
  by_cases e : j = i + 1
  · subst e; exact h1
  · have := right_rise h (j - (i + 1) - 1) (i + 1) (by omega)
    rw [show i + 1 + (j - (i + 1) - 1) + 1 = j by omega] at this
    omega
theorem right_mono {r : Rgm} (h : regimeB r = true) (n : Int) (a b : Nat) (hab : a ≤ b) (hb : b < r.segs.length) (hp : decide (n ≤ (atK segK r.segs a).to) = true) : decide (n ≤ (atK segK r.segs b).to) = true := by
  have hp := of_decide_eq_true hp
  refine decide_eq_true ?_
  by_cases e : a = b
  · subst e; exact hp
  · have h1 := right_far h (show a < b by omega) hb
    have h2 := segOk_days (right_seg h hb).1
    omega
theorem seg_one {r : Rgm} (h : regimeB r = true) {n : Int} {k : Nat} (hk : k < r.segs.length) (h1 : (atK segK r.segs k).fr ≤ n) (h2 : n ≤ (atK segK r.segs k).to) : segAt r.segs n = (k : Int) := by
  rcases segAt_cases r.segs n with ⟨_, h3⟩ | ⟨j, hj, h3, h4, h5⟩
  · have hm : atK segK r.segs k ∈ r.segs := by rw [atK_eq hk]; exact List.getElem_mem hk
    have := h3 _ hm
    unfold segHas at this
    rw [inB_true h1 h2] at this
    cases this
  · rw [h3]
    rcases Nat.lt_trichotomy j k with a | a | a
    · have := right_far h a hk; omega
    · rw [a]
    · have := right_far h a hj; omega
theorem seg_half {r : Rgm} (h : regimeB r = true) {n : Int} (h1 : r.fr ≤ n) (h2 : n ≤ r.to) {m : Nat} (hl : ∀ t, t < m → decide (n ≤ (atK segK r.segs t).to) = false) (hu : ∀ t, m ≤ t → t < r.segs.length → decide (n ≤ (atK segK r.segs t).to) = true) : m < r.segs.length ∧ segAt r.segs n = (m : Int) ∧ (atK segK r.segs m).fr ≤ n ∧ n ≤ (atK segK r.segs m).to := by
  have h0 := (seg_fact h n).2 ⟨h1, h2⟩
  rcases segAt_cases r.segs n with ⟨h3, _⟩ | ⟨j, hj, h3, h4, h5⟩
  · omega
  · have a : m ≤ j := by
      by_cases c : m ≤ j
      · exact c
      · have := hl j (by omega)
        have := of_decide_eq_false this
        omega
    have b : j ≤ m := by
      by_cases c : j ≤ m
      · exact c
      · have := of_decide_eq_true (hu m (Nat.le_refl _) (by omega))
        have := right_far h (show m < j by omega) hj
        omega
    have e : j = m := by omega
    subst e
    exact ⟨hj, h3, h4, h5⟩
theorem right_segs {r : Rgm} (h : regimeB r = true) : 1 ≤ r.segs.length ∧ r.segs.length ≤ 20 := by
  unfold regimeB segsB at h
  simp only [Bool.and_eq_true] at h
  have := of_inB h.2.2.2.1.1
  omega
theorem right_pats {r : Rgm} (h : regimeB r = true) : r.pats.length ≤ 8 := by
  unfold regimeB patsB at h
  simp only [Bool.and_eq_true, decide_eq_true_eq] at h
  have := h.2.2.2.2.1.1
  omega
theorem segOk_nums {s : Seg} (h : segOkB s = true) : 400 ≤ s.fr ∧ s.fr ≤ s.to ∧ s.to ≤ 1090000 ∧ (s.cal = 0 ∨ s.cal = 1) ∧ styleB s.sty = true ∧ -3 ≤ s.off ∧ s.off ≤ 3 := by
  unfold segOkB dayB at h
  simp only [Bool.and_eq_true, decide_eq_true_eq] at h
  obtain ⟨h1, h2, h3, h4, h5, h6⟩ := h
  have a := of_inB h1
  have b := of_inB h2
  have c := of_inB h6
  exact ⟨by omega, h3, by omega, calB_iff.1 h4, h5, by omega, by omega⟩
noncomputable def rdgAt (r : Rgm) (s : Seg) (n : Int) : Rdg :=
  ⟨s.cal, (styYear s.cal s.sty (n + s.off)).1, (dateOf s.cal (n + s.off)).2.1,
    if 0 ≤ patAt r.pats n then (atK patK r.pats (patAt r.pats n).toNat).mon else (dateOf s.cal (n + s.off)).2.2.1,
    if 0 ≤ patAt r.pats n then (atK patK r.pats (patAt r.pats n).toNat).dom else (dateOf s.cal (n + s.off)).2.2.2.1⟩
noncomputable def rdgOn (r : Rgm) (n : Int) : Rdg := rdgAt r (atK segK r.segs (segAt r.segs n).toNat) n
abbrev rdg0 : Rdg := ⟨0, 0, 0, 0, 0⟩
end Go.Proofs.YtjojgfdfbkmlkaaGreatDoor.ctr
namespace Go.Proofs.YtjojgfdfbkmlkaaGreatDoor.ctr
open Go.RowKit
set_option maxHeartbeats 1000000 in
theorem schHas (l : List Seg) (v1 : Value) (n : Int) (k bR bN : Nat) (w : World) (h : IRow segK w v1 l) (hk : k < l.length) (hR : w.cell? ⟨bR, 3, none⟩ = some v1) (hN : w.cell? ⟨bN, 0, none⟩ = some (.int .i64 n)) : Calls Tryz.prog 188 #[.int .i64 (k : Int), .pointer (some ⟨bR, 0, none⟩), .pointer (some ⟨bN, 0, none⟩)] w fun e w' => e = .returned (.bool (decide (n ≤ (atK segK l k).to))) ∧ Below w.heap.size w w' := by
  obtain ⟨a1, c1, rfl, hl, hm, hc⟩ := h
  obtain ⟨g, rfl, hg, x⟩ := hc k hk
  have e1 : ∀ y : Later w, y.w.cell? ⟨g, k * 5 + 1, none⟩ = some (.int .i64 (atK segK l k).to) := fun y => ((x.below y.below hg).seg).2.1
  have eR : ∀ y : Later w, y.w.cell? ⟨bR, 3, none⟩ = some (.slice (some ⟨g, 0, none⟩) l.length c1) := fun y => Later.at hR y
  have eN : ∀ y : Later w, y.w.cell? ⟨bN, 0, none⟩ = some (.int .i64 n) := fun y => Later.at hN y
  have hkz : (k : Int) < (l.length : Int) := by omega
  clear x hc hg hR hN
  generalize atK segK l k = s at *
  go_enter Tryz.func188, Tryz.ntmps188
  go_wp2_with fail
  refine wp_region_later (W := w) (Below.refl _ _) (by kernel_rfl) (by kernel_rfl) ?_
  repeat (go_big_quiet_step (fail))
  refine wpQuiet_nil ?_
  intro _ hw'
  obtain ⟨y, rfl⟩ := hw'
  go_wp2
  go_ret
  exact ⟨rfl, y.below⟩
set_option maxHeartbeats 4000000 in
theorem search (a b : Value) (n : Nat) (p : Nat → Bool) (w : World) (hsz : n ≤ 1000)
    (hf : ∀ x : Later w, ∀ i : Nat, i < n → Calls Tryz.prog 188 #[.int .i64 (i : Int), a, b] x.w fun e w' => e = .returned (.bool (p i)) ∧ Below x.w.heap.size x.w w')
    (hmono : ∀ a b, a ≤ b → b < n → p a = true → p b = true) :
    Calls Tryz.prog 187 #[.int .i64 (n : Int), .func (.func 188) #[] #[a, b]] w fun e w' => ∃ m : Nat, e = .returned (.int .i64 (m : Int)) ∧ m ≤ n ∧ (∀ t, t < m → p t = false) ∧ (∀ t, m ≤ t → t < n → p t = true) ∧ Below w.heap.size w w' := by
  have HF := hideP hf
  have M := hideP hmono
  clear hf hmono
  go_enter Tryz.func187, Tryz.ntmps187
  go_wp2
  go_loopg [5, 6] n (fun kx s5 s6 wr => ∃ (lo hi : Nat), s5 = .int .i64 (lo : Int) ∧ s6 = .int .i64 (hi : Int) ∧ lo ≤ hi ∧ hi ≤ n ∧ hi - lo ≤ kx ∧ (∃ x : Later w, wr = x.w) ∧ Hid ((∀ t, t < lo → p t = false) ∧ (∀ t, hi ≤ t → t < n → p t = true)))
  case atStart => exact ⟨0, n, rfl, rfl, Nat.zero_le _, Nat.le_refl _, by omega, ⟨⟨_, Below.refl _ _⟩, rfl⟩, (⟨fun t ht => absurd ht (Nat.not_lt_zero _), fun t h1 h2 => by omega⟩ : (∀ t, t < 0 → p t = false) ∧ (∀ t, n ≤ t → t < n → p t = true))⟩
  case round =>
    obtain ⟨lo, hi, rfl, rfl, hlh, hin, hg, ⟨x, rfl⟩, I⟩ := hrel
    by_cases hlt : lo < hi
    · have hc := HF.out x ((lo + hi) / 2) (by omega)
      rw [show (((lo + hi) / 2 : Nat) : Int) = ((lo : Int) + (hi : Int)) / 2 by omega] at hc
      cases hp : p ((lo + hi) / 2) <;> rw [hp] at hc
      · have HP := hideP hp
        clear hp
        go_wp2_with (refine hc.mono ?_; rintro e w' ⟨rfl, hb⟩; obtain ⟨x', rfl⟩ := x.next hb; clear hb)
        go_roundg (hi - ((lo + hi) / 2 + 1))
        case measure => omega
        case rel =>
          have I2 : Hid ((∀ t, t < (lo + hi) / 2 + 1 → p t = false) ∧ (∀ t, hi ≤ t → t < n → p t = true)) := ⟨fun t ht => (by
            cases h : p t with
            | false => rfl
            | true => have := M.out t ((lo + hi) / 2) (by omega) (by omega) h; rw [HP.out] at this; cases this), I.out.2⟩
          exact ⟨(lo + hi) / 2 + 1, hi, by rw [show ((lo : Int) + (hi : Int)) / 2 + 1 = (((lo + hi) / 2 + 1 : Nat) : Int) by omega], rfl, by omega, hin, Nat.le_refl _, ⟨x', rfl⟩, I2⟩
      · have HP := hideP hp
        clear hp
        go_wp2_with (refine hc.mono ?_; rintro e w' ⟨rfl, hb⟩; obtain ⟨x', rfl⟩ := x.next hb; clear hb)
        go_roundg ((lo + hi) / 2 - lo)
        case measure => omega
        case rel =>
          have I2 : Hid ((∀ t, t < lo → p t = false) ∧ (∀ t, (lo + hi) / 2 ≤ t → t < n → p t = true)) := ⟨I.out.1, fun t ht htn => M.out ((lo + hi) / 2) t ht htn HP.out⟩
          exact ⟨lo, (lo + hi) / 2, rfl, by rw [show ((lo : Int) + (hi : Int)) / 2 = (((lo + hi) / 2 : Nat) : Int) by omega], by omega, by omega, Nat.le_refl _, ⟨x', rfl⟩, I2⟩
    · obtain rfl : hi = lo := by omega
      go_wp2
      go_ret
      exact ⟨hi, rfl, hin, I.out.1, I.out.2, x.below⟩
end Go.Proofs.YtjojgfdfbkmlkaaGreatDoor.ctr
namespace Go.Proofs.YtjojgfdfbkmlkaaGreatDoor.ctr
open Go.RowKit
abbrev segV (s : Seg) : Value := .agg #[.int .i64 s.fr, .int .i64 s.to, .int .i64 s.cal, .int .i64 s.sty, .int .i64 s.off]
abbrev i5 : Array Value := #[.int .i64 0, .int .i64 0, .int .i64 0, .int .i64 0, .int .i64 0]
set_option maxHeartbeats 4000000 in
theorem implSegOn (v : Value) (r : Rgm) (n : Int) (w : World) (h : GRow w v r) (hr : regimeB r = true) (h1 : r.fr ≤ n) (h2 : n ≤ r.to) : Calls Tryz.prog 127 #[v, .int .i64 n] w fun e w' => e = .returned (segV (atK segK r.segs (segAt r.segs n).toNat)) ∧ Below w.heap.size w w' := by
  obtain ⟨v1, v2, v3, rfl, _, x1, x2, x3⟩ := h
  obtain ⟨W0, hW0⟩ : ∃ W0, W0 = ((w.alloc (.cells #[.string r.name, .int .i64 r.fr, .int .i64 r.to, v1, v2, v3, .int .i64 r.rule] 36)).alloc (.cells #[.int .i64 n] 3)).alloc (.cells i5 92) := ⟨_, rfl⟩
  have hBl' : ∀ w1, Below W0.heap.size W0 w1 → Below w.heap.size w w1 := by
    rw [hW0]
    exact fun w1 h => below_alloc (below_alloc (below_alloc h))
  have hBl : ∀ x : Later W0, Below w.heap.size w x.w := fun x => hBl' x.w x.below
  clear hBl'
  have hR : ∀ x : Later W0, Blk x.w w.heap.size #[.string r.name, .int .i64 r.fr, .int .i64 r.to, v1, v2, v3, .int .i64 r.rule] 36 := fun x => by
    have k := (((Blk.new w #[.string r.name, .int .i64 r.fr, .int .i64 r.to, v1, v2, v3, .int .i64 r.rule] 36).alloc (.cells #[.int .i64 n] 3)).alloc (.cells i5 92))
    rw [← hW0] at k
    exact k.later x
  have hN : ∀ x : Later W0, Blk x.w (w.heap.size + 1) #[.int .i64 n] 3 := fun x => by
    have k := (Blk.new (w.alloc (.cells #[.string r.name, .int .i64 r.fr, .int .i64 r.to, v1, v2, v3, .int .i64 r.rule] 36)) #[.int .i64 n] 3).alloc (.cells i5 92)
    rw [← hW0, World.size_alloc] at k
    exact k.later x
  have hZ : ∀ x : Later W0, Blk x.w (w.heap.size + 2) i5 92 := fun x => by
    have k := Blk.new ((w.alloc (.cells #[.string r.name, .int .i64 r.fr, .int .i64 r.to, v1, v2, v3, .int .i64 r.rule] 36)).alloc (.cells #[.int .i64 n] 3)) i5 92
    rw [← hW0, World.size_alloc, World.size_alloc] at k
    exact k.later x
  have hS : ∀ x : Later W0, IRow segK x.w v1 r.segs := fun x => x1.below (hBl x)
  have hlen := right_segs hr
  obtain ⟨m, hm, hmS, hm1, hm2⟩ : ∃ m : Nat, m < r.segs.length ∧ segAt r.segs n = (m : Int) ∧ (atK segK r.segs m).fr ≤ n ∧ n ≤ (atK segK r.segs m).to := by
    have h0 := (seg_fact hr n).2 ⟨h1, h2⟩
    rcases segAt_cases r.segs n with ⟨h3, _⟩ | ⟨j, hj, h3, h4, h5⟩
    · omega
    · exact ⟨j, hj, h3, h4, h5⟩
  have KS : ∀ y : Later W0, Calls Tryz.prog 187 #[.int .i64 (r.segs.length : Int), .func (.func 188) #[] #[.pointer (some ⟨w.heap.size, 0, none⟩), .pointer (some ⟨w.heap.size + 1, 0, none⟩)]] y.w fun e w' => e = .returned (.int .i64 (m : Int)) ∧ Below y.w.heap.size y.w w' := fun y => by
    refine (search (.pointer (some ⟨w.heap.size, 0, none⟩)) (.pointer (some ⟨w.heap.size + 1, 0, none⟩)) r.segs.length (fun k => decide (n ≤ (atK segK r.segs k).to)) y.w (by omega) (fun x i hi => ?_) (fun a b hab hb hp => right_mono hr n a b hab hb hp)).mono ?_
    · obtain ⟨z, hz⟩ := y.next x.below
      rw [hz]
      exact schHas r.segs v1 n i w.heap.size (w.heap.size + 1) z.w (hS z) hi ((hR z).cell 3 rfl) ((hN z).cell 0 rfl)
    · rintro e w' ⟨k, rfl, hk, hl, hu, hb⟩
      obtain ⟨_, k2, _⟩ := seg_half hr h1 h2 hl hu
      rw [hmS] at k2
      exact ⟨by rw [k2], hb⟩
  rw [hmS, Int.toNat_natCast]
  obtain ⟨a1, c1, rfl, _, _, hc⟩ := x1
  obtain ⟨a2, c2, rfl, _⟩ := x2
  obtain ⟨a3, c3, rfl, _⟩ := x3
  obtain ⟨g, rfl, hg, x⟩ := hc m hm
  have hg2 : ∀ y : Later W0, IAt segK y.w g m (atK segK r.segs m) := fun y => x.below (hBl y) hg
  have e0 : ∀ y : Later W0, y.w.cell? ⟨g, m * 5, none⟩ = some (.int .i64 (atK segK r.segs m).fr) := fun y => ((hg2 y).seg).1
  have e1 : ∀ y : Later W0, y.w.cell? ⟨g, m * 5 + 1, none⟩ = some (.int .i64 (atK segK r.segs m).to) := fun y => ((hg2 y).seg).2.1
  have e2 : ∀ y : Later W0, y.w.cell? ⟨g, m * 5 + 2, none⟩ = some (.int .i64 (atK segK r.segs m).cal) := fun y => ((hg2 y).seg).2.2.1
  have e3 : ∀ y : Later W0, y.w.cell? ⟨g, m * 5 + 3, none⟩ = some (.int .i64 (atK segK r.segs m).sty) := fun y => ((hg2 y).seg).2.2.2.1
  have e4 : ∀ y : Later W0, y.w.cell? ⟨g, m * 5 + 4, none⟩ = some (.int .i64 (atK segK r.segs m).off) := fun y => ((hg2 y).seg).2.2.2.2
  have r3 : ∀ y : Later W0, y.w.cell? ⟨w.heap.size, 3, none⟩ = some (.slice (some ⟨g, 0, none⟩) r.segs.length c1) := fun y => (hR y).cell 3 rfl
  have u0 : ∀ y : Later W0, y.w.cell? ⟨w.heap.size + 2, 0, none⟩ = some (.int .i64 0) := fun y => (hZ y).cell 0 rfl
  have u1 : ∀ y : Later W0, y.w.cell? ⟨w.heap.size + 2, 1, none⟩ = some (.int .i64 0) := fun y => (hZ y).cell 1 rfl
  have u2 : ∀ y : Later W0, y.w.cell? ⟨w.heap.size + 2, 2, none⟩ = some (.int .i64 0) := fun y => (hZ y).cell 2 rfl
  have u3 : ∀ y : Later W0, y.w.cell? ⟨w.heap.size + 2, 3, none⟩ = some (.int .i64 0) := fun y => (hZ y).cell 3 rfl
  have u4 : ∀ y : Later W0, y.w.cell? ⟨w.heap.size + 2, 4, none⟩ = some (.int .i64 0) := fun y => (hZ y).cell 4 rfl
  have f0 : ∀ y : Later W0, y.w.frozen? ⟨w.heap.size + 2, 0, none⟩ = false := fun y => (hZ y).thaw 0
  have f1 : ∀ y : Later W0, y.w.frozen? ⟨w.heap.size + 2, 1, none⟩ = false := fun y => (hZ y).thaw 1
  have f2 : ∀ y : Later W0, y.w.frozen? ⟨w.heap.size + 2, 2, none⟩ = false := fun y => (hZ y).thaw 2
  have f3 : ∀ y : Later W0, y.w.frozen? ⟨w.heap.size + 2, 3, none⟩ = false := fun y => (hZ y).thaw 3
  have f4 : ∀ y : Later W0, y.w.frozen? ⟨w.heap.size + 2, 4, none⟩ = false := fun y => (hZ y).thaw 4
  have hmz : (m : Int) < (r.segs.length : Int) := by omega
  have HW0 := hideP hW0
  have HBl := hideP hBl
  have HZ := hideP hZ
  clear hW0 hBl hZ hR hN hS hc hg2 x hg hm1 hm2 hmS hr h1 h2
  generalize atK segK r.segs m = s at *
  go_enter Tryz.func127, Tryz.ntmps127
  go_wp2_with fail
  rw [← HW0.out]
  obtain ⟨xd, hxd⟩ : ∃ xd : Later W0, W0.drew = xd.w := ⟨⟨W0.drew, (Below.refl _ _).drew⟩, rfl⟩
  refine wp_region_any (by kernel_rfl) ?_
  change wpAny _ _ _ _ (1 + 9) _ _ _
  refine any_prefix (C := fun w' => ∃ x : Later W0, w' = x.w) 9 1 (by decide) (by kernel_rfl) (by kernel_rfl) (by kernel_rfl) (by kernel_rfl) (by kernel_rfl) ⟨xd, hxd⟩ ?_
  simp only [List.take_succ_cons, List.take_zero]
  clear hxd xd
  repeat (go_big_quiet_step (first | (go_at_call 187; exact calls_later (KS _))))
  refine wpQuiet_nil ?_
  intro _ hw'
  obtain ⟨x5, rfl⟩ := hw'
  refine wpAny_ready (rs := [9]) (by kernel_rfl) (by simp) ?_
  refine AllReady.cons rfl (fun K hK => ?_) AllReady.nil
  go_simp
  refine hK _ _ ?_
  clear hK K
  refine wpAny_done (by kernel_rfl) ?_ _
  obtain ⟨W9, e9⟩ : ∃ W9, W9 = ((((x5.w.setCell ⟨w.heap.size + 2, 0, none⟩ (.int .i64 s.fr)).setCell ⟨w.heap.size + 2, 1, none⟩ (.int .i64 s.to)).setCell ⟨w.heap.size + 2, 2, none⟩ (.int .i64 s.cal)).setCell ⟨w.heap.size + 2, 3, none⟩ (.int .i64 s.sty)).setCell ⟨w.heap.size + 2, 4, none⟩ (.int .i64 s.off) := ⟨_, rfl⟩
  have Z9 : Blk W9 (w.heap.size + 2) #[.int .i64 s.fr, .int .i64 s.to, .int .i64 s.cal, .int .i64 s.sty, .int .i64 s.off] 92 := by rw [e9]; exact ((((((HZ.out x5).set 0 _).set 1 _).set 2 _).set 3 _).set 4 _)
  have B9 : Below w.heap.size w W9 := by rw [e9]; exact (Below.setCell (Below.setCell (Below.setCell (Below.setCell (Below.setCell (HBl.out x5) (p := ⟨w.heap.size + 2, 0, none⟩) (show w.heap.size ≤ w.heap.size + 2 by omega) _) (p := ⟨w.heap.size + 2, 1, none⟩) (show w.heap.size ≤ w.heap.size + 2 by omega) _) (p := ⟨w.heap.size + 2, 2, none⟩) (show w.heap.size ≤ w.heap.size + 2 by omega) _) (p := ⟨w.heap.size + 2, 3, none⟩) (show w.heap.size ≤ w.heap.size + 2 by omega) _) (p := ⟨w.heap.size + 2, 4, none⟩) (show w.heap.size ≤ w.heap.size + 2 by omega) _)
  rw [← e9]
  clear e9
  have q0 : W9.cell? ⟨w.heap.size + 2, 0, none⟩ = some (.int .i64 s.fr) := Z9.cell 0 rfl
  have q1 : W9.cell? ⟨w.heap.size + 2, 1, none⟩ = some (.int .i64 s.to) := Z9.cell 1 rfl
  have q2 : W9.cell? ⟨w.heap.size + 2, 2, none⟩ = some (.int .i64 s.cal) := Z9.cell 2 rfl
  have q3 : W9.cell? ⟨w.heap.size + 2, 3, none⟩ = some (.int .i64 s.sty) := Z9.cell 3 rfl
  have q4 : W9.cell? ⟨w.heap.size + 2, 4, none⟩ = some (.int .i64 s.off) := Z9.cell 4 rfl
  go_wp2_with fail
  exact bodyPost_ret (by simp [results, Tryz.results127, go_sem, q0, q1, q2, q3, q4]; try rfl) rfl ⟨rfl, B9⟩
end Go.Proofs.YtjojgfdfbkmlkaaGreatDoor.ctr
namespace Go.Proofs.YtjojgfdfbkmlkaaGreatDoor.ctr
open Go.RowKit
theorem wpList_store_row {P : Program} (w : World) {ops : Array Oper} {rest : List Oper} {o : Oper} {a : Act} {Q : Exit → Act → World → Prop}
    (hg : o.guard = none) (t : TypeId) (p v : Operand) (hop : o.op = .store t p v) (g : Nat) (old cs : Array Value) (hp : a.eval p = .pointer (some ⟨g, 0, none⟩)) (hv : a.eval v = .agg cs) (hb : Blk w g old t)
    (hi : (P.info? t).map (·.size) = some cs.size) (ho : old.size = cs.size) (h1 : cs.all (·.oneCell') = true)
    (h : wpList P ops Q rest (a.put o.dst undef) (w.setRow g cs)) : wpList P ops Q (o :: rest) a w := by
  have hrun := run_storeVar_row (P := P) w g t t old cs hb hi ho h1
  refine wpList_plain hg fun K hK' => ?_
  unfold Oper.wp
  simp [execOp, hop, hp, hv, Instr.storeAt, Instr.sureAddr, hrun, Result.andThen]
  exact hK' _ _ h
theorem Blk.setRow {w : World} {g : Nat} {old : Array Value} {t : TypeId} (h : Blk w g old t) (cs : Array Value) : Blk (w.setRow g cs) g cs t := setRow_heap w g old cs t (0, 0) h
theorem below_setRow {V W : World} (h : Below V.heap.size V W) {g : Nat} (cs : Array Value) (hb : V.heap.size ≤ g) : Below V.heap.size V (W.setRow g cs) :=
  ⟨h.os, h.tape, h.output, by rw [setRow_size]; exact h.size, fun k hk => by rw [setRow_other W g k cs (by omega)]; exact h.block k hk⟩
end Go.Proofs.YtjojgfdfbkmlkaaGreatDoor.ctr
namespace Go.Proofs.YtjojgfdfbkmlkaaGreatDoor.ctr
open Go.RowKit
theorem implDayOn (c y m d : Int) (w : World) (hT : Tab w) (hc : c = 0 ∨ c = 1) (hy1 : -5 ≤ y) (hy2 : y ≤ 4000) (hm1 : 1 ≤ m) (hm2 : m ≤ 13) (hd1 : -100 ≤ d) (hd2 : d ≤ 1000) : Calls Tryz.prog 297 #[.agg #[.int .i64 c, .int .i64 y], .int .i64 m, .int .i64 d] w fun e w' => e = .returned (.int .i64 (lineD c y m d)) ∧ Below w.heap.size w w' := by
  obtain ⟨W0, hW0⟩ : ∃ W0, W0 = w.alloc (.cells #[.int .i64 c, .int .i64 y] 264) := ⟨_, rfl⟩
  have HW0 := hideP hW0
  have KT : ∀ x : Later W0, Tab x.w := fun x => hT.later (below_of_alloc hW0 x.below)
  clear hW0 hT
  have KL : Calls Tryz.prog 186 #[.agg #[.int .i64 c, .int .i64 y, .int .i64 m, .int .i64 d]] W0 fun e w' => e = .returned (.int .i64 (lineD c y m d)) ∧ Below W0.heap.size W0 w' := implLine c y m d W0 (KT ⟨W0, Below.refl _ _⟩) hc hy1 hy2 hm1 hm2 hd1 hd2
  clear hc KT
  generalize lineD c y m d = R at *
  go_enter Tryz.func297, Tryz.ntmps297
  go_wp2_with fail
  rw [← HW0.out]
  refine KL.mono ?_
  rintro e w1 ⟨rfl, hb⟩
  go_wp2
  go_ret
  exact ⟨rfl, below_of_alloc HW0.out hb⟩
theorem implAhead (c y : Int) (w : World) (hy1 : -4 ≤ y) (hy2 : y ≤ 4000) : Calls Tryz.prog 298 #[.agg #[.int .i64 c, .int .i64 y]] w fun e w' => e = .returned (.agg #[.int .i64 c, .int .i64 (y - 1)]) ∧ Below w.heap.size w w' := by
  go_enter Tryz.func298, Tryz.ntmps298
  go_wp2
  go_returns
  refine ⟨rfl, ?_⟩
  go_grown
theorem impl_january (c y : Int) (w : World) (hT : Tab w) (hc : c = 0 ∨ c = 1) (hy1 : -5 ≤ y) (hy2 : y ≤ 4000) : Calls Tryz.prog 245 #[.agg #[.int .i64 c, .int .i64 y]] w fun e w' => e = .returned (.int .i64 (lineD c y 1 1)) ∧ Below w.heap.size w w' := by
  obtain ⟨W0, hW0⟩ : ∃ W0, W0 = w.alloc (.cells #[.int .i64 c, .int .i64 y] 264) := ⟨_, rfl⟩
  have HW0 := hideP hW0
  have KT : ∀ x : Later W0, Tab x.w := fun x => hT.later (below_of_alloc hW0 x.below)
  clear hW0 hT
  have KL : Calls Tryz.prog 297 #[.agg #[.int .i64 c, .int .i64 y], .int .i64 1, .int .i64 1] W0 fun e w' => e = .returned (.int .i64 (lineD c y 1 1)) ∧ Below W0.heap.size W0 w' := implDayOn c y 1 1 W0 (KT ⟨W0, Below.refl _ _⟩) hc hy1 hy2 (by omega) (by omega) (by omega) (by omega)
  clear hc KT
  generalize lineD c y 1 1 = R at *
  go_enter Tryz.func245, Tryz.ntmps245
  go_wp2_with fail
  rw [← HW0.out]
  refine KL.mono ?_
  rintro e w1 ⟨rfl, hb⟩
  go_wp2
  go_ret
  exact ⟨rfl, below_of_alloc HW0.out hb⟩
theorem impl_march (c y : Int) (w : World) (hT : Tab w) (hc : c = 0 ∨ c = 1) (hy1 : -5 ≤ y) (hy2 : y ≤ 4000) : Calls Tryz.prog 246 #[.agg #[.int .i64 c, .int .i64 y]] w fun e w' => e = .returned (.int .i64 (lineD c y 3 1)) ∧ Below w.heap.size w w' := by
  obtain ⟨W0, hW0⟩ : ∃ W0, W0 = w.alloc (.cells #[.int .i64 c, .int .i64 y] 264) := ⟨_, rfl⟩
  have HW0 := hideP hW0
  have KT : ∀ x : Later W0, Tab x.w := fun x => hT.later (below_of_alloc hW0 x.below)
  clear hW0 hT
  have KL : Calls Tryz.prog 297 #[.agg #[.int .i64 c, .int .i64 y], .int .i64 3, .int .i64 1] W0 fun e w' => e = .returned (.int .i64 (lineD c y 3 1)) ∧ Below W0.heap.size W0 w' := implDayOn c y 3 1 W0 (KT ⟨W0, Below.refl _ _⟩) hc hy1 hy2 (by omega) (by omega) (by omega) (by omega)
  clear hc KT
  generalize lineD c y 3 1 = R at *
  go_enter Tryz.func246, Tryz.ntmps246
  go_wp2_with fail
  rw [← HW0.out]
  refine KL.mono ?_
  rintro e w1 ⟨rfl, hb⟩
  go_wp2
  go_ret
  exact ⟨rfl, below_of_alloc HW0.out hb⟩
theorem impl_lady (c y : Int) (w : World) (hT : Tab w) (hc : c = 0 ∨ c = 1) (hy1 : -5 ≤ y) (hy2 : y ≤ 4000) : Calls Tryz.prog 247 #[.agg #[.int .i64 c, .int .i64 y]] w fun e w' => e = .returned (.int .i64 (lineD c y 3 25)) ∧ Below w.heap.size w w' := by
  obtain ⟨W0, hW0⟩ : ∃ W0, W0 = w.alloc (.cells #[.int .i64 c, .int .i64 y] 264) := ⟨_, rfl⟩
  have HW0 := hideP hW0
  have KT : ∀ x : Later W0, Tab x.w := fun x => hT.later (below_of_alloc hW0 x.below)
  clear hW0 hT
  have KL : Calls Tryz.prog 297 #[.agg #[.int .i64 c, .int .i64 y], .int .i64 3, .int .i64 25] W0 fun e w' => e = .returned (.int .i64 (lineD c y 3 25)) ∧ Below W0.heap.size W0 w' := implDayOn c y 3 25 W0 (KT ⟨W0, Below.refl _ _⟩) hc hy1 hy2 (by omega) (by omega) (by omega) (by omega)
  clear hc KT
  generalize lineD c y 3 25 = R at *
  go_enter Tryz.func247, Tryz.ntmps247
  go_wp2_with fail
  rw [← HW0.out]
  refine KL.mono ?_
  rintro e w1 ⟨rfl, hb⟩
  go_wp2
  go_ret
  exact ⟨rfl, below_of_alloc HW0.out hb⟩
theorem impl_pisa (c y : Int) (w : World) (hT : Tab w) (hc : c = 0 ∨ c = 1) (hy1 : -4 ≤ y) (hy2 : y ≤ 4000) : Calls Tryz.prog 248 #[.agg #[.int .i64 c, .int .i64 y]] w fun e w' => e = .returned (.int .i64 (lineD c (y - 1) 3 25)) ∧ Below w.heap.size w w' := by
  obtain ⟨W0, hW0⟩ : ∃ W0, W0 = w.alloc (.cells #[.int .i64 c, .int .i64 y] 264) := ⟨_, rfl⟩
  have HW0 := hideP hW0
  have KT : ∀ x : Later W0, Tab x.w := fun x => hT.later (below_of_alloc hW0 x.below)
  clear hW0 hT
  have KA : Calls Tryz.prog 298 #[.agg #[.int .i64 c, .int .i64 y]] W0 fun e w' => e = .returned (.agg #[.int .i64 c, .int .i64 (y - 1)]) ∧ Below W0.heap.size W0 w' := implAhead c y W0 hy1 hy2
  have KL : ∀ x : Later W0, Calls Tryz.prog 247 #[.agg #[.int .i64 c, .int .i64 (y - 1)]] x.w fun e w' => e = .returned (.int .i64 (lineD c (y - 1) 3 25)) ∧ Below x.w.heap.size x.w w' := fun x => impl_lady c (y - 1) x.w (KT x) hc (by omega) (by omega)
  clear hc KT
  generalize lineD c (y - 1) 3 25 = R at *
  go_enter Tryz.func248, Tryz.ntmps248
  go_wp2_with fail
  rw [← HW0.out]
  refine KA.mono ?_
  rintro e w1 ⟨rfl, hb⟩
  obtain ⟨x1, rfl⟩ := Later.of hb
  clear hb
  go_wp2_with fail
  refine (KL x1).mono ?_
  rintro e w2 ⟨rfl, hb⟩
  go_wp2
  go_ret
  exact ⟨rfl, below_of_alloc HW0.out (x1.on hb)⟩
theorem impl_september (c y : Int) (w : World) (hT : Tab w) (hc : c = 0 ∨ c = 1) (hy1 : -4 ≤ y) (hy2 : y ≤ 4000) : Calls Tryz.prog 250 #[.agg #[.int .i64 c, .int .i64 y]] w fun e w' => e = .returned (.int .i64 (lineD c (y - 1) 9 1)) ∧ Below w.heap.size w w' := by
  obtain ⟨W0, hW0⟩ : ∃ W0, W0 = w.alloc (.cells #[.int .i64 c, .int .i64 y] 264) := ⟨_, rfl⟩
  have HW0 := hideP hW0
  have KT : ∀ x : Later W0, Tab x.w := fun x => hT.later (below_of_alloc hW0 x.below)
  clear hW0 hT
  have KA : Calls Tryz.prog 298 #[.agg #[.int .i64 c, .int .i64 y]] W0 fun e w' => e = .returned (.agg #[.int .i64 c, .int .i64 (y - 1)]) ∧ Below W0.heap.size W0 w' := implAhead c y W0 hy1 hy2
  have KL : ∀ x : Later W0, Calls Tryz.prog 297 #[.agg #[.int .i64 c, .int .i64 (y - 1)], .int .i64 9, .int .i64 1] x.w fun e w' => e = .returned (.int .i64 (lineD c (y - 1) 9 1)) ∧ Below x.w.heap.size x.w w' := fun x => implDayOn c (y - 1) 9 1 x.w (KT x) hc (by omega) (by omega) (by omega) (by omega) (by omega) (by omega)
  clear hc KT
  generalize lineD c (y - 1) 9 1 = R at *
  go_enter Tryz.func250, Tryz.ntmps250
  go_wp2_with fail
  rw [← HW0.out]
  refine KA.mono ?_
  rintro e w1 ⟨rfl, hb⟩
  obtain ⟨x1, rfl⟩ := Later.of hb
  clear hb
  go_wp2_with fail
  refine (KL x1).mono ?_
  rintro e w2 ⟨rfl, hb⟩
  go_wp2
  go_ret
  exact ⟨rfl, below_of_alloc HW0.out (x1.on hb)⟩
theorem impl_yule (c y : Int) (w : World) (hT : Tab w) (hc : c = 0 ∨ c = 1) (hy1 : -4 ≤ y) (hy2 : y ≤ 4000) : Calls Tryz.prog 251 #[.agg #[.int .i64 c, .int .i64 y]] w fun e w' => e = .returned (.int .i64 (lineD c (y - 1) 12 25)) ∧ Below w.heap.size w w' := by
  obtain ⟨W0, hW0⟩ : ∃ W0, W0 = w.alloc (.cells #[.int .i64 c, .int .i64 y] 264) := ⟨_, rfl⟩
  have HW0 := hideP hW0
  have KT : ∀ x : Later W0, Tab x.w := fun x => hT.later (below_of_alloc hW0 x.below)
  clear hW0 hT
  have KA : Calls Tryz.prog 298 #[.agg #[.int .i64 c, .int .i64 y]] W0 fun e w' => e = .returned (.agg #[.int .i64 c, .int .i64 (y - 1)]) ∧ Below W0.heap.size W0 w' := implAhead c y W0 hy1 hy2
  have KL : ∀ x : Later W0, Calls Tryz.prog 297 #[.agg #[.int .i64 c, .int .i64 (y - 1)], .int .i64 12, .int .i64 25] x.w fun e w' => e = .returned (.int .i64 (lineD c (y - 1) 12 25)) ∧ Below x.w.heap.size x.w w' := fun x => implDayOn c (y - 1) 12 25 x.w (KT x) hc (by omega) (by omega) (by omega) (by omega) (by omega) (by omega)
  clear hc KT
  generalize lineD c (y - 1) 12 25 = R at *
  go_enter Tryz.func251, Tryz.ntmps251
  go_wp2_with fail
  rw [← HW0.out]
  refine KA.mono ?_
  rintro e w1 ⟨rfl, hb⟩
  obtain ⟨x1, rfl⟩ := Later.of hb
  clear hb
  go_wp2_with fail
  refine (KL x1).mono ?_
  rintro e w2 ⟨rfl, hb⟩
  go_wp2
  go_ret
  exact ⟨rfl, below_of_alloc HW0.out (x1.on hb)⟩
theorem impl_easter (c y : Int) (w : World) (hT : Tab w) (hc : c = 0 ∨ c = 1) (hy1 : 1 ≤ y) (hy2 : y ≤ 4000) : Calls Tryz.prog 249 #[.agg #[.int .i64 c, .int .i64 y]] w fun e w' => e = .returned (.int .i64 (easL c y)) ∧ Below w.heap.size w w' := by
  obtain ⟨W0, hW0⟩ : ∃ W0, W0 = w.alloc (.cells #[.int .i64 c, .int .i64 y] 264) := ⟨_, rfl⟩
  have HW0 := hideP hW0
  have KT : ∀ x : Later W0, Tab x.w := fun x => hT.later (below_of_alloc hW0 x.below)
  clear hW0 hT
  have KL : Calls Tryz.prog 299 #[.int .i64 c, .int .i64 y] W0 fun e w' => e = .returned (.int .i64 (easL c y)) ∧ Below W0.heap.size W0 w' := implLineEaster c y W0 (KT ⟨W0, Below.refl _ _⟩) hc hy1 hy2
  clear hc KT
  generalize easL c y = R at *
  go_enter Tryz.func249, Tryz.ntmps249
  go_wp2_with fail
  rw [← HW0.out]
  refine KL.mono ?_
  rintro e w1 ⟨rfl, hb⟩
  go_wp2
  go_ret
  exact ⟨rfl, below_of_alloc HW0.out hb⟩
end Go.Proofs.YtjojgfdfbkmlkaaGreatDoor.ctr
namespace Go.Proofs.YtjojgfdfbkmlkaaGreatDoor.ctr
open Go.RowKit
theorem beg_one : (#[.func (.func 245) #[] #[], .func (.func 246) #[] #[], .func (.func 247) #[] #[], .func (.func 248) #[] #[], .func (.func 249) #[] #[], .func (.func 250) #[] #[], .func (.func 251) #[] #[]] : Array Value).all (·.oneCell') = true := by first | rfl | kernel_rfl | decide | simp [Value.oneCell']
theorem beg_size : (Tryz.prog.info? 265).map (·.size) = some (#[.func (.func 245) #[] #[], .func (.func 246) #[] #[], .func (.func 247) #[] #[], .func (.func 248) #[] #[], .func (.func 249) #[] #[], .func (.func 250) #[] #[], .func (.func 251) #[] #[]] : Array Value).size := by kernel_rfl
set_option maxHeartbeats 1000000 in
theorem implBeginning (c s y : Int) (w : World) (hT : Tab w) (hc : c = 0 ∨ c = 1) (hs : styleP s) (hy1 : 1 ≤ y) (hy2 : y ≤ 3900) : Calls Tryz.prog 193 #[.int .i64 c, .int .i64 s, .int .i64 y] w fun e w' => e = .returned (.int .i64 (start c s y)) ∧ Below w.heap.size w w' := by
  obtain ⟨W1, hW1⟩ : ∃ W1, W1 = (w.alloc (.cells #[.nilFunc, .nilFunc, .nilFunc, .nilFunc, .nilFunc, .nilFunc, .nilFunc] 265)).setRow w.heap.size #[.func (.func 245) #[] #[], .func (.func 246) #[] #[], .func (.func 247) #[] #[], .func (.func 248) #[] #[], .func (.func 249) #[] #[], .func (.func 250) #[] #[], .func (.func 251) #[] #[]] := ⟨_, rfl⟩
  have HB : Hid (Blk W1 w.heap.size #[.func (.func 245) #[] #[], .func (.func 246) #[] #[], .func (.func 247) #[] #[], .func (.func 248) #[] #[], .func (.func 249) #[] #[], .func (.func 250) #[] #[], .func (.func 251) #[] #[]] 265) := by unfold Hid; rw [hW1]; exact (Blk.new w _ _).setRow _
  have HL : Hid (Below w.heap.size w W1) := by unfold Hid; rw [hW1]; exact below_setRow ((Below.refl _ _).alloc (Nat.le_refl _) _) _ (Nat.le_refl _)
  have HW1 := hideP hW1
  have KT : Tab W1 := hT.later HL.out
  clear hT hW1
  rcases style_cases hs with rfl | rfl | rfl | rfl | rfl | rfl | rfl
  · have ck : W1.cell? ⟨w.heap.size, 0, none⟩ = some (.func (.func 245) #[] #[]) := HB.out.cell 0 rfl
    have KL : Calls Tryz.prog 245 #[.agg #[.int .i64 c, .int .i64 y]] W1 fun e w' => e = .returned (.int .i64 (start c 0 y)) ∧ Below W1.heap.size W1 w' := by rw [start_0]; exact impl_january c y W1 KT hc (by omega) (by omega)
    clear KT hc hs
    generalize start c 0 y = R at *
    go_enter Tryz.func193, Tryz.ntmps193
    go_wp2_with (refine wpList_store_row _ rfl 265 _ _ rfl w.heap.size #[.nilFunc, .nilFunc, .nilFunc, .nilFunc, .nilFunc, .nilFunc, .nilFunc] #[.func (.func 245) #[] #[], .func (.func 246) #[] #[], .func (.func 247) #[] #[], .func (.func 248) #[] #[], .func (.func 249) #[] #[], .func (.func 250) #[] #[], .func (.func 251) #[] #[]] rfl rfl (Blk.new w _ _) beg_size rfl beg_one ?_; rw [← HW1.out])
    refine KL.mono ?_
    rintro e w1 ⟨rfl, hb⟩
    go_wp2
    go_ret
    exact ⟨rfl, HL.out.trans (hb.mono HL.out.size)⟩
  · have ck : W1.cell? ⟨w.heap.size, 1, none⟩ = some (.func (.func 246) #[] #[]) := HB.out.cell 1 rfl
    have KL : Calls Tryz.prog 246 #[.agg #[.int .i64 c, .int .i64 y]] W1 fun e w' => e = .returned (.int .i64 (start c 1 y)) ∧ Below W1.heap.size W1 w' := by rw [start_1]; exact impl_march c y W1 KT hc (by omega) (by omega)
    clear KT hc hs
    generalize start c 1 y = R at *
    go_enter Tryz.func193, Tryz.ntmps193
    go_wp2_with (refine wpList_store_row _ rfl 265 _ _ rfl w.heap.size #[.nilFunc, .nilFunc, .nilFunc, .nilFunc, .nilFunc, .nilFunc, .nilFunc] #[.func (.func 245) #[] #[], .func (.func 246) #[] #[], .func (.func 247) #[] #[], .func (.func 248) #[] #[], .func (.func 249) #[] #[], .func (.func 250) #[] #[], .func (.func 251) #[] #[]] rfl rfl (Blk.new w _ _) beg_size rfl beg_one ?_; rw [← HW1.out])
    refine KL.mono ?_
    rintro e w1 ⟨rfl, hb⟩
    go_wp2
    go_ret
    exact ⟨rfl, HL.out.trans (hb.mono HL.out.size)⟩
  · have ck : W1.cell? ⟨w.heap.size, 2, none⟩ = some (.func (.func 247) #[] #[]) := HB.out.cell 2 rfl
    have KL : Calls Tryz.prog 247 #[.agg #[.int .i64 c, .int .i64 y]] W1 fun e w' => e = .returned (.int .i64 (start c 2 y)) ∧ Below W1.heap.size W1 w' := by rw [start_2]; exact impl_lady c y W1 KT hc (by omega) (by omega)
    clear KT hc hs
    generalize start c 2 y = R at *
    go_enter Tryz.func193, Tryz.ntmps193
    go_wp2_with (refine wpList_store_row _ rfl 265 _ _ rfl w.heap.size #[.nilFunc, .nilFunc, .nilFunc, .nilFunc, .nilFunc, .nilFunc, .nilFunc] #[.func (.func 245) #[] #[], .func (.func 246) #[] #[], .func (.func 247) #[] #[], .func (.func 248) #[] #[], .func (.func 249) #[] #[], .func (.func 250) #[] #[], .func (.func 251) #[] #[]] rfl rfl (Blk.new w _ _) beg_size rfl beg_one ?_; rw [← HW1.out])
    refine KL.mono ?_
    rintro e w1 ⟨rfl, hb⟩
    go_wp2
    go_ret
    exact ⟨rfl, HL.out.trans (hb.mono HL.out.size)⟩
  · have ck : W1.cell? ⟨w.heap.size, 3, none⟩ = some (.func (.func 248) #[] #[]) := HB.out.cell 3 rfl
    have KL : Calls Tryz.prog 248 #[.agg #[.int .i64 c, .int .i64 y]] W1 fun e w' => e = .returned (.int .i64 (start c 3 y)) ∧ Below W1.heap.size W1 w' := by rw [start_3]; exact impl_pisa c y W1 KT hc (by omega) (by omega)
    clear KT hc hs
    generalize start c 3 y = R at *
    go_enter Tryz.func193, Tryz.ntmps193
    go_wp2_with (refine wpList_store_row _ rfl 265 _ _ rfl w.heap.size #[.nilFunc, .nilFunc, .nilFunc, .nilFunc, .nilFunc, .nilFunc, .nilFunc] #[.func (.func 245) #[] #[], .func (.func 246) #[] #[], .func (.func 247) #[] #[], .func (.func 248) #[] #[], .func (.func 249) #[] #[], .func (.func 250) #[] #[], .func (.func 251) #[] #[]] rfl rfl (Blk.new w _ _) beg_size rfl beg_one ?_; rw [← HW1.out])
    refine KL.mono ?_
    rintro e w1 ⟨rfl, hb⟩
    go_wp2
    go_ret
    exact ⟨rfl, HL.out.trans (hb.mono HL.out.size)⟩
  · have ck : W1.cell? ⟨w.heap.size, 4, none⟩ = some (.func (.func 249) #[] #[]) := HB.out.cell 4 rfl
    have KL : Calls Tryz.prog 249 #[.agg #[.int .i64 c, .int .i64 y]] W1 fun e w' => e = .returned (.int .i64 (start c 4 y)) ∧ Below W1.heap.size W1 w' := by rw [start_4]; exact impl_easter c y W1 KT hc (by omega) (by omega)
    clear KT hc hs
    generalize start c 4 y = R at *
    go_enter Tryz.func193, Tryz.ntmps193
    go_wp2_with (refine wpList_store_row _ rfl 265 _ _ rfl w.heap.size #[.nilFunc, .nilFunc, .nilFunc, .nilFunc, .nilFunc, .nilFunc, .nilFunc] #[.func (.func 245) #[] #[], .func (.func 246) #[] #[], .func (.func 247) #[] #[], .func (.func 248) #[] #[], .func (.func 249) #[] #[], .func (.func 250) #[] #[], .func (.func 251) #[] #[]] rfl rfl (Blk.new w _ _) beg_size rfl beg_one ?_; rw [← HW1.out])
    refine KL.mono ?_
    rintro e w1 ⟨rfl, hb⟩
    go_wp2
    go_ret
    exact ⟨rfl, HL.out.trans (hb.mono HL.out.size)⟩
  · have ck : W1.cell? ⟨w.heap.size, 5, none⟩ = some (.func (.func 250) #[] #[]) := HB.out.cell 5 rfl
    have KL : Calls Tryz.prog 250 #[.agg #[.int .i64 c, .int .i64 y]] W1 fun e w' => e = .returned (.int .i64 (start c 5 y)) ∧ Below W1.heap.size W1 w' := by rw [start_5]; exact impl_september c y W1 KT hc (by omega) (by omega)
    clear KT hc hs
    generalize start c 5 y = R at *
    go_enter Tryz.func193, Tryz.ntmps193
    go_wp2_with (refine wpList_store_row _ rfl 265 _ _ rfl w.heap.size #[.nilFunc, .nilFunc, .nilFunc, .nilFunc, .nilFunc, .nilFunc, .nilFunc] #[.func (.func 245) #[] #[], .func (.func 246) #[] #[], .func (.func 247) #[] #[], .func (.func 248) #[] #[], .func (.func 249) #[] #[], .func (.func 250) #[] #[], .func (.func 251) #[] #[]] rfl rfl (Blk.new w _ _) beg_size rfl beg_one ?_; rw [← HW1.out])
    refine KL.mono ?_
    rintro e w1 ⟨rfl, hb⟩
    go_wp2
    go_ret
    exact ⟨rfl, HL.out.trans (hb.mono HL.out.size)⟩
  · have ck : W1.cell? ⟨w.heap.size, 6, none⟩ = some (.func (.func 251) #[] #[]) := HB.out.cell 6 rfl
    have KL : Calls Tryz.prog 251 #[.agg #[.int .i64 c, .int .i64 y]] W1 fun e w' => e = .returned (.int .i64 (start c 6 y)) ∧ Below W1.heap.size W1 w' := by rw [start_6]; exact impl_yule c y W1 KT hc (by omega) (by omega)
    clear KT hc hs
    generalize start c 6 y = R at *
    go_enter Tryz.func193, Tryz.ntmps193
    go_wp2_with (refine wpList_store_row _ rfl 265 _ _ rfl w.heap.size #[.nilFunc, .nilFunc, .nilFunc, .nilFunc, .nilFunc, .nilFunc, .nilFunc] #[.func (.func 245) #[] #[], .func (.func 246) #[] #[], .func (.func 247) #[] #[], .func (.func 248) #[] #[], .func (.func 249) #[] #[], .func (.func 250) #[] #[], .func (.func 251) #[] #[]] rfl rfl (Blk.new w _ _) beg_size rfl beg_one ?_; rw [← HW1.out])
    refine KL.mono ?_
    rintro e w1 ⟨rfl, hb⟩
    go_wp2
    go_ret
    exact ⟨rfl, HL.out.trans (hb.mono HL.out.size)⟩
end Go.Proofs.YtjojgfdfbkmlkaaGreatDoor.ctr
namespace Go.Proofs.YtjojgfdfbkmlkaaGreatDoor.ctr
open Go.RowKit
theorem first_le' {c y z : Int} (hc : c = 0 ∨ c = 1) (h : y ≤ z) : first c y ≤ first c z := by
  by_cases e : y = z
  · subst e; omega
  · have := first_lt hc (show y < z by omega); omega
def solP (c s y m d z : Int) : Prop := yearP c y ∧ styleP s ∧ dateP c z m d ∧ start c s y ≤ lineD c z m d ∧ lineD c z m d < start c s (y + 1)
instance (c s y m d z : Int) : Decidable (solP c s y m d z) := by unfold solP; infer_instance
end Go.Proofs.YtjojgfdfbkmlkaaGreatDoor.ctr
namespace Go.Proofs.YtjojgfdfbkmlkaaGreatDoor.ctr
open Go.RowKit
set_option maxHeartbeats 2000000 in
theorem implStyleYear (c s n : Int) (w : World) (hT : Tab w) : Calls Tryz.prog 129 #[.int .i64 c, .int .i64 s, .int .i64 n] w fun e w' => e = .returned (styR c s n) ∧ Below w.heap.size w w' := by
  have KD := implDateOf c n w hT
  rcases date_cases c n with hD | ⟨Y, m, d, hD, hc, hY1, hY2, hn1, hn2⟩
  · rw [dateR_no hD] at KD
    have HR : Hid (styR c s n = .tuple #[.int .i64 0, .bool false]) := styR_no (sty_none hD)
    rw [HR.out]
    clear hD HR hT
    unfold z4 at KD
    go_enter Tryz.func129, Tryz.ntmps129
    go_wp2_with fail
    refine KD.mono ?_
    rintro e w1 ⟨rfl, hb⟩
    go_wp2
    go_returns
    exact ⟨rfl, hb.alloc hb.size _⟩
  · rw [dateR_yes hD] at KD
    have KS : ∀ W, Calls Tryz.prog 192 #[.int .i64 s] W fun e w' => e = .returned (.bool (styleB s)) ∧ Below W.heap.size W w' := fun W => calls_below (implStyleOk s W)
    by_cases hs : styleP s
    · simp only [styleB_true hs] at KS
      have KB : Hid (∀ (y : Int), 0 ≤ y → y ≤ 3001 → ∀ x : Later w, Calls Tryz.prog 193 #[.int .i64 c, .int .i64 s, .int .i64 (y + 1)] x.w fun e w' => e = .returned (.int .i64 (start c s (y + 1))) ∧ Below x.w.heap.size x.w w') := fun y h1 h2 x => implBeginning c s (y + 1) x.w (hT.later x.below) hc hs (by omega) (by omega)
      have HRaw : Hid (∀ y, (y = Y - 1 ∨ y = Y ∨ y = Y + 1) → (Y ≤ y → start c s Y ≤ n) → (Y + 1 ≤ y → start c s (Y + 1) ≤ n) → (y ≤ Y → n < start c s (y + 1)) → rawYear c s Y n = y) := fun y h h1 h2 he => raw_of h h1 h2 he
      have HO : Hid (1 ≤ rawYear c s Y n → rawYear c s Y n ≤ 3000 → styR c s n = .tuple #[.int .i64 (rawYear c s Y n), .bool true]) := fun h1 h2 => styR_yes (sty_yes hD hs h1 h2)
      have HN : Hid (¬ (1 ≤ rawYear c s Y n ∧ rawYear c s Y n ≤ 3000) → styR c s n = .tuple #[.int .i64 0, .bool false]) := fun h => styR_no (sty_out hD h)
      generalize styR c s n = R at *
      clear hD hn1 hn2 hc hs hT
      go_enter Tryz.func129, Tryz.ntmps129
      go_wp2_with fail
      refine KD.mono ?_
      rintro e w1 ⟨rfl, hb1⟩
      have HB1 := hideP hb1
      obtain ⟨W0, hW0⟩ : ∃ W0, W0 = w1.alloc (.cells #[.int .i64 c, .int .i64 Y, .int .i64 m, .int .i64 d] 88) := ⟨_, rfl⟩
      have HW0 := hideP hW0
      have c1 : ∀ x : Later W0, x.w.cell? ⟨w1.heap.size, 1, none⟩ = some (.int .i64 Y) := Later.new hW0 1 rfl
      have HL : Hid (∀ x : Later W0, Below w.heap.size w x.w) := fun x => HB1.out.trans ((below_of_alloc HW0.out x.below).mono HB1.out.size)
      clear hb1 hW0 KD
      go_wp2_with fail
      rw [← HW0.out]
      refine (KS _).mono ?_
      rintro e w2 ⟨rfl, hb⟩
      obtain ⟨x1, rfl⟩ := Later.of hb
      clear hb
      go_wp2_with fail
      go_loopw [10] (fun i wr => ∃ (y : Int) (x : Later W0), i = .int .i64 y ∧ wr = x.w ∧ Y - 1 ≤ y ∧ y ≤ Y + 1 ∧ Hid (Y ≤ y → start c s Y ≤ n) ∧ Hid (Y + 1 ≤ y → start c s (Y + 1) ≤ n)) (fun i _ => (4000 - intOf i).toNat)
      case atStart => exact ⟨Y - 1, x1, rfl, rfl, by omega, by omega, fun h => by omega, fun h => by omega⟩
      case round =>
        obtain ⟨y, x, rfl, rfl, y1, y2, H1, H2⟩ := hrel
        have K := KB.out y (by omega) (by omega) ⟨x.w, HL.out x⟩
        by_cases hyY : y ≤ Y
        · by_cases hle : start c s (y + 1) ≤ n
          · have H1' : Hid (Y ≤ y + 1 → start c s Y ≤ n) := fun h => by
              by_cases e : Y ≤ y
              · exact H1.out e
              · rw [show Y = y + 1 by omega]; exact hle
            have H2' : Hid (Y + 1 ≤ y + 1 → start c s (Y + 1) ≤ n) := fun h => by
              rw [show Y = y by omega]; exact hle
            clear H1 H2
            generalize start c s (y + 1) = S at *
            have hd1 : decide (y ≤ Y) = true := decide_eq_true hyY
            have hd2 : decide (S ≤ n) = true := decide_eq_true hle
            go_wp2_with fail
            refine K.mono ?_
            rintro e w3 ⟨rfl, hb⟩
            obtain ⟨x3, rfl⟩ := x.next hb
            clear hb
            go_wp2
            exact ⟨⟨y + 1, x3, rfl, rfl, by omega, by omega, H1', H2'⟩, by simp [intOf]; omega⟩
          · have hraw : rawYear c s Y n = y := HRaw.out y (by omega) H1.out H2.out (fun _ => by omega)
            rw [hraw] at HO HN
            clear H1 H2 HRaw hraw KB
            generalize start c s (y + 1) = S at *
            have hd1 : decide (y ≤ Y) = true := decide_eq_true hyY
            have hd2 : decide (S ≤ n) = false := decide_eq_false hle
            by_cases hlo : y < 1
            · go_wp2_with fail
              refine K.mono ?_
              rintro e w3 ⟨rfl, hb⟩
              obtain ⟨x3, rfl⟩ := x.next hb
              clear hb
              go_wp2
              go_returns
              rw [HN.out (by omega)]
              exact ⟨rfl, HL.out x3⟩
            · have hlo' : decide (y < 1) = false := decide_eq_false hlo
              have hhi' : decide (3000 < y) = false := decide_eq_false (by omega)
              go_wp2_with fail
              refine K.mono ?_
              rintro e w3 ⟨rfl, hb⟩
              obtain ⟨x3, rfl⟩ := x.next hb
              clear hb
              go_wp2
              go_returns
              rw [HO.out (by omega) (by omega)]
              exact ⟨rfl, HL.out x3⟩
        · have hraw : rawYear c s Y n = y := HRaw.out y (by omega) H1.out H2.out (fun h => by omega)
          rw [hraw] at HO HN
          clear H1 H2 HRaw hraw KB K
          have hd1 : decide (y ≤ Y) = false := decide_eq_false hyY
          by_cases hhi : 3000 < y
          · have hlo' : decide (y < 1) = false := decide_eq_false (by omega)
            have hhi' : decide (3000 < y) = true := decide_eq_true hhi
            go_wp2
            go_returns
            rw [HN.out (by omega)]
            exact ⟨rfl, HL.out x⟩
          · have hlo' : decide (y < 1) = false := decide_eq_false (by omega)
            have hhi' : decide (3000 < y) = false := decide_eq_false hhi
            go_wp2
            go_returns
            rw [HO.out (by omega) (by omega)]
            exact ⟨rfl, HL.out x⟩
    · simp only [styleB_false hs] at KS
      have HR : Hid (styR c s n = .tuple #[.int .i64 0, .bool false]) := styR_no (sty_style hs)
      rw [HR.out]
      clear hD HR hs hn1 hn2 hc hT
      go_enter Tryz.func129, Tryz.ntmps129
      go_wp2_with fail
      refine KD.mono ?_
      rintro e w1 ⟨rfl, hb1⟩
      have HB1 := hideP hb1
      clear hb1
      go_wp2_with fail
      refine (KS _).mono ?_
      rintro e w2 ⟨rfl, hb⟩
      have HB2 := hideP (below_alloc hb)
      clear hb
      go_wp2
      go_returns
      exact ⟨rfl, HB1.out.trans (HB2.out.mono HB1.out.size)⟩
end Go.Proofs.YtjojgfdfbkmlkaaGreatDoor.ctr
namespace Go.Proofs.YtjojgfdfbkmlkaaGreatDoor.ctr
open Go.RowKit
section
variable {P : Program} {ops : Array Oper} {Q : Exit → Act → World → Prop}
theorem held_take {md : Region.Mode} {S : World → Prop} {i : Nat} {d : Tmp} {oi : Oper} {v : Value} {fuel : Nat} {listed : Array Bool} {a : Act} {w : World} (hi : ops[i]? = some oi) (hd : oi.dst = some d) (hs : Region.noSelect ops = true) (hf : Region.free md ops listed i = true) (hr : (Region.ready md ops listed).contains i = true) (hQ : ∀ c a w, Q (.panic c) (a.put (some d) v) w → Q (.panic c) a w) (hw : Region.wanted oi (yielded ops a.tmps) = true) (hy : ∀ w, S w → (execOp a.eval oi).run P w = .ok (.value v) w) (hS : S w) (h : wpAnyH P md ops Q S fuel (listed.setIfInBounds i true) (a.put (some d) v) w) : wpAnyH P md ops Q S (fuel + 1) listed a w :=
  wpAnyH_take hi hs hf hr (fun c a' w' h' => by rw [hd] at h'; exact hQ c a' w' h') (Or.inl ⟨hw, hy⟩) hS (by rw [hd]; exact h)
theorem held_one {md : Region.Mode} {S : World → Prop} {f i : Nat} {L : Array Bool} {a : Act} {w : World} (hr : Region.ready md ops L = [i]) (h : wpOp P ops Q i (fun a' w' => S w' ∧ wpAnyH P md ops Q S f (L.setIfInBounds i true) a' w') a w) : wpAnyH P md ops Q S (f + 1) L a w :=
by
  refine ⟨fun q => ?_, fun j hj => ?_⟩
  · rw [hr] at q
    cases q
  · rw [hr] at hj
    obtain rfl := List.mem_singleton.1 hj
    exact h
end
theorem op_skip {P : Program} {ops : Array Oper} {Q : Exit → Act → World → Prop} {i : Nat} {o : Oper} {K : Act → World → Prop} {a : Act} {w w' : World} (hi : ops[i]? = some o) (hd : o.dst = none) (hw : Region.wanted o (yielded ops a.tmps) = true) (hx : (execOp a.eval o).run P w = .ok .skip w') (h : K a w') : wpOp P ops Q i K a w := by
  unfold wpOp
  simp only [hi, hw, if_true]
  left
  unfold Oper.wp
  rw [hx, Oper.upon_skip, hd]
  exact h
end Go.Proofs.YtjojgfdfbkmlkaaGreatDoor.ctr
