/- From a walk in one goroutine to a row that says 'leaving', and its tied card where the call can start goroutines: where all others have ended, they are only leaving. Contracts of both Shift: how far a day of a right regime is from the day that its date is by CGre; 0 and false where there is none. -/
import Derived.Test.YtilpencbbdpgfaaGreatDoorJnPaa
import Derived.Conc.Holds
import Derived.SevenTiedAt
import Derived.Leaving
import Derived.Test.YtilpencbbdpgfaaGreatDoorJnPbi
namespace Go.Proofs.YtilpencbbdpgfaaGreatDoor.kit
open Go
end Go.Proofs.YtilpencbbdpgfaaGreatDoor.kit
namespace Go.Proofs.YtilpencbbdpgfaaGreatDoor.ctr
open Go.RowKit
theorem day_in {r : Rgm} {n : Int} (h : regimeB r = true) (h1 : r.fr ≤ n) (h2 : n ≤ r.to) : 400 ≤ n ∧ n ≤ 1090000 := by
  rcases segAt_cases r.segs n with ⟨k, _⟩ | ⟨j, hj, k, k1, k2⟩
  · have := (seg_fact h n).2 ⟨h1, h2⟩; omega
  · have := segOk_nums (right_seg h hj).1; omega
noncomputable def shiftR (r : Rgm) (n : Int) : Value := if (regimeB r = true ∧ r.fr ≤ n ∧ n ≤ r.to) ∧ dateOk 1 (rdgOn r n).sol (rdgOn r n).mon (rdgOn r n).day = true then .tuple #[.int .i64 (dayOf 1 (rdgOn r n).sol (rdgOn r n).mon (rdgOn r n).day - n), .bool true] else .tuple #[.int .i64 0, .bool false]
theorem shift_tuple (r : Rgm) (n : Int) : ∃ k ok, shiftR r n = .tuple #[.int .i64 k, .bool ok] := by
  unfold shiftR
  split
  · exact ⟨_, _, rfl⟩
  · exact ⟨_, _, rfl⟩
theorem plainR_yes {c : Int} {x : Rdg} (h : dateOk c x.sol x.mon x.day = true) : plainR c x = .tuple #[.agg #[.int .i64 c, .int .i64 x.sol, .int .i64 x.mon, .int .i64 x.day], .bool true] := by unfold plainR; rw [if_pos h]
theorem plainR_no {c : Int} {x : Rdg} (h : ¬ dateOk c x.sol x.mon x.day = true) : plainR c x = .tuple #[.agg #[.int .i64 0, .int .i64 0, .int .i64 0, .int .i64 0], .bool false] := by unfold plainR; rw [if_neg h]
set_option maxHeartbeats 4000000 in
theorem implShiftOn (v : Value) (r : Rgm) (n : Int) (w : World) (h : GRow w v r) (hR : regimeB r = true) (h1 : r.fr ≤ n) (h2 : n ≤ r.to) (hT : Tab w) : Calls Tryz.prog 80 #[v, .int .i64 n] w fun e w' => e = .returned (shiftR r n) ∧ Below w.heap.size w w' := by
  have hG := h
  obtain ⟨a1, c1, a2, c2, a3, c3, rfl⟩ := h.parts
  obtain ⟨W0, hW0, HR, hBl⟩ := box7 w (.string r.name) (.int .i64 r.fr) (.int .i64 r.to) (.slice a1 r.segs.length c1) (.slice a2 r.pats.length c2) (.slice a3 r.rgns.length c3) (.int .i64 r.rule) 36
  obtain ⟨d0, d1, d2, d3, d4, d5, d6⟩ := sevenL HR
  have HW0 := hideP hW0
  have HBl := hideP hBl
  have KR : ∀ y : Later W0, Calls Tryz.prog 62 #[.agg #[.string r.name, .int .i64 r.fr, .int .i64 r.to, .slice a1 r.segs.length c1, .slice a2 r.pats.length c2, .slice a3 r.rgns.length c3, .int .i64 r.rule], .int .i64 n] y.w fun e w' => e = .returned (rdgV (rdgOn r n)) ∧ Below y.w.heap.size y.w w' := fun y => implReadingOn _ r n y.w (hG.below (hBl y)) hR h1 h2 (hT.later (hBl y))
  have KD : ∀ (x : Rdg) (y : Later W0), Calls Tryz.prog 134 #[.int .i64 1, rdgV x] y.w fun e w' => e = .returned (plainR 1 x) ∧ Below y.w.heap.size y.w w' := fun x y => implSolarDate 1 x y.w (hT.later (hBl y))
  have KY : ∀ (y m d : Int) W, Below w.heap.size w W → Calls Tryz.prog 129 #[.agg #[.int .i64 1, .int .i64 y, .int .i64 m, .int .i64 d]] W fun e w' => e = .returned (.int .i64 (dayOf 1 y m d)) ∧ Below W.heap.size W w' := fun y m d W hb => implDayOf 1 y m d W (hT.later hb)
  have hd := day_in hR h1 h2
  have hq : regimeB r = true ∧ r.fr ≤ n ∧ n ≤ r.to := ⟨hR, h1, h2⟩
  clear hW0 hG h hT HR hBl
  by_cases hO : dateOk 1 (rdgOn r n).sol (rdgOn r n).mon (rdgOn r n).day = true
  case neg =>
    rw [show shiftR r n = .tuple #[.int .i64 0, .bool false] by unfold shiftR; rw [if_neg (fun k => hO k.2)]]
    clear hR hq
    generalize rdgOn r n = x at *
    have KD1 := KD x
    rw [plainR_no hO] at KD1
    clear KD KY
    go_enter Tryz.func80, Tryz.ntmps80
    go_wp2_with fail
    rw [← HW0.out]
    refine (KR ⟨W0, Below.refl _ _⟩).mono ?_
    rintro e w1 ⟨rfl, hb⟩
    obtain ⟨y1, rfl⟩ := Later.of hb
    clear hb
    go_wp2_with fail
    refine (KD1 y1).mono ?_
    rintro e w2 ⟨rfl, hb⟩
    obtain ⟨y2, rfl⟩ := y1.next hb
    clear hb
    go_wp2
    go_returns
    exact ⟨rfl, (HBl.out y2).alloc (HBl.out y2).size _⟩
  have hy := dayOf_bound 1 (rdgOn r n).sol (rdgOn r n).mon (rdgOn r n).day
  rw [show shiftR r n = .tuple #[.int .i64 (dayOf 1 (rdgOn r n).sol (rdgOn r n).mon (rdgOn r n).day - n), .bool true] by unfold shiftR; rw [if_pos ⟨hq, hO⟩]]
  clear hR hq
  generalize rdgOn r n = x at *
  have KD1 := KD x
  rw [plainR_yes hO] at KD1
  have KY1 := KY x.sol x.mon x.day
  generalize dayOf 1 x.sol x.mon x.day = dd at *
  clear KD KY
  go_enter Tryz.func80, Tryz.ntmps80
  go_wp2_with fail
  rw [← HW0.out]
  refine (KR ⟨W0, Below.refl _ _⟩).mono ?_
  rintro e w1 ⟨rfl, hb⟩
  obtain ⟨y1, rfl⟩ := Later.of hb
  clear hb
  go_wp2_with fail
  refine (KD1 y1).mono ?_
  rintro e w2 ⟨rfl, hb⟩
  obtain ⟨y2, rfl⟩ := y1.next hb
  have B2 := HBl.out y2
  clear hb
  go_wp2_with fail
  refine (KY1 _ (B2.alloc B2.size _)).mono ?_
  rintro e w3 ⟨rfl, hb⟩
  have B3 := B2.alloc B2.size (.cells #[.int .i64 1, .int .i64 x.sol, .int .i64 x.mon, .int .i64 x.day] 92)
  have B4 : Below w.heap.size w w3 := B3.trans (hb.mono B3.size)
  clear hb
  go_wp2
  go_returns
  exact ⟨rfl, B4⟩
set_option maxHeartbeats 4000000 in
theorem implShift (v : Value) (r : Rgm) (n : Int) (a : Addr) (w : World) (h : GRow w v r) (ht : r.to ≤ 9223372036854775807) (hE : ErrT w) (hT : Tab w) (hS : Sent w a) : Calls Tryz.prog 29 #[v, .int .i64 n] w fun e w' => e = .returned (shiftR r n) ∧ Below w.heap.size w w' := by
  have hG := h
  obtain ⟨a1, c1, a2, c2, a3, c3, rfl⟩ := h.parts
  obtain ⟨W0, hW0, HR, hBl⟩ := box7 w (.string r.name) (.int .i64 r.fr) (.int .i64 r.to) (.slice a1 r.segs.length c1) (.slice a2 r.pats.length c2) (.slice a3 r.rgns.length c3) (.int .i64 r.rule) 36
  obtain ⟨d0, d1, d2, d3, d4, d5, d6⟩ := sevenL HR
  have HW0 := hideP hW0
  have HBl := hideP hBl
  have KH : ∀ y : Later W0, Calls Tryz.prog 61 #[.agg #[.string r.name, .int .i64 r.fr, .int .i64 r.to, .slice a1 r.segs.length c1, .slice a2 r.pats.length c2, .slice a3 r.rgns.length c3, .int .i64 r.rule], .int .i64 n] y.w fun e w' => e = .returned (.bool (hasB r n)) ∧ Below y.w.heap.size y.w w' := fun y => implHasReading _ r n a y.w (hG.below (hBl y)) ht (hE.below (hBl y)) (hT.later (hBl y)) (hS.later (hBl y))
  have KO : hasB r n = true → ∀ y : Later W0, Calls Tryz.prog 80 #[.agg #[.string r.name, .int .i64 r.fr, .int .i64 r.to, .slice a1 r.segs.length c1, .slice a2 r.pats.length c2, .slice a3 r.rgns.length c3, .int .i64 r.rule], .int .i64 n] y.w fun e w' => e = .returned (shiftR r n) ∧ Below y.w.heap.size y.w w' := fun k y => implShiftOn _ r n y.w (hG.below (hBl y)) (hasB_yes k).1 (hasB_yes k).2.1 (hasB_yes k).2.2 (hT.later (hBl y))
  have hn : hasB r n = false → shiftR r n = .tuple #[.int .i64 0, .bool false] := fun k => by unfold shiftR; rw [if_neg (fun q => hasB_no k q.1)]
  clear hW0 hG h ht hE hT hS HR hBl
  cases hb0 : hasB r n
  · rw [hn hb0]
    rw [hb0] at KH
    clear KO hn hb0
    go_enter Tryz.func29, Tryz.ntmps29
    go_wp2_with fail
    rw [← HW0.out]
    refine (KH ⟨W0, Below.refl _ _⟩).mono ?_
    rintro e w1 ⟨rfl, hb⟩
    obtain ⟨y1, rfl⟩ := Later.of hb
    clear hb
    go_wp2
    go_returns
    exact ⟨rfl, HBl.out y1⟩
  have K := KO hb0
  rw [hb0] at KH
  clear KO hn hb0
  obtain ⟨k, ok, ex⟩ := shift_tuple r n
  rw [ex] at K ⊢
  clear ex
  go_enter Tryz.func29, Tryz.ntmps29
  go_wp2_with fail
  rw [← HW0.out]
  refine (KH ⟨W0, Below.refl _ _⟩).mono ?_
  rintro e w1 ⟨rfl, hb⟩
  obtain ⟨y1, rfl⟩ := Later.of hb
  clear hb
  go_wp2_with fail
  refine (K y1).mono ?_
  rintro e w2 ⟨rfl, hb⟩
  obtain ⟨y2, rfl⟩ := y1.next hb
  clear hb
  go_wp2
  go_returns
  exact ⟨rfl, HBl.out y2⟩
set_option maxHeartbeats 4000000 in
theorem specShift (v : Value) (r : Rgm) (n : Int) (w : World) (h : GRow w v r) (hf : -9223372036854775808 ≤ r.fr) (ht : r.to ≤ 9223372036854775807) : Calls Tryz.prog 28 #[v, .int .i64 n] w fun e w' => e = .returned (shiftR r n) ∧ Below w.heap.size w w' := by
  have hG := h
  obtain ⟨v1, v2, v3, rfl, _, x1, x2, x3⟩ := h
  obtain ⟨a1, c1, rfl, _⟩ := x1
  obtain ⟨a2, c2, rfl, _⟩ := x2
  obtain ⟨a3, c3, rfl, _⟩ := x3
  obtain ⟨W0, hW0, d0, d1, d2, d3, d4, d5, d6, hBl⟩ := seven_box w (.string r.name) (.int .i64 r.fr) (.int .i64 r.to) (.slice a1 r.segs.length c1) (.slice a2 r.pats.length c2) (.slice a3 r.rgns.length c3) (.int .i64 r.rule) 36
  have HW0 := hideP hW0
  have HBl := hideP hBl
  have KR : ∀ y : Later W0, Calls Tryz.prog 16 #[.agg #[.string r.name, .int .i64 r.fr, .int .i64 r.to, .slice a1 r.segs.length c1, .slice a2 r.pats.length c2, .slice a3 r.rgns.length c3, .int .i64 r.rule], .int .i64 n] y.w fun e w' => e = .returned (readR r n) ∧ Below y.w.heap.size y.w w' := fun y => specReadingOf _ r n y.w (GRow.below hG (hBl y)) hf ht
  have KD : ∀ (x : Rdg) W, Calls Tryz.prog 79 #[.agg #[.int .i64 1, .int .i64 x.year, .int .i64 x.sol, .int .i64 x.mon, .int .i64 x.day]] W fun e w' => e = .returned (plainR 1 x) ∧ Below W.heap.size W w' := fun x W => specPlain ⟨1, x.year, x.sol, x.mon, x.day⟩ W
  have KY : ∀ (y m d : Int) W, Calls Tryz.prog 66 #[.agg #[.int .i64 1, .int .i64 y, .int .i64 m, .int .i64 d]] W fun e w' => e = .returned (.int .i64 (dayOf 1 y m d)) ∧ Below W.heap.size W w' := fun y m d W => specDayOf 1 y m d W
  clear hW0 hG hf ht
  by_cases hR : regimeB r = true ∧ r.fr ≤ n ∧ n ≤ r.to
  case neg =>
    rw [show shiftR r n = .tuple #[.int .i64 0, .bool false] by unfold shiftR; rw [if_neg (fun k => hR k.1)]]
    rw [readR_no hR] at KR
    have KD1 := KD rdg0
    have hp : ∃ p q s t ok, plainR 1 rdg0 = .tuple #[.agg #[.int .i64 p, .int .i64 q, .int .i64 s, .int .i64 t], .bool ok] := by
      unfold plainR
      split
      · exact ⟨_, _, _, _, _, rfl⟩
      · exact ⟨_, _, _, _, _, rfl⟩
    obtain ⟨p, q, s, t, ok, ep⟩ := hp
    rw [ep] at KD1
    clear KD KY ep
    go_enter Tryz.func28, Tryz.ntmps28
    go_wp2_with fail
    rw [← HW0.out]
    refine (KR ⟨W0, Below.refl _ _⟩).mono ?_
    rintro e w1 ⟨rfl, hb⟩
    obtain ⟨y1, rfl⟩ := Later.of hb
    clear hb
    go_wp2_with fail
    refine (KD1 _).mono ?_
    rintro e w2 ⟨rfl, hb⟩
    have B1 := (HBl.out y1).alloc (HBl.out y1).size (.cells #[.int .i64 1, .int .i64 0, .int .i64 0, .int .i64 0, .int .i64 0] 29)
    have B2 : Below w.heap.size w w2 := B1.trans (hb.mono B1.size)
    clear hb B1
    go_wp2
    go_returns
    exact ⟨rfl, B2.alloc B2.size _⟩
  have hd := day_in hR.1 hR.2.1 hR.2.2
  rw [readR_yes hR.1 hR.2.1 hR.2.2] at KR
  by_cases hO : dateOk 1 (rdgOn r n).sol (rdgOn r n).mon (rdgOn r n).day = true
  case neg =>
    rw [show shiftR r n = .tuple #[.int .i64 0, .bool false] by unfold shiftR; rw [if_neg (fun k => hO k.2)]]
    generalize rdgOn r n = x at *
    have KD1 := KD x
    rw [plainR_no hO] at KD1
    clear KD KY
    go_enter Tryz.func28, Tryz.ntmps28
    go_wp2_with fail
    rw [← HW0.out]
    refine (KR ⟨W0, Below.refl _ _⟩).mono ?_
    rintro e w1 ⟨rfl, hb⟩
    obtain ⟨y1, rfl⟩ := Later.of hb
    clear hb
    go_wp2_with fail
    refine (KD1 _).mono ?_
    rintro e w2 ⟨rfl, hb⟩
    have B1 := (HBl.out y1).alloc (HBl.out y1).size (.cells #[.int .i64 1, .int .i64 x.year, .int .i64 x.sol, .int .i64 x.mon, .int .i64 x.day] 29)
    have B2 : Below w.heap.size w w2 := B1.trans (hb.mono B1.size)
    clear hb B1
    go_wp2
    go_returns
    exact ⟨rfl, B2.alloc B2.size _⟩
  have hy := dayOf_bound 1 (rdgOn r n).sol (rdgOn r n).mon (rdgOn r n).day
  rw [show shiftR r n = .tuple #[.int .i64 (dayOf 1 (rdgOn r n).sol (rdgOn r n).mon (rdgOn r n).day - n), .bool true] by unfold shiftR; rw [if_pos ⟨hR, hO⟩]]
  generalize rdgOn r n = x at *
  have KD1 := KD x
  rw [plainR_yes hO] at KD1
  have KY1 := KY x.sol x.mon x.day
  generalize dayOf 1 x.sol x.mon x.day = dd at *
  clear KD KY
  go_enter Tryz.func28, Tryz.ntmps28
  go_wp2_with fail
  rw [← HW0.out]
  refine (KR ⟨W0, Below.refl _ _⟩).mono ?_
  rintro e w1 ⟨rfl, hb⟩
  obtain ⟨y1, rfl⟩ := Later.of hb
  clear hb
  go_wp2_with fail
  refine (KD1 _).mono ?_
  rintro e w2 ⟨rfl, hb⟩
  have B1 := (HBl.out y1).alloc (HBl.out y1).size (.cells #[.int .i64 1, .int .i64 x.year, .int .i64 x.sol, .int .i64 x.mon, .int .i64 x.day] 29)
  have B2 : Below w.heap.size w w2 := B1.trans (hb.mono B1.size)
  clear hb B1
  go_wp2_with fail
  refine (KY1 _).mono ?_
  rintro e w3 ⟨rfl, hb⟩
  have B3 := B2.alloc B2.size (.cells #[.int .i64 1, .int .i64 x.sol, .int .i64 x.mon, .int .i64 x.day] 92)
  have B4 : Below w.heap.size w w3 := B3.trans (hb.mono B3.size)
  clear hb
  go_wp2
  go_returns
  exact ⟨rfl, B4⟩
end Go.Proofs.YtilpencbbdpgfaaGreatDoor.ctr
