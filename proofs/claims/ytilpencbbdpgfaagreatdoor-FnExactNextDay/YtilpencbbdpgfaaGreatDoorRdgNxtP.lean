/- Contracts of both NextDay: the first day of the 800 behind a day of a right regime that is of the regime and has its month and day; 0 where there is none. -/
import Derived.Test.YtilpencbbdpgfaaGreatDoorJnPbk
namespace Go.Proofs.YtilpencbbdpgfaaGreatDoor.ctr
open Go.RowKit
noncomputable def nextF (r : Rgm) (x : Rdg) : Nat → Int → Int
  | 0, _ => 0
  | m + 1, k => if k ≤ r.to ∧ (rdgOn r k).mon = x.mon ∧ (rdgOn r k).day = x.day then k else nextF r x m (k + 1)
noncomputable def nextD (r : Rgm) (n : Int) : Int := if regimeB r = true ∧ r.fr ≤ n ∧ n ≤ r.to then nextF r (rdgOn r n) 800 (n + 1) else 0
theorem nextF_hit {r : Rgm} {x : Rdg} {n k : Int} (h : k ≤ n + 800) (h1 : k ≤ r.to) (h2 : (rdgOn r k).mon = x.mon) (h3 : (rdgOn r k).day = x.day) : nextF r x (n + 801 - k).toNat k = k := by
  rw [show (n + 801 - k).toNat = (n + 800 - k).toNat + 1 by omega]
  unfold nextF
  rw [if_pos ⟨h1, h2, h3⟩]
theorem nextF_miss {r : Rgm} {x : Rdg} {n k : Int} (h : k ≤ n + 800) (h1 : ¬ (k ≤ r.to ∧ (rdgOn r k).mon = x.mon ∧ (rdgOn r k).day = x.day)) : nextF r x (n + 801 - k).toNat k = nextF r x (n + 801 - (k + 1)).toNat (k + 1) := by
  rw [show (n + 801 - k).toNat = (n + 801 - (k + 1)).toNat + 1 by omega]
  conv => lhs; unfold nextF
  rw [if_neg h1]
theorem nextF_end {r : Rgm} {x : Rdg} {n k : Int} (h : n + 801 ≤ k) : nextF r x (n + 801 - k).toNat k = 0 := by
  rw [show (n + 801 - k).toNat = 0 by omega]
  unfold nextF
  rfl
theorem nextF_past {r : Rgm} {x : Rdg} : ∀ (m : Nat) (k : Int), r.to < k → nextF r x m k = 0
  | 0, _, _ => by unfold nextF; rfl
  | m + 1, k, h => by
    unfold nextF
    rw [if_neg (fun q => by omega)]
    exact nextF_past m (k + 1) (by omega)
set_option maxHeartbeats 4000000 in
theorem implNextDay (v : Value) (r : Rgm) (n : Int) (a : Addr) (w : World) (h : GRow w v r) (ht : r.to ≤ 9223372036854775807) (hE : ErrT w) (hT : Tab w) (hS : Sent w a) : Calls Tryz.prog 31 #[v, .int .i64 n] w fun e w' => e = .returned (.int .i64 (nextD r n)) ∧ Below w.heap.size w w' := by
  have hG := h
  obtain ⟨v1, v2, v3, rfl, _, x1, x2, x3⟩ := h
  obtain ⟨a1, c1, rfl, _⟩ := x1
  obtain ⟨a2, c2, rfl, _⟩ := x2
  obtain ⟨a3, c3, rfl, _⟩ := x3
  obtain ⟨W0, hW0, d0, d1, d2, d3, d4, d5, d6, hBl⟩ := seven_box w (.string r.name) (.int .i64 r.fr) (.int .i64 r.to) (.slice a1 r.segs.length c1) (.slice a2 r.pats.length c2) (.slice a3 r.rgns.length c3) (.int .i64 r.rule) 36
  have HW0 := hideP hW0
  have HBl := hideP hBl
  have KR : ∀ y : Later W0, Calls Tryz.prog 18 #[.agg #[.string r.name, .int .i64 r.fr, .int .i64 r.to, .slice a1 r.segs.length c1, .slice a2 r.pats.length c2, .slice a3 r.rgns.length c3, .int .i64 r.rule], .int .i64 n] y.w fun e w' => e = .returned (readR r n) ∧ Below y.w.heap.size y.w w' := fun y => implReadingOf _ r n a y.w (GRow.below hG (hBl y)) ht (hE.below (hBl y)) (hT.later (hBl y)) (hS.later (hBl y))
  by_cases hR : regimeB r = true ∧ r.fr ≤ n ∧ n ≤ r.to
  case neg =>
    rw [show nextD r n = 0 by unfold nextD; rw [if_neg hR]]
    rw [readR_no hR] at KR
    clear hW0 hG
    go_enter Tryz.func31, Tryz.ntmps31
    go_wp2_with fail
    rw [← HW0.out]
    refine (KR ⟨W0, Below.refl _ _⟩).mono ?_
    rintro e w1 ⟨rfl, hb⟩
    obtain ⟨y1, rfl⟩ := Later.of hb
    clear hb
    go_wp2
    go_ret
    exact ⟨rfl, (HBl.out y1).alloc (HBl.out y1).size _⟩
  have KN : ∀ k, n < k → k ≤ r.to → ∀ W, Below w.heap.size w W → Calls Tryz.prog 62 #[.agg #[.string r.name, .int .i64 r.fr, .int .i64 r.to, .slice a1 r.segs.length c1, .slice a2 r.pats.length c2, .slice a3 r.rgns.length c3, .int .i64 r.rule], .int .i64 k] W fun e w' => e = .returned (rdgV (rdgOn r k)) ∧ Below W.heap.size W w' := fun k k1 k2 W hb => implReadingOn _ r k W (GRow.below hG hb) hR.1 (by omega) k2 (hT.later hb)
  have hd := day_in hR.1 hR.2.1 hR.2.2
  rw [readR_yes hR.1 hR.2.1 hR.2.2] at KR
  obtain ⟨x, hx⟩ : ∃ x, x = rdgOn r n := ⟨_, rfl⟩
  obtain ⟨ans, hans⟩ : ∃ ans, ans = nextD r n := ⟨_, rfl⟩
  have HA : Hid (nextF r x (n + 801 - (n + 1)).toNat (n + 1) = ans) := by
    unfold Hid
    rw [hans, hx, show (n + 801 - (n + 1)).toNat = 800 by omega]
    unfold nextD
    rw [if_pos hR]
  have HN := hideP KN
  rw [← hx] at KR
  rw [← hans]
  clear KN hR hx hans hW0 hG ht hE hT hS 
  go_enter Tryz.func31, Tryz.ntmps31
  go_wp2_with fail
  rw [← HW0.out]
  refine (KR ⟨W0, Below.refl _ _⟩).mono ?_
  rintro e w1 ⟨rfl, hb⟩
  obtain ⟨y1, rfl⟩ := Later.of hb
  clear hb
  obtain ⟨W1, hW1⟩ : ∃ W1, W1 = y1.w.alloc (.cells #[.int .i64 x.cal, .int .i64 x.year, .int .i64 x.sol, .int .i64 x.mon, .int .i64 x.day] 29) := ⟨_, rfl⟩
  have hB1 : Below W0.heap.size W0 W1 := by rw [hW1]; exact y1.below.alloc y1.below.size _
  have HB1 := hideP hB1
  have HC : ∀ y : Later W1, Blk y.w y1.w.heap.size #[.int .i64 x.cal, .int .i64 x.year, .int .i64 x.sol, .int .i64 x.mon, .int .i64 x.day] 29 := by rw [hW1]; exact fun y => (Blk.new _ _ _).later y
  have D0 : ∀ y : Later W1, y.w.cell? ⟨w.heap.size, 0, none⟩ = some (.string r.name) := fun y => d0 ⟨y.w, hB1.trans (y.below.mono hB1.size)⟩
  have D1 : ∀ y : Later W1, y.w.cell? ⟨w.heap.size, 1, none⟩ = some (.int .i64 r.fr) := fun y => d1 ⟨y.w, hB1.trans (y.below.mono hB1.size)⟩
  have D2 : ∀ y : Later W1, y.w.cell? ⟨w.heap.size, 2, none⟩ = some (.int .i64 r.to) := fun y => d2 ⟨y.w, hB1.trans (y.below.mono hB1.size)⟩
  have D3 : ∀ y : Later W1, y.w.cell? ⟨w.heap.size, 3, none⟩ = some (.slice a1 r.segs.length c1) := fun y => d3 ⟨y.w, hB1.trans (y.below.mono hB1.size)⟩
  have D4 : ∀ y : Later W1, y.w.cell? ⟨w.heap.size, 4, none⟩ = some (.slice a2 r.pats.length c2) := fun y => d4 ⟨y.w, hB1.trans (y.below.mono hB1.size)⟩
  have D5 : ∀ y : Later W1, y.w.cell? ⟨w.heap.size, 5, none⟩ = some (.slice a3 r.rgns.length c3) := fun y => d5 ⟨y.w, hB1.trans (y.below.mono hB1.size)⟩
  have D6 : ∀ y : Later W1, y.w.cell? ⟨w.heap.size, 6, none⟩ = some (.int .i64 r.rule) := fun y => d6 ⟨y.w, hB1.trans (y.below.mono hB1.size)⟩
  have C3 : ∀ y : Later W1, y.w.cell? ⟨y1.w.heap.size, 3, none⟩ = some (.int .i64 x.mon) := fun y => (HC y).cell 3 rfl
  have C4 : ∀ y : Later W1, y.w.cell? ⟨y1.w.heap.size, 4, none⟩ = some (.int .i64 x.day) := fun y => (HC y).cell 4 rfl
  have A3 : ∀ (y : Later W1) (ob : Obj), (y.w.alloc ob).cell? ⟨y1.w.heap.size, 3, none⟩ = some (.int .i64 x.mon) := fun y ob => C3 ⟨y.w.alloc ob, y.below.alloc y.below.size ob⟩
  have A4 : ∀ (y : Later W1) (ob : Obj), (y.w.alloc ob).cell? ⟨y1.w.heap.size, 4, none⟩ = some (.int .i64 x.day) := fun y ob => C4 ⟨y.w.alloc ob, y.below.alloc y.below.size ob⟩
  have HL : Hid (∀ y : Later W1, Below w.heap.size w y.w) := fun y => HBl.out ⟨y.w, HB1.out.trans (y.below.mono HB1.out.size)⟩
  have HW1 := hideP hW1
  clear hW1 hB1 HC d0 d1 d2 d3 d4 d5 d6
  go_wp2_with fail
  rw [← HW1.out]
  go_loopw [7] (fun i wr => ∃ (k : Int) (y : Later W1), i = .int .i64 k ∧ wr = y.w ∧ n + 1 ≤ k ∧ k ≤ n + 801 ∧ Hid (nextF r x (n + 801 - k).toNat k = ans)) (fun i _ => (2000000 - intOf i).toNat)
  case atStart => exact ⟨n + 1, ⟨W1, Below.refl _ _⟩, rfl, rfl, by omega, by omega, HA.out⟩
  case round =>
    obtain ⟨k, y, rfl, rfl, k1, k2, HK⟩ := hrel
    rcases Int.lt_or_le r.to (n + 800) with hmn | hmn
    all_goals
      by_cases hle : k ≤ n + 800
      case neg =>
        have e0 : ans = 0 := by rw [← HK.out]; exact nextF_end (by omega)
        subst e0
        have hm : decide (k ≤ n + 800) = false := decide_eq_false (by omega)
        have hm2 : decide (k ≤ min (n + 800) r.to) = false := decide_eq_false (by omega)
        go_wp2
        go_ret
        exact ⟨rfl, HL.out y⟩
      by_cases hto : k ≤ r.to
      case neg =>
        first
          | (exfalso; omega)
          | (have e0 : ans = 0 := by rw [← HK.out]; exact nextF_past _ _ (by omega)
             subst e0
             go_wp2
             go_ret
             exact ⟨rfl, HL.out y⟩)
      have hm : decide (k ≤ n + 800) = true := decide_eq_true (by omega)
      have hm2 : decide (k ≤ min (n + 800) r.to) = true := decide_eq_true (by omega)
      have KZ := HN.out k (by omega) hto
      have HH : Hid ((rdgOn r k).mon = x.mon → (rdgOn r k).day = x.day → ans = k) := fun p q => HK.out.symm.trans (nextF_hit hle hto p q)
      have HK2 : Hid (¬ ((rdgOn r k).mon = x.mon ∧ (rdgOn r k).day = x.day) → nextF r x (n + 801 - (k + 1)).toNat (k + 1) = ans) := fun q => (nextF_miss hle (fun p => q p.2)).symm.trans HK.out
      clear HK
      generalize rdgOn r k = z at *
      by_cases hmo : z.mon = x.mon
      case neg =>
        have e1 : (z.mon == x.mon) = false := by simpa using hmo
        have HK3 := hideP (HK2.out (fun p => hmo p.1))
        clear HK2 HH
        go_wp2_with fail
        refine (KZ _ (HL.out y)).mono ?_
        rintro e w2 ⟨rfl, hb⟩
        obtain ⟨y2, rfl⟩ := y.next hb
        clear hb KZ
        go_wp2
        exact ⟨⟨k + 1, ⟨_, y2.below.alloc y2.below.size _⟩, rfl, rfl, by omega, by omega, HK3⟩, by simp [intOf]; omega⟩
      have e1 : (z.mon == x.mon) = true := by simpa using hmo
      by_cases hdy : z.day = x.day
      case neg =>
        have e2 : (z.day == x.day) = false := by simpa using hdy
        have HK3 := hideP (HK2.out (fun p => hdy p.2))
        clear HK2 HH
        go_wp2_with fail
        refine (KZ _ (HL.out y)).mono ?_
        rintro e w2 ⟨rfl, hb⟩
        obtain ⟨y2, rfl⟩ := y.next hb
        clear hb KZ
        go_wp2
        exact ⟨⟨k + 1, ⟨_, y2.below.alloc y2.below.size _⟩, rfl, rfl, by omega, by omega, HK3⟩, by simp [intOf]; omega⟩
      have e2 : (z.day == x.day) = true := by simpa using hdy
      have e3 := HH.out hmo hdy
      subst e3
      clear HK2 HH
      go_wp2_with fail
      refine (KZ _ (HL.out y)).mono ?_
      rintro e w2 ⟨rfl, hb⟩
      obtain ⟨y2, rfl⟩ := y.next hb
      clear hb KZ
      go_wp2
      go_ret
      exact ⟨rfl, (HL.out y2).alloc (HL.out y2).size _⟩
set_option maxHeartbeats 4000000 in
theorem specNextDay (v : Value) (r : Rgm) (n : Int) (w : World) (h : GRow w v r) (hf : -9223372036854775808 ≤ r.fr) (ht : r.to ≤ 9223372036854775807) : Calls Tryz.prog 30 #[v, .int .i64 n] w fun e w' => e = .returned (.int .i64 (nextD r n)) ∧ Below w.heap.size w w' := by
  have hG := h
  obtain ⟨v1, v2, v3, rfl, _, x1, x2, x3⟩ := h
  obtain ⟨a1, c1, rfl, _⟩ := x1
  obtain ⟨a2, c2, rfl, _⟩ := x2
  obtain ⟨a3, c3, rfl, _⟩ := x3
  obtain ⟨W0, hW0, d0, d1, d2, d3, d4, d5, d6, hBl⟩ := seven_box w (.string r.name) (.int .i64 r.fr) (.int .i64 r.to) (.slice a1 r.segs.length c1) (.slice a2 r.pats.length c2) (.slice a3 r.rgns.length c3) (.int .i64 r.rule) 36
  have HW0 := hideP hW0
  have HBl := hideP hBl
  have KR : ∀ y : Later W0, Calls Tryz.prog 16 #[.agg #[.string r.name, .int .i64 r.fr, .int .i64 r.to, .slice a1 r.segs.length c1, .slice a2 r.pats.length c2, .slice a3 r.rgns.length c3, .int .i64 r.rule], .int .i64 n] y.w fun e w' => e = .returned (readR r n) ∧ Below y.w.heap.size y.w w' := fun y => specReadingOf _ r n y.w (GRow.below hG (hBl y)) hf ht
  by_cases hR : regimeB r = true ∧ r.fr ≤ n ∧ n ≤ r.to
  case neg =>
    rw [show nextD r n = 0 by unfold nextD; rw [if_neg hR]]
    rw [readR_no hR] at KR
    clear hW0 hG
    go_enter Tryz.func30, Tryz.ntmps30
    go_wp2_with fail
    rw [← HW0.out]
    refine (KR ⟨W0, Below.refl _ _⟩).mono ?_
    rintro e w1 ⟨rfl, hb⟩
    obtain ⟨y1, rfl⟩ := Later.of hb
    clear hb
    go_wp2
    go_loopw [7] (fun i wr => ∃ k : Int, i = .int .i64 k ∧ Below w.heap.size w wr) (fun _ _ => 0)
    case atStart => exact ⟨_, rfl, (HBl.out y1).alloc (HBl.out y1).size _⟩
    case round =>
      obtain ⟨k, rfl, hb⟩ := hrel
      go_wp2
      go_ret
      exact ⟨rfl, hb⟩
  have KN : ∀ k, n < k → k ≤ r.to → ∀ W, Below w.heap.size w W → Calls Tryz.prog 57 #[.agg #[.string r.name, .int .i64 r.fr, .int .i64 r.to, .slice a1 r.segs.length c1, .slice a2 r.pats.length c2, .slice a3 r.rgns.length c3, .int .i64 r.rule], .int .i64 k] W fun e w' => e = .returned (.tuple #[rdgV (rdgOn r k), .bool true]) ∧ Below W.heap.size W w' := fun k k1 k2 W hb => specRead _ r k W (GRow.below hG hb) hR.1 (by omega) k2
  have KM : ∀ k, r.to < k → ∀ W, Below w.heap.size w W → Calls Tryz.prog 57 #[.agg #[.string r.name, .int .i64 r.fr, .int .i64 r.to, .slice a1 r.segs.length c1, .slice a2 r.pats.length c2, .slice a3 r.rgns.length c3, .int .i64 r.rule], .int .i64 k] W fun e w' => e = .returned (.tuple #[rdgV rdg0, .bool false]) ∧ Below W.heap.size W w' := fun k k1 W hb => specReadNo _ r k W (GRow.below hG hb) (by
    rcases segAt_cases r.segs k with ⟨q, _⟩ | ⟨j, _, q, _⟩
    · exact q
    · have := (seg_fact hR.1 k).1 (by omega); omega)
  have hd := day_in hR.1 hR.2.1 hR.2.2
  rw [readR_yes hR.1 hR.2.1 hR.2.2] at KR
  obtain ⟨x, hx⟩ : ∃ x, x = rdgOn r n := ⟨_, rfl⟩
  obtain ⟨ans, hans⟩ : ∃ ans, ans = nextD r n := ⟨_, rfl⟩
  have HA : Hid (nextF r x (n + 801 - (n + 1)).toNat (n + 1) = ans) := by
    unfold Hid
    rw [hans, hx, show (n + 801 - (n + 1)).toNat = 800 by omega]
    unfold nextD
    rw [if_pos hR]
  have HN := hideP KN
  have HM := hideP KM
  rw [← hx] at KR
  rw [← hans]
  clear KN hR hx hans hW0 hG hf ht KM
  go_enter Tryz.func30, Tryz.ntmps30
  go_wp2_with fail
  rw [← HW0.out]
  refine (KR ⟨W0, Below.refl _ _⟩).mono ?_
  rintro e w1 ⟨rfl, hb⟩
  obtain ⟨y1, rfl⟩ := Later.of hb
  clear hb
  obtain ⟨W1, hW1⟩ : ∃ W1, W1 = y1.w.alloc (.cells #[.int .i64 x.cal, .int .i64 x.year, .int .i64 x.sol, .int .i64 x.mon, .int .i64 x.day] 29) := ⟨_, rfl⟩
  have hB1 : Below W0.heap.size W0 W1 := by rw [hW1]; exact y1.below.alloc y1.below.size _
  have HB1 := hideP hB1
  have HC : ∀ y : Later W1, Blk y.w y1.w.heap.size #[.int .i64 x.cal, .int .i64 x.year, .int .i64 x.sol, .int .i64 x.mon, .int .i64 x.day] 29 := by rw [hW1]; exact fun y => (Blk.new _ _ _).later y
  have D0 : ∀ y : Later W1, y.w.cell? ⟨w.heap.size, 0, none⟩ = some (.string r.name) := fun y => d0 ⟨y.w, hB1.trans (y.below.mono hB1.size)⟩
  have D1 : ∀ y : Later W1, y.w.cell? ⟨w.heap.size, 1, none⟩ = some (.int .i64 r.fr) := fun y => d1 ⟨y.w, hB1.trans (y.below.mono hB1.size)⟩
  have D2 : ∀ y : Later W1, y.w.cell? ⟨w.heap.size, 2, none⟩ = some (.int .i64 r.to) := fun y => d2 ⟨y.w, hB1.trans (y.below.mono hB1.size)⟩
  have D3 : ∀ y : Later W1, y.w.cell? ⟨w.heap.size, 3, none⟩ = some (.slice a1 r.segs.length c1) := fun y => d3 ⟨y.w, hB1.trans (y.below.mono hB1.size)⟩
  have D4 : ∀ y : Later W1, y.w.cell? ⟨w.heap.size, 4, none⟩ = some (.slice a2 r.pats.length c2) := fun y => d4 ⟨y.w, hB1.trans (y.below.mono hB1.size)⟩
  have D5 : ∀ y : Later W1, y.w.cell? ⟨w.heap.size, 5, none⟩ = some (.slice a3 r.rgns.length c3) := fun y => d5 ⟨y.w, hB1.trans (y.below.mono hB1.size)⟩
  have D6 : ∀ y : Later W1, y.w.cell? ⟨w.heap.size, 6, none⟩ = some (.int .i64 r.rule) := fun y => d6 ⟨y.w, hB1.trans (y.below.mono hB1.size)⟩
  have C3 : ∀ y : Later W1, y.w.cell? ⟨y1.w.heap.size, 3, none⟩ = some (.int .i64 x.mon) := fun y => (HC y).cell 3 rfl
  have C4 : ∀ y : Later W1, y.w.cell? ⟨y1.w.heap.size, 4, none⟩ = some (.int .i64 x.day) := fun y => (HC y).cell 4 rfl
  have A3 : ∀ (y : Later W1) (ob : Obj), (y.w.alloc ob).cell? ⟨y1.w.heap.size, 3, none⟩ = some (.int .i64 x.mon) := fun y ob => C3 ⟨y.w.alloc ob, y.below.alloc y.below.size ob⟩
  have A4 : ∀ (y : Later W1) (ob : Obj), (y.w.alloc ob).cell? ⟨y1.w.heap.size, 4, none⟩ = some (.int .i64 x.day) := fun y ob => C4 ⟨y.w.alloc ob, y.below.alloc y.below.size ob⟩
  have HL : Hid (∀ y : Later W1, Below w.heap.size w y.w) := fun y => HBl.out ⟨y.w, HB1.out.trans (y.below.mono HB1.out.size)⟩
  have HW1 := hideP hW1
  clear hW1 hB1 HC d0 d1 d2 d3 d4 d5 d6
  go_wp2_with fail
  rw [← HW1.out]
  go_loopw [7] (fun i wr => ∃ (k : Int) (y : Later W1), i = .int .i64 k ∧ wr = y.w ∧ n + 1 ≤ k ∧ k ≤ n + 801 ∧ Hid (nextF r x (n + 801 - k).toNat k = ans)) (fun i _ => (2000000 - intOf i).toNat)
  case atStart => exact ⟨n + 1, ⟨W1, Below.refl _ _⟩, rfl, rfl, by omega, by omega, HA.out⟩
  case round =>
    obtain ⟨k, y, rfl, rfl, k1, k2, HK⟩ := hrel
    by_cases hle : k ≤ n + 800
    case neg =>
      have e0 : ans = 0 := by rw [← HK.out]; exact nextF_end (by omega)
      subst e0
      have hm : decide (k ≤ n + 800) = false := decide_eq_false (by omega)
      have hm2 : decide (k ≤ min (n + 800) r.to) = false := decide_eq_false (by omega)
      go_wp2
      go_ret
      exact ⟨rfl, HL.out y⟩
    by_cases hto : k ≤ r.to
    case neg =>
      have HK2 : Hid (nextF r x (n + 801 - (k + 1)).toNat (k + 1) = ans) := (nextF_miss hle (fun q => hto q.1)).symm.trans HK.out
      have KM := HM.out k (by omega)
      have hm : decide (k ≤ n + 800) = true := decide_eq_true (by omega)
      go_wp2_with fail
      refine (KM _ (HL.out y)).mono ?_
      rintro e w2 ⟨rfl, hb⟩
      obtain ⟨y2, rfl⟩ := y.next hb
      clear hb KM HK
      go_wp2
      exact ⟨⟨k + 1, ⟨_, y2.below.alloc y2.below.size _⟩, rfl, rfl, by omega, by omega, HK2⟩, by simp [intOf]; omega⟩
    have hm : decide (k ≤ n + 800) = true := decide_eq_true (by omega)
    have hm2 : decide (k ≤ min (n + 800) r.to) = true := decide_eq_true (by omega)
    have KZ := HN.out k (by omega) hto
    have HH : Hid ((rdgOn r k).mon = x.mon → (rdgOn r k).day = x.day → ans = k) := fun p q => HK.out.symm.trans (nextF_hit hle hto p q)
    have HK2 : Hid (¬ ((rdgOn r k).mon = x.mon ∧ (rdgOn r k).day = x.day) → nextF r x (n + 801 - (k + 1)).toNat (k + 1) = ans) := fun q => (nextF_miss hle (fun p => q p.2)).symm.trans HK.out
    clear HK
    generalize rdgOn r k = z at *
    by_cases hmo : z.mon = x.mon
    case neg =>
      have e1 : (z.mon == x.mon) = false := by simpa using hmo
      have HK3 := hideP (HK2.out (fun p => hmo p.1))
      clear HK2 HH
      go_wp2_with fail
      refine (KZ _ (HL.out y)).mono ?_
      rintro e w2 ⟨rfl, hb⟩
      obtain ⟨y2, rfl⟩ := y.next hb
      clear hb KZ
      go_wp2
      exact ⟨⟨k + 1, ⟨_, y2.below.alloc y2.below.size _⟩, rfl, rfl, by omega, by omega, HK3⟩, by simp [intOf]; omega⟩
    have e1 : (z.mon == x.mon) = true := by simpa using hmo
    by_cases hdy : z.day = x.day
    case neg =>
      have e2 : (z.day == x.day) = false := by simpa using hdy
      have HK3 := hideP (HK2.out (fun p => hdy p.2))
      clear HK2 HH
      go_wp2_with fail
      refine (KZ _ (HL.out y)).mono ?_
      rintro e w2 ⟨rfl, hb⟩
      obtain ⟨y2, rfl⟩ := y.next hb
      clear hb KZ
      go_wp2
      exact ⟨⟨k + 1, ⟨_, y2.below.alloc y2.below.size _⟩, rfl, rfl, by omega, by omega, HK3⟩, by simp [intOf]; omega⟩
    have e2 : (z.day == x.day) = true := by simpa using hdy
    have e3 := HH.out hmo hdy
    subst e3
    clear HK2 HH
    go_wp2_with fail
    refine (KZ _ (HL.out y)).mono ?_
    rintro e w2 ⟨rfl, hb⟩
    obtain ⟨y2, rfl⟩ := y.next hb
    clear hb KZ
    go_wp2
    go_ret
    exact ⟨rfl, (HL.out y2).alloc (HL.out y2).size _⟩
end Go.Proofs.YtilpencbbdpgfaaGreatDoor.ctr
