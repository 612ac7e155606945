/- Contract of the model's DateOf: it answers its plain function at every argument. -/
import Derived.Test.YtjojgfdfbkmlkaaGreatDoorJnMar
import Derived.Test.YtjojgfdfbkmlkaaGreatDoorJnMac
namespace Go.Proofs.YtjojgfdfbkmlkaaGreatDoor.ctr
open Go.RowKit
abbrev z4 : Array Value := #[.int .i64 0, .int .i64 0, .int .i64 0, .int .i64 0]
theorem dateOf_no {c n : Int} (h : ¬ ((c = 0 ∨ c = 1) ∧ 1 ≤ yearOf c n ∧ yearOf c n ≤ 3000 ∧ -1000 ≤ n ∧ n ≤ 1200000)) : dateOf c n = (0, 0, 0, 0, false) := by unfold dateOf; rw [if_neg h]
theorem dateOf_yes {c n y : Int} {k : Nat} (hc : c = 0 ∨ c = 1) (h1 : -1000 ≤ n) (h2 : n ≤ 1200000) (hy : yearOf c n = y) (hk : monthOf c y (n - first c y) = k) (y1 : 1 ≤ y) (y2 : y ≤ 3000) : dateOf c n = (c, y, (k : Int) + 1, n - first c y - before c y k + 1, true) := by
  unfold dateOf
  rw [hy, hk, if_pos ⟨hc, y1, y2, h1, h2⟩]
noncomputable def dateR (c n : Int) : Value := .tuple #[.agg #[.int .i64 (dateOf c n).1, .int .i64 (dateOf c n).2.1, .int .i64 (dateOf c n).2.2.1, .int .i64 (dateOf c n).2.2.2.1], .bool (dateOf c n).2.2.2.2]
theorem dateR_no {c n : Int} (h : dateOf c n = (0, 0, 0, 0, false)) : dateR c n = .tuple #[.agg z4, .bool false] := by unfold dateR; rw [h]
theorem dateR_yes {c n y m d : Int} (h : dateOf c n = (c, y, m, d, true)) : dateR c n = .tuple #[.agg #[.int .i64 c, .int .i64 y, .int .i64 m, .int .i64 d], .bool true] := by unfold dateR; rw [h]
set_option maxHeartbeats 1000000 in
theorem specDateOf (c n : Int) (w : World) : Calls Tryz.prog 111 #[.int .i64 c, .int .i64 n] w fun e w' => e = .returned (dateR c n) ∧ Below w.heap.size w w' := by
  by_cases hc : c = 0 ∨ c = 1
  case neg =>
    rw [dateR_no (dateOf_no (fun h => hc h.1))]
    have KC := fun W => specCal c W
    rw [calB_no hc] at KC
    clear hc
    go_enter Tryz.func111, Tryz.ntmps111
    go_wp2_with (go_at_call 114; refine (KC _).mono ?_; rintro e w1 ⟨rfl, rfl⟩)
    go_returns
    refine ⟨rfl, ?_⟩
    go_grown
  have KC := fun W => specCal c W
  rw [calB_iff.2 hc] at KC
  have KI := fun W => l01In n (-1000) 1200000 W
  by_cases hn : -1000 ≤ n ∧ n ≤ 1200000
  case neg =>
    rw [dateR_no (dateOf_no (fun h => hn h.2.2.2))]
    rw [inB_false (by omega)] at KI
    clear hc hn
    go_enter Tryz.func111, Tryz.ntmps111
    go_wp2_with (first | (go_at_call 114; refine (KC _).mono ?_; rintro e w1 ⟨rfl, rfl⟩) | (go_at_call 96; refine (KI _).mono ?_; rintro e w1 ⟨rfl, rfl⟩))
    go_returns
    refine ⟨rfl, ?_⟩
    go_grown
  obtain ⟨h1, h2⟩ := hn
  rw [inB_true h1 h2] at KI
  have KY := fun W => specYear c n W hc h1 h2
  obtain ⟨y, hy⟩ : ∃ y, yearOf c n = y := ⟨_, rfl⟩
  rw [hy] at KY
  have KF := fun a b W => specFirst c y W hc a b
  obtain ⟨F, hF⟩ : ∃ F, first c y = F := ⟨_, rfl⟩
  have hs := first_step hc y
  rw [hF] at KF hs
  obtain ⟨V, hV⟩ : ∃ V, dateR c n = V := ⟨_, rfl⟩
  rw [hV]
  have HH : Hid ((c = 0 ∨ c = 1) ∧ yearOf c n = y ∧ first c y = F ∧ first c (y + 1) = F + before c y 12 ∧ dateR c n = V) := ⟨hc, hy, hF, hs, hV⟩
  have hb0 := fun (hh : -5 ≤ y) (hh2 : y ≤ 3300) => first_bound hc hh (show y ≤ 4000 by omega)
  rw [hF] at hb0
  clear hc hy hF hs hV
  go_enter Tryz.func111, Tryz.ntmps111
  go_wp2_with (first | (go_at_call 114; refine (KC _).mono ?_; rintro e w1 ⟨rfl, rfl⟩) | (go_at_call 96; refine (KI _).mono ?_; rintro e w1 ⟨rfl, rfl⟩) | (go_at_call 176; refine (KY _).mono ?_; rintro e w1 ⟨rfl, rfl, q1, q2, q3, q4⟩; have b0 := hb0 q3 q4; rw [HH.out.2.2.1] at q1; rw [HH.out.2.2.2.1] at q2; have Q2 := hideP q2; clear q2) | (go_at_call 174; refine (KF (by omega) (by omega) _).mono ?_; rintro e w1 ⟨rfl, rfl⟩))
  go_loopw [7] (fun v wr => ∃ k : Nat, k < 12 ∧ v = .int .i64 (n - F - before c y k) ∧ before c y k ≤ n - F ∧ Below w.heap.size w wr ∧ Blk wr w.heap.size z4 88 ∧ Blk wr (w.heap.size + 1) #[.int .i64 c, .int .i64 y, .int .i64 ((k : Int) + 1), .int .i64 0] 88) (fun v _ => (intOf v).toNat)
  case atStart =>
    refine ⟨0, by omega, by simp [before], by simp [before]; omega, ?_, ?_, ?_⟩
    · exact ((Below.refl _ _).alloc (Nat.le_refl _) _).alloc (by rw [World.size_alloc]; omega) _
    · exact (Blk.new w _ _).alloc _
    · have := Blk.new (w.alloc (.cells z4 88)) #[.int .i64 c, .int .i64 y, .int .i64 (((0 : Nat) : Int) + 1), .int .i64 0] 88
      rw [World.size_alloc] at this
      exact this
  case round =>
    obtain ⟨k, hk, rfl, hle, hb, hz, hd⟩ := hrel
    have c1 : ∀ x : Later wr, x.w.cell? ⟨w.heap.size + 1, 1, none⟩ = some (.int .i64 y) := fun x => (hd.later x).cell 1 rfl
    have c2 : ∀ x : Later wr, x.w.cell? ⟨w.heap.size + 1, 2, none⟩ = some (.int .i64 ((k : Int) + 1)) := fun x => (hd.later x).cell 2 rfl
    have c0 : ∀ x : Later wr, x.w.cell? ⟨w.heap.size + 1, 0, none⟩ = some (.int .i64 c) := fun x => (hd.later x).cell 0 rfl
    have c3 : ∀ x : Later wr, x.w.cell? ⟨w.heap.size + 1, 3, none⟩ = some (.int .i64 0) := fun x => (hd.later x).cell 3 rfl
    have f3 : ∀ x : Later wr, x.w.frozen? ⟨w.heap.size + 1, 3, none⟩ = false := fun x => (hd.later x).thaw 3
    have c10 := hd.cell 1 rfl
    have c20 := hd.cell 2 rfl
    have f2 : ∀ x : Later wr, x.w.frozen? ⟨w.heap.size + 1, 2, none⟩ = false := fun x => (hd.later x).thaw 2
    have KM : ∀ W, Calls Tryz.prog 115 #[.int .i64 c, .int .i64 y, .int .i64 ((k : Int) + 1)] W fun e w' => e = .returned (.int .i64 (monthDays c y ((k : Int) + 1))) ∧ Below W.heap.size W w' := specMonthDays c y _
    have b1 := before_bound c y k
    have b2 := monthDays_le c y ((k : Int) + 1)
    have b3 := monthDays_ge (y := y) HH.out.1 (show 1 ≤ (k : Int) + 1 by omega) (show (k : Int) + 1 ≤ 12 by omega)
    have HN := hideP (before_next c y k)
    have HD := hideP hd
    have HZ := hideP hz
    have HB := hideP hb
    clear hd hz hb
    obtain ⟨md, em⟩ : ∃ md, monthDays c y ((k : Int) + 1) = md := ⟨_, rfl⟩
    rw [em] at KM b2 b3 HN
    have HE := hideP em
    clear em
    obtain ⟨B, eB⟩ : ∃ B, before c y k = B := ⟨_, rfl⟩
    have HBk := hideP eB
    rw [eB] at HN b1 hle
    rw [eB]
    clear eB
    by_cases hge : md ≤ n - F - B
    · go_wp2_with fail
      refine (KM _).mono ?_
      rintro e w1 ⟨rfl, hb1⟩
      obtain ⟨x1, rfl⟩ := Later.of hb1
      clear hb1
      go_wp2_with fail
      refine (KM _).mono ?_
      rintro e w1 ⟨rfl, hb1⟩
      obtain ⟨x2, rfl⟩ := x1.next hb1
      clear hb1
      go_wp2_with fail
      refine ⟨⟨k + 1, ?_, ?_, ?_, below_store (HB.out.trans (x2.below.mono HB.out.size)) _ (by omega), ((HZ.out.later x2).other (by omega)), ?_⟩, ?_⟩
      · by_cases hq : k + 1 < 12
        · exact hq
        · obtain rfl : k = 11 := by omega
          have := HN.out
          have := Q2.out
          simp only [Nat.reduceAdd] at *
          omega
      · exact congrArg (Value.int .i64) (by rw [HN.out]; omega)
      · rw [HN.out]; omega
      · rw [show ((k + 1 : Nat) : Int) + 1 = (k : Int) + 1 + 1 by omega]
        exact (HD.out.later x2).set 2 _
      · simp [intOf]; omega
    · go_wp2_with fail
      refine (KM _).mono ?_
      rintro e w1 ⟨rfl, hb1⟩
      obtain ⟨x1, rfl⟩ := Later.of hb1
      clear hb1
      go_wp2_with fail
      obtain ⟨W3, e3⟩ : ∃ W3, W3 = x1.w.setCell ⟨w.heap.size + 1, 3, none⟩ (.int .i64 (n - F - B + 1)) := ⟨_, rfl⟩
      have D3 : Blk W3 (w.heap.size + 1) #[.int .i64 c, .int .i64 y, .int .i64 ((k : Int) + 1), .int .i64 (n - F - B + 1)] 88 := by rw [e3]; exact (HD.out.later x1).set 3 _
      have Z3 : Blk W3 w.heap.size z4 88 := by rw [e3]; exact (HZ.out.later x1).other (by omega)
      have B3 : Below w.heap.size w W3 := by rw [e3]; exact below_store (HB.out.trans (x1.below.mono HB.out.size)) _ (by omega)
      rw [← e3]
      have HB3 := hideP B3
      have HZ3 := hideP Z3
      clear e3 c0 c1 c2 c3 c10 c20 f2 f3
      have c0 : ∀ x : Later W3, x.w.cell? ⟨w.heap.size + 1, 0, none⟩ = some (.int .i64 c) := fun x => (D3.later x).cell 0 rfl
      have c1 : ∀ x : Later W3, x.w.cell? ⟨w.heap.size + 1, 1, none⟩ = some (.int .i64 y) := fun x => (D3.later x).cell 1 rfl
      have c2 : ∀ x : Later W3, x.w.cell? ⟨w.heap.size + 1, 2, none⟩ = some (.int .i64 ((k : Int) + 1)) := fun x => (D3.later x).cell 2 rfl
      have c3 : ∀ x : Later W3, x.w.cell? ⟨w.heap.size + 1, 3, none⟩ = some (.int .i64 (n - F - B + 1)) := fun x => (D3.later x).cell 3 rfl
      have g0 : ∀ x : Later W3, x.w.cell? ⟨w.heap.size, 0, none⟩ = some (.int .i64 0) := fun x => (Z3.later x).cell 0 rfl
      have f0 : ∀ x : Later W3, x.w.frozen? ⟨w.heap.size, 0, none⟩ = false := fun x => (Z3.later x).thaw 0
      have g1 : ∀ x : Later W3, x.w.cell? ⟨w.heap.size, 1, none⟩ = some (.int .i64 0) := fun x => (Z3.later x).cell 1 rfl
      have f1 : ∀ x : Later W3, x.w.frozen? ⟨w.heap.size, 1, none⟩ = false := fun x => (Z3.later x).thaw 1
      have g2 : ∀ x : Later W3, x.w.cell? ⟨w.heap.size, 2, none⟩ = some (.int .i64 0) := fun x => (Z3.later x).cell 2 rfl
      have f2 : ∀ x : Later W3, x.w.frozen? ⟨w.heap.size, 2, none⟩ = false := fun x => (Z3.later x).thaw 2
      have g3 : ∀ x : Later W3, x.w.cell? ⟨w.heap.size, 3, none⟩ = some (.int .i64 0) := fun x => (Z3.later x).cell 3 rfl
      have f3 : ∀ x : Later W3, x.w.frozen? ⟨w.heap.size, 3, none⟩ = false := fun x => (Z3.later x).thaw 3
      have hmon : monthOf c y (n - first c y) = k := by rw [HH.out.2.2.1]; exact monthOf_eq (by rw [HBk.out]; exact hle) (by rw [HN.out]; omega)
      have K0 := specDateOk c y ((k : Int) + 1) (n - F - B + 1) W3
      by_cases hyr : 1 ≤ y ∧ y ≤ 3000
      · have hp : dateP c y ((k : Int) + 1) (n - F - B + 1) := ⟨HH.out.1, hyr.1, hyr.2, by omega, by rw [HE.out]; omega⟩
        rw [dateOk_true hp] at K0
        have eV := dateR_yes (dateOf_yes HH.out.1 h1 h2 HH.out.2.1 hmon hyr.1 hyr.2)
        rw [HH.out.2.2.1, HBk.out, HH.out.2.2.2.2] at eV
        have HV := hideP eV
        clear eV hp hmon hyr D3 Z3 B3
        refine K0.mono ?_
        rintro e w1 ⟨rfl, hb1⟩
        obtain ⟨x4, rfl⟩ := Later.of hb1
        clear hb1 K0
        go_wp2_with fail
        obtain ⟨W5, e5⟩ : ∃ W5, W5 = ((((x4.w.setCell ⟨w.heap.size, 0, none⟩ (.int .i64 c)).setCell ⟨w.heap.size, 1, none⟩ (.int .i64 y)).setCell ⟨w.heap.size, 2, none⟩ (.int .i64 ((k : Int) + 1))).setCell ⟨w.heap.size, 3, none⟩ (.int .i64 (n - F - B + 1))) := ⟨_, rfl⟩
        have Z5 : Blk W5 w.heap.size #[.int .i64 c, .int .i64 y, .int .i64 ((k : Int) + 1), .int .i64 (n - F - B + 1)] 88 := by rw [e5]; exact ((((HZ3.out.later x4).set 0 _).set 1 _).set 2 _).set 3 _
        have B5 : Below w.heap.size w W5 := by
          rw [e5]
          have hw := HB3.out.trans (x4.below.mono HB3.out.size)
          exact below_store (below_store (below_store (below_store hw _ (Nat.le_refl _)) _ (Nat.le_refl _)) _ (Nat.le_refl _)) _ (Nat.le_refl _)
        rw [← e5]
        clear e5
        have r0 : W5.cell? ⟨w.heap.size, 0, none⟩ = some (.int .i64 c) := Z5.cell 0 rfl
        have r1 : W5.cell? ⟨w.heap.size, 1, none⟩ = some (.int .i64 y) := Z5.cell 1 rfl
        have r2 : W5.cell? ⟨w.heap.size, 2, none⟩ = some (.int .i64 ((k : Int) + 1)) := Z5.cell 2 rfl
        have r3 : W5.cell? ⟨w.heap.size, 3, none⟩ = some (.int .i64 (n - F - B + 1)) := Z5.cell 3 rfl
        refine bodyPost_ret (by simp [results, Tryz.results111, go_sem, r0, r1, r2, r3]; try rfl) rfl ?_
        exact ⟨by rw [HV.out], B5⟩
      · have hp : ¬ dateP c y ((k : Int) + 1) (n - F - B + 1) := fun h => hyr ⟨h.2.1, h.2.2.1⟩
        rw [dateOk_false hp] at K0
        have eV : V = .tuple #[.agg z4, .bool false] := by rw [← HH.out.2.2.2.2]; exact dateR_no (dateOf_no (fun h => hyr ⟨HH.out.2.1 ▸ h.2.1, HH.out.2.1 ▸ h.2.2.1⟩))
        have HV := hideP eV
        clear eV hp hmon hyr D3 Z3 B3
        refine K0.mono ?_
        rintro e w1 ⟨rfl, hb1⟩
        obtain ⟨x4, rfl⟩ := Later.of hb1
        clear hb1 K0
        go_wp2_with fail
        obtain ⟨W5, e5⟩ : ∃ W5, W5 = ((((x4.w.setCell ⟨w.heap.size, 0, none⟩ (.int .i64 0)).setCell ⟨w.heap.size, 1, none⟩ (.int .i64 0)).setCell ⟨w.heap.size, 2, none⟩ (.int .i64 0)).setCell ⟨w.heap.size, 3, none⟩ (.int .i64 0)) := ⟨_, rfl⟩
        have Z5 : Blk W5 w.heap.size #[.int .i64 0, .int .i64 0, .int .i64 0, .int .i64 0] 88 := by rw [e5]; exact ((((HZ3.out.later x4).set 0 _).set 1 _).set 2 _).set 3 _
        have B5 : Below w.heap.size w W5 := by
          rw [e5]
          have hw := HB3.out.trans (x4.below.mono HB3.out.size)
          exact below_store (below_store (below_store (below_store hw _ (Nat.le_refl _)) _ (Nat.le_refl _)) _ (Nat.le_refl _)) _ (Nat.le_refl _)
        rw [← e5]
        clear e5
        have r0 : W5.cell? ⟨w.heap.size, 0, none⟩ = some (.int .i64 0) := Z5.cell 0 rfl
        have r1 : W5.cell? ⟨w.heap.size, 1, none⟩ = some (.int .i64 0) := Z5.cell 1 rfl
        have r2 : W5.cell? ⟨w.heap.size, 2, none⟩ = some (.int .i64 0) := Z5.cell 2 rfl
        have r3 : W5.cell? ⟨w.heap.size, 3, none⟩ = some (.int .i64 0) := Z5.cell 3 rfl
        refine bodyPost_ret (by simp [results, Tryz.results111, go_sem, r0, r1, r2, r3]; try rfl) rfl ?_
        exact ⟨by rw [HV.out], B5⟩
end Go.Proofs.YtjojgfdfbkmlkaaGreatDoor.ctr
