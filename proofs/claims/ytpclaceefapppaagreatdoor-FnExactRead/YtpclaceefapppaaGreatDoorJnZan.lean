/- Contract of the model's DateOf: it answers its plain function at every argument; and what else the law reaches. -/
import Derived.Test.YtpclaceefapppaaGreatDoorJnZad
import Derived.Test.YtpclaceefapppaaGreatDoorJnZaa
import Derived.Deep.RegionWith
import Derived.Test.YtpclaceefapppaaGreatDoorJnZaf
import Derived.Test.YtpclaceefapppaaGreatDoorJnZai
import Derived.Lib.CutLaws
import Derived.Lib.IndexBytes
import Derived.Lib.IndexLaws
set_option maxHeartbeats 1000000
namespace Go.Proofs.YtpclaceefapppaaGreatDoor.ctr
open Go.RowKit
abbrev z4 : Array Value := #[.int .i64 0, .int .i64 0, .int .i64 0, .int .i64 0]
theorem dateOf_no {c n : Int} (h : ¬ ((c = 0 ∨ c = 1) ∧ 1 ≤ yearOf c n ∧ yearOf c n ≤ 3000 ∧ -1000 ≤ n ∧ n ≤ 1200000)) : dateOf c n = (0, 0, 0, 0, false) := by unfold dateOf; rw [if_neg h]
theorem dateOf_yes {c n y : Int} {k : Nat} (hc : c = 0 ∨ c = 1) (h1 : -1000 ≤ n) (h2 : n ≤ 1200000) (hy : yearOf c n = y) (hk : monthOf c y (n - first c y) = k) (y1 : 1 ≤ y) (y2 : y ≤ 3000) : dateOf c n = (c, y, (k : Int) + 1, n - first c y - before c y k + 1, true) := by
 unfold dateOf
 rw [hy, hk, if_pos ⟨hc, y1, y2, h1, h2⟩]
noncomputable def dateR (c n : Int) : Value := .tuple #[.agg #[.int .i64 (dateOf c n).1, .int .i64 (dateOf c n).2.1, .int .i64 (dateOf c n).2.2.1, .int .i64 (dateOf c n).2.2.2.1], .bool (dateOf c n).2.2.2.2]
theorem dateR_no {c n : Int} (h : dateOf c n = (0, 0, 0, 0, false)) : dateR c n = .tuple #[.agg z4, .bool false] := by unfold dateR; rw [h]
theorem dateR_yes {c n y m d : Int} (h : dateOf c n = (c, y, m, d, true)) : dateR c n = .tuple #[.agg #[.int .i64 c, .int .i64 y, .int .i64 m, .int .i64 d], .bool true] := by unfold dateR; rw [h]
theorem specDateOf (c n : Int) (w : World) : CR 154 #[.int .i64 c, .int .i64 n] w (dateR c n) := by
 by_cases hc : c = 0 ∨ c = 1
 case neg =>
  rw [dateR_no (dateOf_no (fun h => hc h.1))]
  have KC := fun W => specCal c W
  rw [calB_no hc] at KC
  clear hc
  go_enter Tryz.func154, Tryz.ntmps154
  go_wp2_with (go_at_call 109; refine (KC _).mono ?_; rintro e w1 ⟨rfl, rfl⟩)
  go_returns
  refine ⟨rfl, ?_⟩
  go_grown
 have KC := fun W => specCal c W
 rw [calB_iff.2 hc] at KC
 have KI := fun W => l01In n (-1000) 1200000 W
 by_cases hn : -1000 ≤ n ∧ n ≤ 1200000
 case neg =>
  rw [dateR_no (dateOf_no (fun h => hn h.2.2.2))]
  rw [inB_false (by omega)] at KI
  clear hc hn
  go_enter Tryz.func154, Tryz.ntmps154
  go_wp2_with (first | (go_at_call 109; refine (KC _).mono ?_; rintro e w1 ⟨rfl, rfl⟩) | (go_at_call 98; refine (KI _).mono ?_; rintro e w1 ⟨rfl, rfl⟩))
  go_returns
  refine ⟨rfl, ?_⟩
  go_grown
 obtain ⟨h1, h2⟩ := hn
 rw [inB_true h1 h2] at KI
 have KY := fun W => specYear c n W hc h1 h2
 obtain ⟨y, hy⟩ : ∃ y, yearOf c n = y := ⟨_, rfl⟩
 rw [hy] at KY
 have KF := fun a b W => specFirst c y W hc a b
 obtain ⟨F, hF⟩ : ∃ F, first c y = F := ⟨_, rfl⟩
 have hs := first_step hc y
 rw [hF] at KF hs
 obtain ⟨V, hV⟩ : ∃ V, dateR c n = V := ⟨_, rfl⟩
 rw [hV]
 have HH : Hid ((c = 0 ∨ c = 1) ∧ yearOf c n = y ∧ first c y = F ∧ first c (y + 1) = F + before c y 12 ∧ dateR c n = V) := ⟨hc, hy, hF, hs, hV⟩
 have hb0 := fun (hh : -5 ≤ y) (hh2 : y ≤ 3300) => first_bound hc hh (show y ≤ 4000 by omega)
 rw [hF] at hb0
 clear hc hy hF hs hV
 go_enter Tryz.func154, Tryz.ntmps154
 go_wp2_with (first | (go_at_call 109; refine (KC _).mono ?_; rintro e w1 ⟨rfl, rfl⟩) | (go_at_call 98; refine (KI _).mono ?_; rintro e w1 ⟨rfl, rfl⟩) | (go_at_call 219; refine (KY _).mono ?_; rintro e w1 ⟨rfl, rfl, q1, q2, q3, q4⟩; have b0 := hb0 q3 q4; rw [HH.out.2.2.1] at q1; rw [HH.out.2.2.2.1] at q2; have Q2 := hideP q2; clear q2) | (go_at_call 158; refine (KF (by omega) (by omega) _).mono ?_; rintro e w1 ⟨rfl, rfl⟩))
 go_loopw [7] (fun v wr => ∃ k : Nat, k < 12 ∧ v = .int .i64 (n - F - before c y k) ∧ before c y k ≤ n - F ∧ Below w.heap.size w wr ∧ Blk wr w.heap.size z4 161 ∧ Blk wr (w.heap.size + 1) #[.int .i64 c, .int .i64 y, .int .i64 ((k : Int) + 1), .int .i64 0] 161) (fun v _ => (intOf v).toNat)
 case atStart =>
  refine ⟨0, by omega, by simp [before], by simp [before]; omega, ?_, ?_, ?_⟩
  · exact ((Below.refl _ _).alloc (Nat.le_refl _) _).alloc (by rw [World.size_alloc]; omega) _
  · exact (Blk.new w _ _).alloc _
  · have := Blk.new (w.alloc (.cells z4 161)) #[.int .i64 c, .int .i64 y, .int .i64 (((0 : Nat) : Int) + 1), .int .i64 0] 161
    rw [World.size_alloc] at this
    exact this
 case round =>
  obtain ⟨k, hk, rfl, hle, hb, hz, hd⟩ := hrel
  have c1 : ∀ x : Later wr, x.w.cell? ⟨w.heap.size + 1, 1, none⟩ = some (.int .i64 y) := fun x => (hd.later x).cell 1 rfl
  have c2 : ∀ x : Later wr, x.w.cell? ⟨w.heap.size + 1, 2, none⟩ = some (.int .i64 ((k : Int) + 1)) := fun x => (hd.later x).cell 2 rfl
  have c0 : ∀ x : Later wr, x.w.cell? ⟨w.heap.size + 1, 0, none⟩ = some (.int .i64 c) := fun x => (hd.later x).cell 0 rfl
  have c3 : ∀ x : Later wr, x.w.cell? ⟨w.heap.size + 1, 3, none⟩ = some (.int .i64 0) := fun x => (hd.later x).cell 3 rfl
  have f3 : ∀ x : Later wr, x.w.frozen? ⟨w.heap.size + 1, 3, none⟩ = false := fun x => (hd.later x).thaw 3
  have c10 := hd.cell 1 rfl
  have c20 := hd.cell 2 rfl
  have f2 : ∀ x : Later wr, x.w.frozen? ⟨w.heap.size + 1, 2, none⟩ = false := fun x => (hd.later x).thaw 2
  have KM : ∀ W, CR 220 #[.int .i64 c, .int .i64 y, .int .i64 ((k : Int) + 1)] W (.int .i64 (monthDays c y ((k : Int) + 1))) := specMonthDays c y _
  have b1 := before_bound c y k
  have b2 := monthDays_le c y ((k : Int) + 1)
  have b3 := monthDays_ge (y := y) HH.out.1 (show 1 ≤ (k : Int) + 1 by omega) (show (k : Int) + 1 ≤ 12 by omega)
  have HN := hideP (before_next c y k)
  have HD := hideP hd
  have HZ := hideP hz
  have HB := hideP hb
  clear hd hz hb
  obtain ⟨md, em⟩ : ∃ md, monthDays c y ((k : Int) + 1) = md := ⟨_, rfl⟩
  rw [em] at KM b2 b3 HN
  have HE := hideP em
  clear em
  obtain ⟨B, eB⟩ : ∃ B, before c y k = B := ⟨_, rfl⟩
  have HBk := hideP eB
  rw [eB] at HN b1 hle
  rw [eB]
  clear eB
  by_cases hge : md ≤ n - F - B
  · go_wp2_with fail
    refine (KM _).mono ?_
    rintro e w1 ⟨rfl, hb1⟩
    obtain ⟨x1, rfl⟩ := Later.of hb1
    clear hb1
    go_wp2_with fail
    refine (KM _).mono ?_
    rintro e w1 ⟨rfl, hb1⟩
    obtain ⟨x2, rfl⟩ := x1.next hb1
    clear hb1
    go_wp2_with fail
    refine ⟨⟨k + 1, ?_, ?_, ?_, below_store (HB.out.trans (x2.below.mono HB.out.size)) _ (by omega), ((HZ.out.later x2).other (by omega)), ?_⟩, ?_⟩
    · by_cases hq : k + 1 < 12
      · exact hq
      · obtain rfl : k = 11 := by omega
        have := HN.out
        have := Q2.out
        simp only [Nat.reduceAdd] at *
        omega
    · exact congrArg (Value.int .i64) (by rw [HN.out]; omega)
    · rw [HN.out]; omega
    · rw [show ((k + 1 : Nat) : Int) + 1 = (k : Int) + 1 + 1 by omega]
      exact (HD.out.later x2).set 2 _
    · simp [intOf]; omega
  · go_wp2_with fail
    refine (KM _).mono ?_
    rintro e w1 ⟨rfl, hb1⟩
    obtain ⟨x1, rfl⟩ := Later.of hb1
    clear hb1
    go_wp2_with fail
    obtain ⟨W3, e3⟩ : ∃ W3, W3 = x1.w.setCell ⟨w.heap.size + 1, 3, none⟩ (.int .i64 (n - F - B + 1)) := ⟨_, rfl⟩
    have D3 : Blk W3 (w.heap.size + 1) #[.int .i64 c, .int .i64 y, .int .i64 ((k : Int) + 1), .int .i64 (n - F - B + 1)] 161 := by rw [e3]; exact (HD.out.later x1).set 3 _
    have Z3 : Blk W3 w.heap.size z4 161 := by rw [e3]; exact (HZ.out.later x1).other (by omega)
    have B3 : Below w.heap.size w W3 := by rw [e3]; exact below_store (HB.out.trans (x1.below.mono HB.out.size)) _ (by omega)
    rw [← e3]
    have HB3 := hideP B3
    have HZ3 := hideP Z3
    clear e3 c0 c1 c2 c3 c10 c20 f2 f3
    obtain ⟨c0, c1, c2, c3⟩ := cells4 D3.later
    have g0 : ∀ x : Later W3, x.w.cell? ⟨w.heap.size, 0, none⟩ = some (.int .i64 0) := fun x => (Z3.later x).cell 0 rfl
    have f0 : ∀ x : Later W3, x.w.frozen? ⟨w.heap.size, 0, none⟩ = false := fun x => (Z3.later x).thaw 0
    have g1 : ∀ x : Later W3, x.w.cell? ⟨w.heap.size, 1, none⟩ = some (.int .i64 0) := fun x => (Z3.later x).cell 1 rfl
    have f1 : ∀ x : Later W3, x.w.frozen? ⟨w.heap.size, 1, none⟩ = false := fun x => (Z3.later x).thaw 1
    have g2 : ∀ x : Later W3, x.w.cell? ⟨w.heap.size, 2, none⟩ = some (.int .i64 0) := fun x => (Z3.later x).cell 2 rfl
    have f2 : ∀ x : Later W3, x.w.frozen? ⟨w.heap.size, 2, none⟩ = false := fun x => (Z3.later x).thaw 2
    have g3 : ∀ x : Later W3, x.w.cell? ⟨w.heap.size, 3, none⟩ = some (.int .i64 0) := fun x => (Z3.later x).cell 3 rfl
    have f3 : ∀ x : Later W3, x.w.frozen? ⟨w.heap.size, 3, none⟩ = false := fun x => (Z3.later x).thaw 3
    have hmon : monthOf c y (n - first c y) = k := by rw [HH.out.2.2.1]; exact monthOf_eq (by rw [HBk.out]; exact hle) (by rw [HN.out]; omega)
    have K0 := specDateOk c y ((k : Int) + 1) (n - F - B + 1) W3
    by_cases hyr : 1 ≤ y ∧ y ≤ 3000
    · have hp : dateP c y ((k : Int) + 1) (n - F - B + 1) := ⟨HH.out.1, hyr.1, hyr.2, by omega, by rw [HE.out]; omega⟩
      rw [dateOk_true hp] at K0
      have eV := dateR_yes (dateOf_yes HH.out.1 h1 h2 HH.out.2.1 hmon hyr.1 hyr.2)
      rw [HH.out.2.2.1, HBk.out, HH.out.2.2.2.2] at eV
      have HV := hideP eV
      clear eV hp hmon hyr D3 Z3 B3
      refine K0.mono ?_
      rintro e w1 ⟨rfl, hb1⟩
      obtain ⟨x4, rfl⟩ := Later.of hb1
      clear hb1 K0
      go_wp2_with fail
      obtain ⟨W5, e5⟩ : ∃ W5, W5 = ((((x4.w.setCell ⟨w.heap.size, 0, none⟩ (.int .i64 c)).setCell ⟨w.heap.size, 1, none⟩ (.int .i64 y)).setCell ⟨w.heap.size, 2, none⟩ (.int .i64 ((k : Int) + 1))).setCell ⟨w.heap.size, 3, none⟩ (.int .i64 (n - F - B + 1))) := ⟨_, rfl⟩
      have Z5 : Blk W5 w.heap.size #[.int .i64 c, .int .i64 y, .int .i64 ((k : Int) + 1), .int .i64 (n - F - B + 1)] 161 := by rw [e5]; exact ((((HZ3.out.later x4).set 0 _).set 1 _).set 2 _).set 3 _
      have B5 : Below w.heap.size w W5 := by
       rw [e5]
       have hw := HB3.out.trans (x4.below.mono HB3.out.size)
       exact below_store (below_store (below_store (below_store hw _ (Nat.le_refl _)) _ (Nat.le_refl _)) _ (Nat.le_refl _)) _ (Nat.le_refl _)
      rw [← e5]
      clear e5
      have r0 : W5.cell? ⟨w.heap.size, 0, none⟩ = some (.int .i64 c) := Z5.cell 0 rfl
      have r1 : W5.cell? ⟨w.heap.size, 1, none⟩ = some (.int .i64 y) := Z5.cell 1 rfl
      have r2 : W5.cell? ⟨w.heap.size, 2, none⟩ = some (.int .i64 ((k : Int) + 1)) := Z5.cell 2 rfl
      have r3 : W5.cell? ⟨w.heap.size, 3, none⟩ = some (.int .i64 (n - F - B + 1)) := Z5.cell 3 rfl
      refine bodyPost_ret (by simp [results, Tryz.results154, go_sem, r0, r1, r2, r3]; try rfl) rfl ?_
      exact ⟨by rw [HV.out], B5⟩
    · have hp : ¬ dateP c y ((k : Int) + 1) (n - F - B + 1) := fun h => hyr ⟨h.2.1, h.2.2.1⟩
      rw [dateOk_false hp] at K0
      have eV : V = .tuple #[.agg z4, .bool false] := by rw [← HH.out.2.2.2.2]; exact dateR_no (dateOf_no (fun h => hyr ⟨HH.out.2.1 ▸ h.2.1, HH.out.2.1 ▸ h.2.2.1⟩))
      have HV := hideP eV
      clear eV hp hmon hyr D3 Z3 B3
      refine K0.mono ?_
      rintro e w1 ⟨rfl, hb1⟩
      obtain ⟨x4, rfl⟩ := Later.of hb1
      clear hb1 K0
      go_wp2_with fail
      obtain ⟨W5, e5⟩ : ∃ W5, W5 = ((((x4.w.setCell ⟨w.heap.size, 0, none⟩ (.int .i64 0)).setCell ⟨w.heap.size, 1, none⟩ (.int .i64 0)).setCell ⟨w.heap.size, 2, none⟩ (.int .i64 0)).setCell ⟨w.heap.size, 3, none⟩ (.int .i64 0)) := ⟨_, rfl⟩
      have Z5 : Blk W5 w.heap.size #[.int .i64 0, .int .i64 0, .int .i64 0, .int .i64 0] 161 := by rw [e5]; exact ((((HZ3.out.later x4).set 0 _).set 1 _).set 2 _).set 3 _
      have B5 : Below w.heap.size w W5 := by
       rw [e5]
       have hw := HB3.out.trans (x4.below.mono HB3.out.size)
       exact below_store (below_store (below_store (below_store hw _ (Nat.le_refl _)) _ (Nat.le_refl _)) _ (Nat.le_refl _)) _ (Nat.le_refl _)
      rw [← e5]
      clear e5
      have r0 : W5.cell? ⟨w.heap.size, 0, none⟩ = some (.int .i64 0) := Z5.cell 0 rfl
      have r1 : W5.cell? ⟨w.heap.size, 1, none⟩ = some (.int .i64 0) := Z5.cell 1 rfl
      have r2 : W5.cell? ⟨w.heap.size, 2, none⟩ = some (.int .i64 0) := Z5.cell 2 rfl
      have r3 : W5.cell? ⟨w.heap.size, 3, none⟩ = some (.int .i64 0) := Z5.cell 3 rfl
      refine bodyPost_ret (by simp [results, Tryz.results154, go_sem, r0, r1, r2, r3]; try rfl) rfl ?_
      exact ⟨by rw [HV.out], B5⟩
theorem year_ex {c n : Int} (hc : c = 0 ∨ c = 1) (h1 : -1000 ≤ n) (h2 : n ≤ 1200000) : first c (yearOf c n) ≤ n ∧ n < first c (yearOf c n + 1) := by
 have step : ∀ (j : Nat) (y : Int), first c y ≤ n → 3301 - y ≤ j → ∃ z, first c z ≤ n ∧ n < first c (z + 1) := by
  intro j
  induction j with
  | zero =>
   intro y hy hj
   have := year_top hc hy h2
   omega
  | succ j ih =>
   intro y hy hj
   by_cases h : first c (y + 1) ≤ n
   · exact ih (y + 1) h (by omega)
   · exact ⟨y, hy, by omega⟩
 obtain ⟨z, hz1, hz2⟩ := step (3301 - n / 366).toNat _ (year_low hc h1 h2).1 (by omega)
 rw [yearOf_eq hc hz1 hz2]
 exact ⟨hz1, hz2⟩
theorem first_le {c y z : Int} (hc : c = 0 ∨ c = 1) (h : y ≤ z) : first c y ≤ first c z := by
 by_cases e : y = z
 · subst e; exact Int.le_refl _
 · exact Int.le_of_lt (first_lt hc (by omega))
theorem date_early {c n : Int} (hc : c = 0 ∨ c = 1) (h : n < first c 1) : dateOf c n = (0, 0, 0, 0, false) := by
 apply dateOf_no
 rintro ⟨_, y1, _, n1, n2⟩
 have := year_ex hc n1 n2
 have := first_le hc y1
 omega
theorem date_late {c n : Int} (hc : c = 0 ∨ c = 1) (h : first c 3001 ≤ n) : dateOf c n = (0, 0, 0, 0, false) := by
 apply dateOf_no
 rintro ⟨_, _, y2, n1, n2⟩
 have := year_ex hc n1 n2
 have := first_le hc (show yearOf c n + 1 ≤ 3001 by omega)
 omega
theorem year_in {c n : Int} (hc : c = 0 ∨ c = 1) (h1 : first c 1 ≤ n) (h2 : n < first c 3001) : -1000 ≤ n ∧ n ≤ 1200000 ∧ 1 ≤ yearOf c n ∧ yearOf c n ≤ 3000 := by
 have a1 : -1000 ≤ n ∧ n ≤ 1200000 := by
  rcases hc with rfl | rfl
  · rw [first_jul] at h1 h2; omega
  · rw [first_gre] at h1 h2; omega
 have e := year_ex hc a1.1 a1.2
 refine ⟨a1.1, a1.2, ?_, ?_⟩
 · by_cases h : 1 ≤ yearOf c n
   · exact h
   · have := first_le hc (show yearOf c n + 1 ≤ 1 by omega); omega
 · by_cases h : yearOf c n ≤ 3000
   · exact h
   · have := first_le hc (show 3001 ≤ yearOf c n by omega); omega
theorem wrapEq (x : Int) (h : -9223372036854775808 ≤ x ∧ x ≤ 9223372036854775807) : IntKind.i64.wrap x = x := by
 rw [IntKind.wrap_i64]
 omega
def Later.drewL {W : World} (x : Later W) : Later W := ⟨x.w.drew, x.below.drew⟩
def dayAt (b : Nat) (w : World) : Nat := (intOf ((w.cell? ⟨b, 3, none⟩).getD undef)).toNat
theorem dayAt_of {w : World} {b : Nat} {d : Int} (h : w.cell? ⟨b, 3, none⟩ = some (.int .i64 d)) : dayAt b w = d.toNat := by unfold dayAt; rw [h]; rfl
theorem implDateOf (c n : Int) (w : World) (hT : Tab w) : CR 137 #[.int .i64 c, .int .i64 n] w (dateR c n) := by
 by_cases hc : c = 0 ∨ c = 1
 case neg =>
  rw [dateR_no (dateOf_no (fun h => hc h.1))]
  have KC := fun W => implCalNo c (by omega) (by omega) W
  clear hc hT
  go_enter Tryz.func137, Tryz.ntmps137
  go_wp2_with (go_at_call 132; refine (KC _).mono ?_; rintro e w1 ⟨rfl, rfl⟩)
  go_returns
  refine ⟨rfl, ?_⟩
  go_grown
 have KC := fun W => implCal c hc W
 have E1 := fun W => implEve c 1 W hc (by omega) (by omega)
 have E2 := fun W => implEve c 3001 W hc (by omega) (by omega)
 have bb1 := first_bound hc (show -5 ≤ (1 : Int) by omega) (by omega)
 have bb2 := first_bound hc (show -5 ≤ (3001 : Int) by omega) (by omega)
 by_cases hlo : n < first c 1
 case pos =>
  rw [dateR_no (date_early hc hlo)]
  clear hc hT E2 bb2
  generalize calT c = T at *
  generalize first c 1 = F1 at *
  go_enter Tryz.func137, Tryz.ntmps137
  go_wp2_with (first | (go_at_call 132; refine (KC _).mono ?_; rintro e w1 ⟨rfl, rfl⟩) | (go_at_call 192; refine (E1 _).mono ?_; rintro e w1 ⟨rfl, rfl⟩))
  go_returns
  refine ⟨rfl, ?_⟩
  go_grown
 by_cases hhi : first c 3001 ≤ n
 case pos =>
  rw [dateR_no (date_late hc hhi)]
  clear hc hT
  generalize calT c = T at *
  generalize first c 1 = F1 at *
  generalize first c 3001 = F2 at *
  go_enter Tryz.func137, Tryz.ntmps137
  go_wp2_with (first | (go_at_call 132; refine (KC _).mono ?_; rintro e w1 ⟨rfl, rfl⟩) | (go_at_call_of 192 (1 : Int); refine (E1 _).mono ?_; rintro e w1 ⟨rfl, rfl⟩) | (go_at_call_of 192 (3001 : Int); refine (E2 _).mono ?_; rintro e w1 ⟨rfl, rfl⟩))
  go_returns
  refine ⟨rfl, ?_⟩
  go_grown
 obtain ⟨n1, n2, y1, y2⟩ := year_in hc (show first c 1 ≤ n by omega) (show n < first c 3001 by omega)
 obtain ⟨q1, q2⟩ := year_ex hc n1 n2
 have KY := fun W => implYear c n W hc (show first c 1 ≤ n by omega) n2
 obtain ⟨y, hy⟩ : ∃ y, yearOf c n = y := ⟨_, rfl⟩
 rw [hy] at KY y1 y2 q1 q2
 have KF := fun W => implEve c y W hc (by omega) (by omega)
 have b0 := first_bound hc (show -5 ≤ y by omega) (show y ≤ 4000 by omega)
 have hs := first_step hc y
 rw [hs] at q2
 obtain ⟨F, hF⟩ : ∃ F, first c y = F := ⟨_, rfl⟩
 rw [hF] at KF q1 q2 b0
 obtain ⟨V, hV⟩ : ∃ V, dateR c n = V := ⟨_, rfl⟩
 rw [hV]
 have HH : Hid ((c = 0 ∨ c = 1) ∧ yearOf c n = y ∧ first c y = F ∧ dateR c n = V) := ⟨hc, hy, hF, hV⟩
 have Q2 := hideP q2
 have HT := hideP hT
 generalize calT c = T at *
 generalize first c 1 = F1 at *
 generalize first c 3001 = F2 at *
 clear hc hy hF hs hV q2 hT
 go_enter Tryz.func137, Tryz.ntmps137
 go_wp2_with (first | (go_at_call 132; refine (KC _).mono ?_; rintro e w1 ⟨rfl, rfl⟩) | (go_at_call_of 192 (1 : Int); refine (E1 _).mono ?_; rintro e w1 ⟨rfl, rfl⟩) | (go_at_call_of 192 (3001 : Int); refine (E2 _).mono ?_; rintro e w1 ⟨rfl, rfl⟩) | (go_at_call 193; refine (KY _).mono ?_; rintro e w1 ⟨rfl, rfl⟩) | (go_at_call_of 192 y; refine (KF _).mono ?_; rintro e w1 ⟨rfl, rfl⟩))
 go_loopw [] (fun wr => ∃ k : Nat, k < 12 ∧ before c y k ≤ n - F ∧ Below w.heap.size w wr ∧ Blk wr w.heap.size z4 161 ∧ Blk wr (w.heap.size + 1) #[.int .i64 c, .int .i64 y, .int .i64 ((k : Int) + 1), .int .i64 (n - F + 1 - before c y k)] 161) (fun wr => dayAt (w.heap.size + 1) wr)
 case atStart =>
  refine ⟨0, by omega, by simp [before]; omega, ?_, ?_, ?_⟩
  · exact ((Below.refl _ _).alloc (Nat.le_refl _) _).alloc (by rw [World.size_alloc]; omega) _
  · exact (Blk.new w _ _).alloc _
  · have := Blk.new (w.alloc (.cells z4 161)) #[.int .i64 c, .int .i64 y, .int .i64 1, .int .i64 (n - (F - 1))] 161
    rw [World.size_alloc] at this
    rw [show n - F + 1 - before c y 0 = n - (F - 1) by simp [before]; omega]
    exact this
 case round =>
  obtain ⟨k, hk, hle, hb, hz, hd⟩ := hrel
  have KM : ∀ x : Later wr, CR 194 #[.int .i64 c, .int .i64 y, .int .i64 ((k : Int) + 1)] x.w (.int .i64 (monthDays c y ((k : Int) + 1))) := fun x => implMonthDays c y _ x.w ((HT.out.later hb).later x.below)
  have b1 := before_bound c y k
  have b2 := monthDays_le c y ((k : Int) + 1)
  have b3 := monthDays_ge (y := y) HH.out.1 (show 1 ≤ (k : Int) + 1 by omega) (show (k : Int) + 1 ≤ 12 by omega)
  have HN := hideP (before_next c y k)
  obtain ⟨md, em⟩ : ∃ md, monthDays c y ((k : Int) + 1) = md := ⟨_, rfl⟩
  rw [em] at KM b2 b3 HN
  have HE := hideP em
  clear em
  obtain ⟨B, eB⟩ : ∃ B, before c y k = B := ⟨_, rfl⟩
  have HBk := hideP eB
  rw [eB] at HN b1 hle hd
  clear eB
  obtain ⟨c0, c1, c2, c3⟩ := cells4 hd.later
  have f2 : ∀ x : Later wr, x.w.frozen? ⟨w.heap.size + 1, 2, none⟩ = false := fun x => (hd.later x).thaw 2
  have f3 : ∀ x : Later wr, x.w.frozen? ⟨w.heap.size + 1, 3, none⟩ = false := fun x => (hd.later x).thaw 3
  have HDA := hideP (dayAt_of (hd.cell 3 rfl))
  have HD := hideP hd
  have HZ := hideP hz
  have HB := hideP hb
  clear hd hz hb
  by_cases hgt : md < n - F + 1 - B
  · have hg : decide (md < n - F + 1 - B) = true := decide_eq_true hgt
    have hwr := wrapEq (n - F + 1 - B - md) (by omega)
    have HK : Hid (k + 1 < 12) := by
     unfold Hid
     by_cases hq : k + 1 < 12
     · exact hq
     · obtain rfl : k = 11 := by omega
       have := HN.out
       have := Q2.out
       simp only [Nat.reduceAdd] at *
       omega
    go_wp2_with fail
    refine wp_region_later (W := wr) (Below.refl _ _) (by kernel_rfl) (by kernel_rfl) ?_
    repeat (go_big_quiet_step ((go_at_call 194; exact calls_later (KM _))))
    refine quietE fun x1 => ?_
    go_wp2_with fail
    go_region_with (go_at_call 194; refine (KM x1.drewL).mono ?_; rintro e w1 ⟨rfl, hb1⟩; obtain ⟨x2, rfl⟩ := x1.drewL.next hb1; clear hb1)
    all_goals
     go_wp2_with fail
     refine ⟨⟨k + 1, HK.out, by rw [HN.out]; omega, below_store (below_store (HB.out.trans (x2.below.mono HB.out.size)) _ (by omega)) _ (by omega), ((HZ.out.later x2).other (by omega)).other (by omega), ?_⟩, ?_⟩
     · rw [show ((k + 1 : Nat) : Int) + 1 = (k : Int) + 1 + 1 by omega, HN.out, show n - F + 1 - (B + md) = n - F + 1 - B - md by omega]
       exact ((HD.out.later x2).set 3 _).set 2 _
     · rw [HDA.out, dayAt_of ((((HD.out.later x2).set 3 _).set 2 _).cell 3 rfl)]
       omega
  · have hg : decide (md < n - F + 1 - B) = false := decide_eq_false hgt
    have hmon : monthOf c y (n - first c y) = k := by rw [HH.out.2.2.1]; exact monthOf_eq (by rw [HBk.out]; exact hle) (by rw [HN.out]; omega)
    have eV := dateR_yes (dateOf_yes HH.out.1 n1 n2 HH.out.2.1 hmon y1 y2)
    rw [HH.out.2.2.1, HBk.out, HH.out.2.2.2, show n - F - B + 1 = n - F + 1 - B by omega] at eV
    have HV := hideP eV
    clear eV hmon
    obtain ⟨g0, g1, g2, g3⟩ := cells4 HZ.out.later
    have fz : ∀ (x : Later wr) (i : Nat), x.w.frozen? ⟨w.heap.size, i, none⟩ = false := fun x i => (HZ.out.later x).thaw i
    go_wp2_with fail
    refine wp_region_later (W := wr) (Below.refl _ _) (by kernel_rfl) (by kernel_rfl) ?_
    repeat (go_big_quiet_step ((go_at_call 194; exact calls_later (KM _))))
    refine quietE fun x4 => ?_
    go_wp2_with fail
    obtain ⟨W5, e5⟩ : ∃ W5, W5 = ((((x4.w.setCell ⟨w.heap.size, 0, none⟩ (.int .i64 c)).setCell ⟨w.heap.size, 1, none⟩ (.int .i64 y)).setCell ⟨w.heap.size, 2, none⟩ (.int .i64 ((k : Int) + 1))).setCell ⟨w.heap.size, 3, none⟩ (.int .i64 (n - F + 1 - B))) := ⟨_, rfl⟩
    have Z5 : Blk W5 w.heap.size #[.int .i64 c, .int .i64 y, .int .i64 ((k : Int) + 1), .int .i64 (n - F + 1 - B)] 161 := by rw [e5]; exact ((((HZ.out.later x4).set 0 _).set 1 _).set 2 _).set 3 _
    have B5 : Below w.heap.size w W5 := by
     rw [e5]
     have hw := HB.out.trans (x4.below.mono HB.out.size)
     exact below_store (below_store (below_store (below_store hw _ (Nat.le_refl _)) _ (Nat.le_refl _)) _ (Nat.le_refl _)) _ (Nat.le_refl _)
    rw [← e5]
    clear e5
    have r0 : W5.cell? ⟨w.heap.size, 0, none⟩ = some (.int .i64 c) := Z5.cell 0 rfl
    have r1 : W5.cell? ⟨w.heap.size, 1, none⟩ = some (.int .i64 y) := Z5.cell 1 rfl
    have r2 : W5.cell? ⟨w.heap.size, 2, none⟩ = some (.int .i64 ((k : Int) + 1)) := Z5.cell 2 rfl
    have r3 : W5.cell? ⟨w.heap.size, 3, none⟩ = some (.int .i64 (n - F + 1 - B)) := Z5.cell 3 rfl
    refine bodyPost_ret (by simp [results, Tryz.results137, go_sem, r0, r1, r2, r3]; try rfl) rfl ?_
    exact ⟨by rw [HV.out], B5⟩
structure Rdg where
 cal : Int
 year : Int
 sol : Int
 mon : Int
 day : Int
deriving DecidableEq
abbrev rdgV (x : Rdg) : Value := .agg #[.int .i64 x.cal, .int .i64 x.year, .int .i64 x.sol, .int .i64 x.mon, .int .i64 x.day]
def plainR (c : Int) (x : Rdg) : Value := if dateOk c x.sol x.mon x.day = true then .tuple #[.agg #[.int .i64 c, .int .i64 x.sol, .int .i64 x.mon, .int .i64 x.day], .bool true] else .tuple #[.agg #[.int .i64 0, .int .i64 0, .int .i64 0, .int .i64 0], .bool false]
theorem box3 (w : World) (o : Obj) (u v : Array Value) (t s : TypeId) : ∃ W0, W0 = ((w.alloc o).alloc (.cells u t)).alloc (.cells v s) ∧ Hid (∀ x : Later W0, Blk x.w (w.heap.size + 1) u t) ∧ Hid (∀ x : Later W0, Blk x.w (w.heap.size + 2) v s) ∧ Hid (∀ x : Later W0, Below w.heap.size w x.w) := by
 refine ⟨_, rfl, fun x => ?_, fun x => ?_, fun x => ?_⟩
 · have h := Blk.new (w.alloc o) u t
   rw [World.size_alloc] at h
   exact (h.alloc _).later x
 · have h := Blk.new ((w.alloc o).alloc (.cells u t)) v s
   rw [World.size_alloc, World.size_alloc] at h
   exact h.later x
 · exact below_alloc (below_alloc (below_alloc x.below))
theorem box2 (w : World) (o : Obj) (u : Array Value) (t : TypeId) : ∃ W0, W0 = (w.alloc o).alloc (.cells u t) ∧ Hid (∀ x : Later W0, Blk x.w (w.heap.size + 1) u t) ∧ Hid (∀ x : Later W0, Below w.heap.size w x.w) := by
 refine ⟨_, rfl, fun x => ?_, fun x => ?_⟩
 · have h := Blk.new (w.alloc o) u t
   rw [World.size_alloc] at h
   exact h.later x
 · exact below_alloc (below_alloc x.below)
theorem implSolarDate (c : Int) (x : Rdg) (w : World) (hT : Tab w) : CR 187 #[.int .i64 c, rdgV x] w (plainR c x) := by
 obtain ⟨W0, hW0, H1, H2, HB⟩ := box3 w (.cells #[.int .i64 x.cal, .int .i64 x.year, .int .i64 x.sol, .int .i64 x.mon, .int .i64 x.day] 110) #[.int .i64 0, .int .i64 0, .int .i64 0, .int .i64 0] #[.int .i64 (c), .int .i64 x.sol, .int .i64 x.mon, .int .i64 x.day] 161 161
 have HW0 := hideP hW0
 have KO : CR 252 #[.agg #[.int .i64 c, .int .i64 x.sol, .int .i64 x.mon, .int .i64 x.day]] W0 (.bool (dateOk c x.sol x.mon x.day)) := implDateOk c x.sol x.mon x.day W0 (hT.later (HB.out ⟨W0, Below.refl _ _⟩))
 obtain ⟨u0, u1, u2, u3⟩ := cells4 H1.out
 obtain ⟨c0, c1, c2, c3⟩ := cells4 H2.out
 obtain ⟨f0, f1, f2, f3⟩ := thaws4 H1.out
 clear hW0 hT
 unfold plainR
 generalize dateOk c x.sol x.mon x.day = b at *
 cases b
 focus
   rw [if_neg (by simp)]
 rotate_left
 focus
   rw [if_pos rfl]
 rotate_left
 all_goals
  go_enter Tryz.func187, Tryz.ntmps187
  go_wp2_with fail
  rw [← HW0.out]
  refine latO KO fun x1 => ?_
  go_wp2
  exact ret4 (H1.out x1) (HB.out x1) (by omega) rfl (fun _ q0 q1 q2 q3 B9 => ⟨by simp [results, Tryz.results187, go_sem, q0, q1, q2, q3]; try rfl, rfl, B9⟩)
theorem implPlain (x : Rdg) (w : World) (hT : Tab w) : CR 134 #[rdgV x] w (plainR x.cal x) := by
 obtain ⟨W0, hW0, H1, HB⟩ := box2 w (.cells #[.int .i64 x.cal, .int .i64 x.year, .int .i64 x.sol, .int .i64 x.mon, .int .i64 x.day] 110) #[.int .i64 0, .int .i64 0, .int .i64 0, .int .i64 0] 161
 have HW0 := hideP hW0
 have KO : CR 187 #[.int .i64 x.cal, rdgV x] W0 (plainR x.cal x) := implSolarDate x.cal x W0 (hT.later (HB.out ⟨W0, Below.refl _ _⟩))
 obtain ⟨a, b, m, d, ok, h⟩ : ∃ a b m d ok, plainR x.cal x = .tuple #[.agg #[.int .i64 a, .int .i64 b, .int .i64 m, .int .i64 d], .bool ok] := by
  unfold plainR
  split
  · exact ⟨_, _, _, _, _, rfl⟩
  · exact ⟨_, _, _, _, _, rfl⟩
 rw [h] at KO ⊢
 obtain ⟨u0, u1, u2, u3⟩ := cells4 H1.out
 obtain ⟨f0, f1, f2, f3⟩ := thaws4 H1.out
 clear hW0 hT h
 go_enter Tryz.func134, Tryz.ntmps134
 go_wp2_with fail
 rw [← HW0.out]
 refine latO KO fun x1 => ?_
 go_wp2
 exact ret4 (H1.out x1) (HB.out x1) (by omega) rfl (fun _ q0 q1 q2 q3 B9 => ⟨by simp [results, Tryz.results134, go_sem, q0, q1, q2, q3]; try rfl, rfl, B9⟩)
theorem month_ex {c y n : Int} (h0 : 0 ≤ n) : ∀ j : Nat, n < before c y j → ∃ k, k < j ∧ before c y k ≤ n ∧ n < before c y (k + 1)
  | 0, h => by
   have hz : before c y 0 = 0 := rfl
   omega
  | j + 1, h => by
   by_cases hj : n < before c y j
   · obtain ⟨k, hk, h1, h2⟩ := month_ex h0 j hj
     exact ⟨k, by omega, h1, h2⟩
   · exact ⟨j, by omega, by omega, h⟩
theorem date_back {c n a y m d : Int} (h : dateOf c n = (a, y, m, d, true)) : a = c ∧ dateP c y m d ∧ dayOf c y m d = n := by
 by_cases hp : (c = 0 ∨ c = 1) ∧ 1 ≤ yearOf c n ∧ yearOf c n ≤ 3000 ∧ -1000 ≤ n ∧ n ≤ 1200000
 · obtain ⟨hc, h2, h3, h4, h5⟩ := hp
   obtain ⟨e1, e2⟩ := year_ex hc h4 h5
   have hs := first_step hc (yearOf c n)
   obtain ⟨k, hk, k1, k2⟩ := month_ex (c := c) (y := yearOf c n) (n := n - first c (yearOf c n)) (by omega) 12 (by omega)
   have hm := monthOf_eq k1 k2
   have hd := dateOf_yes hc h4 h5 rfl hm h2 h3
   rw [hd] at h
   simp only [Prod.mk.injEq] at h
   obtain ⟨rfl, rfl, rfl, rfl, _⟩ := h
   have hb := before_next c (yearOf c n) k
   have hP : dateP c (yearOf c n) ((k : Int) + 1) (n - first c (yearOf c n) - before c (yearOf c n) k + 1) := ⟨hc, h2, h3, by omega, by omega⟩
   refine ⟨rfl, hP, ?_⟩
   unfold dayOf
   rw [if_pos hP, show ((k : Int) + 1 - 1).toNat = k by omega]
   omega
 · rw [dateOf_no hp] at h
   simp at h
theorem day_back {c y m d : Int} (h : dateP c y m d) : dateOf c (dayOf c y m d) = (c, y, m, d, true) := by
 obtain ⟨hm1, hm2⟩ := dateP_month h
 obtain ⟨hc, hy1, hy2, hd1, hd2⟩ := h
 obtain ⟨k, hk⟩ := Int.eq_ofNat_of_zero_le (show 0 ≤ m - 1 by omega)
 have hm : m = (k : Int) + 1 := by omega
 subst hm
 have hP : dateP c y ((k : Int) + 1) d := ⟨hc, hy1, hy2, hd1, hd2⟩
 have hb := before_next c y k
 have hmono := before_mono c y (k + 1) (12 - (k + 1))
 rw [show k + 1 + (12 - (k + 1)) = 12 by omega] at hmono
 have h0 := (before_bound c y k).1
 have hs := first_step hc y
 have hD : dayOf c y ((k : Int) + 1) d = first c y + before c y k + d - 1 := by
  unfold dayOf
  rw [if_pos hP, show ((k : Int) + 1 - 1).toNat = k by omega]
 have hbd := dayOf_bound c y ((k : Int) + 1) d
 have hy3 : yearOf c (dayOf c y ((k : Int) + 1) d) = y := yearOf_eq hc (by omega) (by omega)
 have hmo : monthOf c y (dayOf c y ((k : Int) + 1) d - first c y) = k := monthOf_eq (by omega) (by omega)
 have hfb : first c (y + 1) ≤ 1200000 := by
  have h1 := first_le (c := c) (y := y + 1) (z := 3001) hc (by omega)
  have h2 : first c 3001 ≤ 1200000 := by
   rcases hc with rfl | rfl
   · rw [first_jul]; omega
   · rw [first_gre]; omega
  omega
 have hf1 : -1000 ≤ first c y := by
  have h1 := first_le (c := c) (y := 1) (z := y) hc (by omega)
  have h2 : -1000 ≤ first c 1 := by
   rcases hc with rfl | rfl
   · rw [first_jul]; omega
   · rw [first_gre]; omega
  omega
 rw [dateOf_yes hc (by omega) (by omega) hy3 hmo hy1 hy2]
 simp only [Prod.mk.injEq]
 refine ⟨trivial, trivial, trivial, ?_, trivial⟩
 omega
theorem parts_none (s : ByteArray) (g : Int) : ∀ k, (∀ j, j < k → bAt s j ≠ g) → partsTo s g k = [] ∧ startAt s g k = 0
  | 0, _ => ⟨rfl, rfl⟩
  | k + 1, h => by
   obtain ⟨h1, h2⟩ := parts_miss s g k (h k (by omega))
   obtain ⟨h3, h4⟩ := parts_none s g k (fun j hj => h j (by omega))
   exact ⟨h1.trans h3, h2.trans h4⟩
theorem parts_run (s : ByteArray) (g : Int) (a : Nat) : ∀ n, (∀ j, a ≤ j → j < a + n → bAt s j ≠ g) → partsTo s g (a + n) = partsTo s g a ∧ startAt s g (a + n) = startAt s g a
  | 0, _ => ⟨rfl, rfl⟩
  | n + 1, h => by
   obtain ⟨h1, h2⟩ := parts_miss s g (a + n) (h (a + n) (by omega) (by omega))
   obtain ⟨h3, h4⟩ := parts_run s g a n (fun j h1 h2 => h j h1 (by omega))
   exact ⟨h1.trans h3, h2.trans h4⟩
theorem parts_mono (s : ByteArray) (g : Int) (a : Nat) : ∀ n, (partsTo s g a).length ≤ (partsTo s g (a + n)).length
  | 0 => Nat.le_refl _
  | n + 1 => by
   have ih := parts_mono s g a n
   show _ ≤ (partsTo s g ((a + n) + 1)).length
   rw [partsTo]
   split
   · rw [List.length_append]; omega
   · exact ih
theorem ext_all (s : ByteArray) : s.extract 0 s.size = s := ByteArray.extract_zero_size
theorem bAt_ext (s : ByteArray) (a k : Nat) : bAt (s.extract a s.size) k = bAt s (a + k) := by
 unfold bAt
 have h1 : (s.extract a s.size).data.toList = (s.data.toList.drop a) := by
  rw [Lib.extract_eq]
  show (List.take (s.size - a) (List.drop a s.data.toList)) = _
  rw [List.take_of_length_le (by rw [List.length_drop]; exact Nat.le_refl _)]
 rw [h1, List.getD, List.getD, List.getElem?_drop]
theorem cut_none (s : ByteArray) (g : Int) (h : ∀ j, j < s.size → bAt s j ≠ g) : cut s g = [s] := by
 obtain ⟨h1, h2⟩ := parts_none s g s.size h
 unfold cut
 rw [h1, h2, ext_all]
 rfl
theorem parts_short (s : ByteArray) (g : Int) : ∀ k, ∀ x ∈ partsTo s g k, x.size ≤ s.size
  | 0, x, h => by simp [partsTo] at h
  | k + 1, x, h => by
   rw [partsTo] at h
   split at h
   · rcases List.mem_append.1 h with h | h
     · exact parts_short s g k x h
     · have : x = s.extract (startAt s g k) k := by simpa using h
       rw [this, ByteArray.size_extract]
       omega
   · exact parts_short s g k x h
theorem cut_short (s : ByteArray) (g : Int) (i : Nat) : ((cut s g).getD i ⟨#[]⟩).size ≤ s.size := by
 by_cases hi : i < (cut s g).length
 · have hm : (cut s g).getD i ⟨#[]⟩ ∈ cut s g := by
    rw [List.getD, List.getElem?_eq_getElem hi]
    exact List.getElem_mem _
   unfold cut at hm
   rcases List.mem_append.1 hm with h | h
   · exact parts_short s g _ _ h
   · have : (cut s g).getD i ⟨#[]⟩ = s.extract (startAt s g s.size) s.size := by simpa [cut] using h
     rw [this, ByteArray.size_extract]
     omega
 · rw [List.getD, List.getElem?_eq_none (by omega)]
   exact Nat.zero_le _
theorem cut_long (s : ByteArray) (g : Int) : (cut s g).length ≤ s.size + 1 := by
 have := parts_len s g s.size
 unfold cut
 rw [List.length_append]
 simp
 omega
theorem empty_yes {b : ByteArray} (h : b.size = 0) : b.toList.isEmpty = true := by
 rw [ByteArray.toList_eq]
 simp
 exact Array.eq_empty_of_size_eq_zero h
theorem empty_no {b : ByteArray} (h : b.size ≠ 0) : b.toList.isEmpty = false := by
 rw [ByteArray.toList_eq]
 simp
 intro e
 exact h (by show b.data.size = 0; rw [e]; rfl)
theorem readDec_sign (b : ByteArray) (k : Nat) (h : k < b.size) (hk : bAt b k < 48) : readDec b = -1 := by
 apply read_stop b k h
 have h1 := bAt_eq b k h
 unfold digB
 exact inB_false (.inl (by omega))
theorem cut_first (s : ByteArray) (g : UInt8) : (∃ p : Nat, p < s.size ∧ Lib.indexByte s.data.toList g = p ∧ bAt s p = (g.toNat : Int) ∧ ∀ j, j < p → bAt s j ≠ (g.toNat : Int)) ∨ (Lib.indexByte s.data.toList g = -1 ∧ ∀ j, j < s.size → bAt s j ≠ (g.toNat : Int)) := by
 have key : ∀ j, j < s.size → (bAt s j = (g.toNat : Int) ↔ s.data.toList[j]? = some g) := fun j hj => by
  have hl : j < s.data.toList.length := hj
  unfold bAt
  rw [List.getD, List.getElem?_eq_getElem hl]
  constructor
  · intro h
    simp only [Option.getD_some] at h
    have : (s.data.toList[j]).toNat = g.toNat := by omega
    rw [show s.data.toList[j] = g from UInt8.toNat_inj.1 this]
  · intro h
    rw [Option.some.inj h]
    rfl
 by_cases h : Lib.indexByte s.data.toList g = -1
 · exact .inr ⟨h, fun j hj e => Lib.indexByte_none h j ((key j hj).1 e)⟩
 · have hge := Lib.indexByte_ge s.data.toList g
   obtain ⟨p, hp⟩ := Int.eq_ofNat_of_zero_le (show 0 ≤ Lib.indexByte s.data.toList g by omega)
   obtain ⟨f1, f2⟩ := Lib.indexByte_some hp
   have hps : p < s.size := by
    have : p < s.data.toList.length := (List.getElem?_eq_some_iff.1 f1).1
    exact this
   exact .inl ⟨p, hps, hp, (key p hps).2 f1, fun j hj e => f2 j hj ((key j (by omega)).1 e)⟩
theorem cut_two (s : ByteArray) (g : Int) (p : Nat) (hp : p < s.size) (hat : bAt s p = g) (hno : ∀ j, j < p → bAt s j ≠ g) (hr : ∀ j, p < j → j < s.size → bAt s j ≠ g) : cut s g = [s.extract 0 p, s.extract (p + 1) s.size] := by
 obtain ⟨a1, a2⟩ := parts_none s g p hno
 obtain ⟨b1, b2⟩ := parts_hit s g p hat
 rw [a1, a2] at b1
 have hrun := parts_run s g (p + 1) (s.size - (p + 1)) (fun j h1 h2 h3 => hr j (by omega) (by omega) h3)
 rw [show p + 1 + (s.size - (p + 1)) = s.size from by omega, b1, b2] at hrun
 unfold cut
 rw [hrun.1, hrun.2]
 rfl
theorem cut_more (s : ByteArray) (g : Int) (p q : Nat) (hpq : p < q) (hq : q < s.size) (hat : bAt s p = g) (h3 : bAt s q = g) : 2 < (cut s g).length := by
 have c0 := (parts_hit s g p hat).1
 have c1 := parts_mono s g (p + 1) (q - (p + 1))
 have c2 := (parts_hit s g q h3).1
 have c3 := parts_mono s g (q + 1) (s.size - (q + 1))
 rw [show p + 1 + (q - (p + 1)) = q from by omega] at c1
 rw [show q + 1 + (s.size - (q + 1)) = s.size from by omega] at c3
 have c4 : (partsTo s g (q + 1)).length = (partsTo s g q).length + 1 := by rw [c2, List.length_append]; rfl
 have c5 : (partsTo s g (p + 1)).length = (partsTo s g p).length + 1 := by rw [c0, List.length_append]; rfl
 unfold cut
 rw [List.length_append]
 simp
 omega
end Go.Proofs.YtpclaceefapppaaGreatDoor.ctr
