/- Contract of the program's DateOf: it answers its plain function at every argument, where its table holds its numbers. Contracts of the program's isInBoth, endsOk, reignOk, isBehind and reignNamed, and of the model's l08Dated: each answers its plain function. Contracts of the program's isBehind, reignNamed, checkReigns and ReignsOk: each answers its plain function, where the table of months and errNoTable hold what they do. -/
import Derived.Test.YtdgolaaheakfoaaGreatDoorJnSas
import Derived.Deep.RegionWith
import Derived.Test.YtdgolaaheakfoaaGreatDoorRgnListS
import Derived.Test.YtdgolaaheakfoaaGreatDoorJnSaj
namespace Go.Proofs.YtdgolaaheakfoaaGreatDoor.ctr
open Go.RowKit
theorem year_ex {c n : Int} (hc : c = 0 ∨ c = 1) (h1 : -1000 ≤ n) (h2 : n ≤ 1200000) : first c (yearOf c n) ≤ n ∧ n < first c (yearOf c n + 1) := by
  have step : ∀ (j : Nat) (y : Int), first c y ≤ n → 3301 - y ≤ j → ∃ z, first c z ≤ n ∧ n < first c (z + 1) := by
    intro j
    induction j with
    | zero =>
      intro y hy hj
      have := year_top hc hy h2
      omega
    | succ j ih =>
      intro y hy hj
      by_cases h : first c (y + 1) ≤ n
      · exact ih (y + 1) h (by omega)
      · exact ⟨y, hy, by omega⟩
  obtain ⟨z, hz1, hz2⟩ := step (3301 - n / 366).toNat _ (year_low hc h1 h2).1 (by omega)
  rw [yearOf_eq hc hz1 hz2]
  exact ⟨hz1, hz2⟩
theorem first_le {c y z : Int} (hc : c = 0 ∨ c = 1) (h : y ≤ z) : first c y ≤ first c z := by
  by_cases e : y = z
  · subst e; exact Int.le_refl _
  · exact Int.le_of_lt (first_lt hc (by omega))
theorem date_early {c n : Int} (hc : c = 0 ∨ c = 1) (h : n < first c 1) : dateOf c n = (0, 0, 0, 0, false) := by
  apply dateOf_no
  rintro ⟨_, y1, _, n1, n2⟩
  have := year_ex hc n1 n2
  have := first_le hc y1
  omega
theorem date_late {c n : Int} (hc : c = 0 ∨ c = 1) (h : first c 3001 ≤ n) : dateOf c n = (0, 0, 0, 0, false) := by
  apply dateOf_no
  rintro ⟨_, _, y2, n1, n2⟩
  have := year_ex hc n1 n2
  have := first_le hc (show yearOf c n + 1 ≤ 3001 by omega)
  omega
theorem year_in {c n : Int} (hc : c = 0 ∨ c = 1) (h1 : first c 1 ≤ n) (h2 : n < first c 3001) : -1000 ≤ n ∧ n ≤ 1200000 ∧ 1 ≤ yearOf c n ∧ yearOf c n ≤ 3000 := by
  have a1 : -1000 ≤ n ∧ n ≤ 1200000 := by
    rcases hc with rfl | rfl
    · rw [first_jul] at h1 h2; omega
    · rw [first_gre] at h1 h2; omega
  have e := year_ex hc a1.1 a1.2
  refine ⟨a1.1, a1.2, ?_, ?_⟩
  · by_cases h : 1 ≤ yearOf c n
    · exact h
    · have := first_le hc (show yearOf c n + 1 ≤ 1 by omega); omega
  · by_cases h : yearOf c n ≤ 3000
    · exact h
    · have := first_le hc (show 3001 ≤ yearOf c n by omega); omega
theorem wrapEq (x : Int) (h : -9223372036854775808 ≤ x ∧ x ≤ 9223372036854775807) : IntKind.i64.wrap x = x := by
  rw [IntKind.wrap_i64]
  omega
def Later.drewL {W : World} (x : Later W) : Later W := ⟨x.w.drew, x.below.drew⟩
def dayAt (b : Nat) (w : World) : Nat := (intOf ((w.cell? ⟨b, 3, none⟩).getD undef)).toNat
theorem dayAt_of {w : World} {b : Nat} {d : Int} (h : w.cell? ⟨b, 3, none⟩ = some (.int .i64 d)) : dayAt b w = d.toNat := by unfold dayAt; rw [h]; rfl
set_option maxHeartbeats 1000000 in
theorem implDateOf (c n : Int) (w : World) (hT : Tab w) : Calls Tryz.prog 96 #[.int .i64 c, .int .i64 n] w fun e w' => e = .returned (dateR c n) ∧ Below w.heap.size w w' := by
  by_cases hc : c = 0 ∨ c = 1
  case neg =>
    rw [dateR_no (dateOf_no (fun h => hc h.1))]
    have KC := fun W => implCalNo c (by omega) (by omega) W
    clear hc hT
    go_enter Tryz.func96, Tryz.ntmps96
    go_wp2_with (go_at_call 84; refine (KC _).mono ?_; rintro e w1 ⟨rfl, rfl⟩)
    go_returns
    refine ⟨rfl, ?_⟩
    go_grown
  have KC := fun W => implCal c hc W
  have E1 := fun W => implEve c 1 W hc (by omega) (by omega)
  have E2 := fun W => implEve c 3001 W hc (by omega) (by omega)
  have bb1 := first_bound hc (show -5 ≤ (1 : Int) by omega) (by omega)
  have bb2 := first_bound hc (show -5 ≤ (3001 : Int) by omega) (by omega)
  by_cases hlo : n < first c 1
  case pos =>
    rw [dateR_no (date_early hc hlo)]
    clear hc hT E2 bb2
    generalize calT c = T at *
    generalize first c 1 = F1 at *
    go_enter Tryz.func96, Tryz.ntmps96
    go_wp2_with (first | (go_at_call 84; refine (KC _).mono ?_; rintro e w1 ⟨rfl, rfl⟩) | (go_at_call 128; refine (E1 _).mono ?_; rintro e w1 ⟨rfl, rfl⟩))
    go_returns
    refine ⟨rfl, ?_⟩
    go_grown
  by_cases hhi : first c 3001 ≤ n
  case pos =>
    rw [dateR_no (date_late hc hhi)]
    clear hc hT
    generalize calT c = T at *
    generalize first c 1 = F1 at *
    generalize first c 3001 = F2 at *
    go_enter Tryz.func96, Tryz.ntmps96
    go_wp2_with (first | (go_at_call 84; refine (KC _).mono ?_; rintro e w1 ⟨rfl, rfl⟩) | (go_at_call_of 128 (1 : Int); refine (E1 _).mono ?_; rintro e w1 ⟨rfl, rfl⟩) | (go_at_call_of 128 (3001 : Int); refine (E2 _).mono ?_; rintro e w1 ⟨rfl, rfl⟩))
    go_returns
    refine ⟨rfl, ?_⟩
    go_grown
  obtain ⟨n1, n2, y1, y2⟩ := year_in hc (show first c 1 ≤ n by omega) (show n < first c 3001 by omega)
  obtain ⟨q1, q2⟩ := year_ex hc n1 n2
  have KY := fun W => implYear c n W hc (show first c 1 ≤ n by omega) n2
  obtain ⟨y, hy⟩ : ∃ y, yearOf c n = y := ⟨_, rfl⟩
  rw [hy] at KY y1 y2 q1 q2
  have KF := fun W => implEve c y W hc (by omega) (by omega)
  have b0 := first_bound hc (show -5 ≤ y by omega) (show y ≤ 4000 by omega)
  have hs := first_step hc y
  rw [hs] at q2
  obtain ⟨F, hF⟩ : ∃ F, first c y = F := ⟨_, rfl⟩
  rw [hF] at KF q1 q2 b0
  obtain ⟨V, hV⟩ : ∃ V, dateR c n = V := ⟨_, rfl⟩
  rw [hV]
  have HH : Hid ((c = 0 ∨ c = 1) ∧ yearOf c n = y ∧ first c y = F ∧ dateR c n = V) := ⟨hc, hy, hF, hV⟩
  have Q2 := hideP q2
  have HT := hideP hT
  generalize calT c = T at *
  generalize first c 1 = F1 at *
  generalize first c 3001 = F2 at *
  clear hc hy hF hs hV q2 hT
  go_enter Tryz.func96, Tryz.ntmps96
  go_wp2_with (first | (go_at_call 84; refine (KC _).mono ?_; rintro e w1 ⟨rfl, rfl⟩) | (go_at_call_of 128 (1 : Int); refine (E1 _).mono ?_; rintro e w1 ⟨rfl, rfl⟩) | (go_at_call_of 128 (3001 : Int); refine (E2 _).mono ?_; rintro e w1 ⟨rfl, rfl⟩) | (go_at_call 129; refine (KY _).mono ?_; rintro e w1 ⟨rfl, rfl⟩) | (go_at_call_of 128 y; refine (KF _).mono ?_; rintro e w1 ⟨rfl, rfl⟩))
  go_loopw [] (fun wr => ∃ k : Nat, k < 12 ∧ before c y k ≤ n - F ∧ Below w.heap.size w wr ∧ Blk wr w.heap.size z4 92 ∧ Blk wr (w.heap.size + 1) #[.int .i64 c, .int .i64 y, .int .i64 ((k : Int) + 1), .int .i64 (n - F + 1 - before c y k)] 92) (fun wr => dayAt (w.heap.size + 1) wr)
  case atStart =>
    refine ⟨0, by omega, by simp [before]; omega, ?_, ?_, ?_⟩
    · exact ((Below.refl _ _).alloc (Nat.le_refl _) _).alloc (by rw [World.size_alloc]; omega) _
    · exact (Blk.new w _ _).alloc _
    · have := Blk.new (w.alloc (.cells z4 92)) #[.int .i64 c, .int .i64 y, .int .i64 1, .int .i64 (n - (F - 1))] 92
      rw [World.size_alloc] at this
      rw [show n - F + 1 - before c y 0 = n - (F - 1) by simp [before]; omega]
      exact this
  case round =>
    obtain ⟨k, hk, hle, hb, hz, hd⟩ := hrel
    have KM : ∀ x : Later wr, Calls Tryz.prog 130 #[.int .i64 c, .int .i64 y, .int .i64 ((k : Int) + 1)] x.w fun e w' => e = .returned (.int .i64 (monthDays c y ((k : Int) + 1))) ∧ Below x.w.heap.size x.w w' := fun x => implMonthDays c y _ x.w ((HT.out.later hb).later x.below)
    have b1 := before_bound c y k
    have b2 := monthDays_le c y ((k : Int) + 1)
    have b3 := monthDays_ge (y := y) HH.out.1 (show 1 ≤ (k : Int) + 1 by omega) (show (k : Int) + 1 ≤ 12 by omega)
    have HN := hideP (before_next c y k)
    obtain ⟨md, em⟩ : ∃ md, monthDays c y ((k : Int) + 1) = md := ⟨_, rfl⟩
    rw [em] at KM b2 b3 HN
    have HE := hideP em
    clear em
    obtain ⟨B, eB⟩ : ∃ B, before c y k = B := ⟨_, rfl⟩
    have HBk := hideP eB
    rw [eB] at HN b1 hle hd
    clear eB
    have c0 : ∀ x : Later wr, x.w.cell? ⟨w.heap.size + 1, 0, none⟩ = some (.int .i64 c) := fun x => (hd.later x).cell 0 rfl
    have c1 : ∀ x : Later wr, x.w.cell? ⟨w.heap.size + 1, 1, none⟩ = some (.int .i64 y) := fun x => (hd.later x).cell 1 rfl
    have c2 : ∀ x : Later wr, x.w.cell? ⟨w.heap.size + 1, 2, none⟩ = some (.int .i64 ((k : Int) + 1)) := fun x => (hd.later x).cell 2 rfl
    have c3 : ∀ x : Later wr, x.w.cell? ⟨w.heap.size + 1, 3, none⟩ = some (.int .i64 (n - F + 1 - B)) := fun x => (hd.later x).cell 3 rfl
    have f2 : ∀ x : Later wr, x.w.frozen? ⟨w.heap.size + 1, 2, none⟩ = false := fun x => (hd.later x).thaw 2
    have f3 : ∀ x : Later wr, x.w.frozen? ⟨w.heap.size + 1, 3, none⟩ = false := fun x => (hd.later x).thaw 3
    have HDA := hideP (dayAt_of (hd.cell 3 rfl))
    have HD := hideP hd
    have HZ := hideP hz
    have HB := hideP hb
    clear hd hz hb
    by_cases hgt : md < n - F + 1 - B
    · have hg : decide (md < n - F + 1 - B) = true := decide_eq_true hgt
      have hwr := wrapEq (n - F + 1 - B - md) (by omega)
      have HK : Hid (k + 1 < 12) := by
        unfold Hid
        by_cases hq : k + 1 < 12
        · exact hq
        · obtain rfl : k = 11 := by omega
          have := HN.out
          have := Q2.out
          simp only [Nat.reduceAdd] at *
          omega
      go_wp2_with fail
      refine wp_region_later (W := wr) (Below.refl _ _) (by kernel_rfl) (by kernel_rfl) ?_
      repeat (go_big_quiet_step ((go_at_call 130; exact calls_later (KM _))))
      refine wpQuiet_nil ?_
      intro _ hw'
      obtain ⟨x1, rfl⟩ := hw'
      go_wp2_with fail
      go_region_with (go_at_call 130; refine (KM x1.drewL).mono ?_; rintro e w1 ⟨rfl, hb1⟩; obtain ⟨x2, rfl⟩ := x1.drewL.next hb1; clear hb1)
      all_goals
        go_wp2_with fail
        refine ⟨⟨k + 1, HK.out, by rw [HN.out]; omega, below_store (below_store (HB.out.trans (x2.below.mono HB.out.size)) _ (by omega)) _ (by omega), ((HZ.out.later x2).other (by omega)).other (by omega), ?_⟩, ?_⟩
        · rw [show ((k + 1 : Nat) : Int) + 1 = (k : Int) + 1 + 1 by omega, HN.out, show n - F + 1 - (B + md) = n - F + 1 - B - md by omega]
          exact ((HD.out.later x2).set 3 _).set 2 _
        · rw [HDA.out, dayAt_of ((((HD.out.later x2).set 3 _).set 2 _).cell 3 rfl)]
          omega
    · have hg : decide (md < n - F + 1 - B) = false := decide_eq_false hgt
      have hmon : monthOf c y (n - first c y) = k := by rw [HH.out.2.2.1]; exact monthOf_eq (by rw [HBk.out]; exact hle) (by rw [HN.out]; omega)
      have eV := dateR_yes (dateOf_yes HH.out.1 n1 n2 HH.out.2.1 hmon y1 y2)
      rw [HH.out.2.2.1, HBk.out, HH.out.2.2.2, show n - F - B + 1 = n - F + 1 - B by omega] at eV
      have HV := hideP eV
      clear eV hmon
      have g0 : ∀ x : Later wr, x.w.cell? ⟨w.heap.size, 0, none⟩ = some (.int .i64 0) := fun x => (HZ.out.later x).cell 0 rfl
      have g1 : ∀ x : Later wr, x.w.cell? ⟨w.heap.size, 1, none⟩ = some (.int .i64 0) := fun x => (HZ.out.later x).cell 1 rfl
      have g2 : ∀ x : Later wr, x.w.cell? ⟨w.heap.size, 2, none⟩ = some (.int .i64 0) := fun x => (HZ.out.later x).cell 2 rfl
      have g3 : ∀ x : Later wr, x.w.cell? ⟨w.heap.size, 3, none⟩ = some (.int .i64 0) := fun x => (HZ.out.later x).cell 3 rfl
      have fz : ∀ (x : Later wr) (i : Nat), x.w.frozen? ⟨w.heap.size, i, none⟩ = false := fun x i => (HZ.out.later x).thaw i
      go_wp2_with fail
      refine wp_region_later (W := wr) (Below.refl _ _) (by kernel_rfl) (by kernel_rfl) ?_
      repeat (go_big_quiet_step ((go_at_call 130; exact calls_later (KM _))))
      refine wpQuiet_nil ?_
      intro _ hw'
      obtain ⟨x4, rfl⟩ := hw'
      go_wp2_with fail
      obtain ⟨W5, e5⟩ : ∃ W5, W5 = ((((x4.w.setCell ⟨w.heap.size, 0, none⟩ (.int .i64 c)).setCell ⟨w.heap.size, 1, none⟩ (.int .i64 y)).setCell ⟨w.heap.size, 2, none⟩ (.int .i64 ((k : Int) + 1))).setCell ⟨w.heap.size, 3, none⟩ (.int .i64 (n - F + 1 - B))) := ⟨_, rfl⟩
      have Z5 : Blk W5 w.heap.size #[.int .i64 c, .int .i64 y, .int .i64 ((k : Int) + 1), .int .i64 (n - F + 1 - B)] 92 := by rw [e5]; exact ((((HZ.out.later x4).set 0 _).set 1 _).set 2 _).set 3 _
      have B5 : Below w.heap.size w W5 := by
        rw [e5]
        have hw := HB.out.trans (x4.below.mono HB.out.size)
        exact below_store (below_store (below_store (below_store hw _ (Nat.le_refl _)) _ (Nat.le_refl _)) _ (Nat.le_refl _)) _ (Nat.le_refl _)
      rw [← e5]
      clear e5
      have r0 : W5.cell? ⟨w.heap.size, 0, none⟩ = some (.int .i64 c) := Z5.cell 0 rfl
      have r1 : W5.cell? ⟨w.heap.size, 1, none⟩ = some (.int .i64 y) := Z5.cell 1 rfl
      have r2 : W5.cell? ⟨w.heap.size, 2, none⟩ = some (.int .i64 ((k : Int) + 1)) := Z5.cell 2 rfl
      have r3 : W5.cell? ⟨w.heap.size, 3, none⟩ = some (.int .i64 (n - F + 1 - B)) := Z5.cell 3 rfl
      refine bodyPost_ret (by simp [results, Tryz.results96, go_sem, r0, r1, r2, r3]; try rfl) rfl ?_
      exact ⟨by rw [HV.out], B5⟩
end Go.Proofs.YtdgolaaheakfoaaGreatDoor.ctr
namespace Go.Proofs.YtdgolaaheakfoaaGreatDoor.ctr
open Go.RowKit
noncomputable def bothB (n : Int) : Bool := (dateOf 0 n).2.2.2.2 && (dateOf 1 n).2.2.2.2
noncomputable def endsB (f t : Int) : Bool := bothB f && bothB t
noncomputable def rgnB (r : Rgn) : Bool := nameOk r.name && (decide (r.fr ≤ r.to) && endsB r.fr r.to)
theorem rgn_box (w : World) (s : ByteArray) (f t : Int) (T : TypeId) : ∃ W0, W0 = w.alloc (.cells #[.string s, .int .i64 f, .int .i64 t] T) ∧ (∀ x : Later W0, x.w.cell? ⟨w.heap.size, 0, none⟩ = some (.string s)) ∧ (∀ x : Later W0, x.w.cell? ⟨w.heap.size, 1, none⟩ = some (.int .i64 f)) ∧ (∀ x : Later W0, x.w.cell? ⟨w.heap.size, 2, none⟩ = some (.int .i64 t)) ∧ ∀ x : Later W0, Below w.heap.size w x.w :=
  ⟨_, rfl, Later.new rfl 0 rfl, Later.new rfl 1 rfl, Later.new rfl 2 rfl, fun x => below_alloc x.below⟩
set_option maxHeartbeats 1000000 in
theorem implBoth (n : Int) (w : World) (hT : Tab w) : Calls Tryz.prog 200 #[.int .i64 n] w fun e w' => e = .returned (.bool (bothB n)) ∧ Below w.heap.size w w' := by
  rcases h0 : dateOf 0 n with ⟨a0, y0, m0, d0, b0⟩
  rcases h1 : dateOf 1 n with ⟨a1, y1, m1, d1, b1⟩
  have K0 : ∀ W, Below w.heap.size w W → Calls Tryz.prog 96 #[.int .i64 0, .int .i64 n] W fun e w' => e = .returned (.tuple #[.agg #[.int .i64 a0, .int .i64 y0, .int .i64 m0, .int .i64 d0], .bool b0]) ∧ Below W.heap.size W w' := fun W hb => by
    have := implDateOf 0 n W (hT.later hb)
    unfold dateR at this
    rw [h0] at this
    exact this
  have K1 : ∀ W, Below w.heap.size w W → Calls Tryz.prog 96 #[.int .i64 1, .int .i64 n] W fun e w' => e = .returned (.tuple #[.agg #[.int .i64 a1, .int .i64 y1, .int .i64 m1, .int .i64 d1], .bool b1]) ∧ Below W.heap.size W w' := fun W hb => by
    have := implDateOf 1 n W (hT.later hb)
    unfold dateR at this
    rw [h1] at this
    exact this
  have HR : Hid (bothB n = (b0 && b1)) := by unfold Hid bothB; rw [h0, h1]
  clear h0 h1 hT
  go_enter Tryz.func200, Tryz.ntmps200
  go_wp2_with fail
  refine (K0 _ (Below.refl _ _)).mono ?_
  rintro e w1 ⟨rfl, hb⟩
  have B1 := hideP hb
  clear hb
  go_wp2_with fail
  refine (K1 _ (B1.out.alloc B1.out.size _)).mono ?_
  rintro e w2 ⟨rfl, hb⟩
  have B2 : Hid (Below w.heap.size w w2) := B1.out.trans ((below_alloc hb).mono B1.out.size)
  clear hb
  cases b0
  · go_wp2
    go_ret
    exact ⟨by rw [HR.out]; rfl, B2.out.alloc B2.out.size _⟩
  · go_wp2
    go_ret
    exact ⟨by rw [HR.out]; rfl, B2.out.alloc B2.out.size _⟩
set_option maxHeartbeats 1000000 in
theorem specDated (n : Int) (w : World) : Calls Tryz.prog 115 #[.int .i64 n] w fun e w' => e = .returned (.bool (bothB n)) ∧ Below w.heap.size w w' := by
  rcases h0 : dateOf 0 n with ⟨a0, y0, m0, d0, b0⟩
  rcases h1 : dateOf 1 n with ⟨a1, y1, m1, d1, b1⟩
  have K0 : ∀ W, Calls Tryz.prog 57 #[.int .i64 0, .int .i64 n] W fun e w' => e = .returned (.tuple #[.agg #[.int .i64 a0, .int .i64 y0, .int .i64 m0, .int .i64 d0], .bool b0]) ∧ Below W.heap.size W w' := fun W => by
    have := specDateOf 0 n W
    unfold dateR at this
    rw [h0] at this
    exact this
  have K1 : ∀ W, Calls Tryz.prog 57 #[.int .i64 1, .int .i64 n] W fun e w' => e = .returned (.tuple #[.agg #[.int .i64 a1, .int .i64 y1, .int .i64 m1, .int .i64 d1], .bool b1]) ∧ Below W.heap.size W w' := fun W => by
    have := specDateOf 1 n W
    unfold dateR at this
    rw [h1] at this
    exact this
  have HR : Hid (bothB n = (b0 && b1)) := by unfold Hid bothB; rw [h0, h1]
  clear h0 h1
  go_enter Tryz.func115, Tryz.ntmps115
  go_wp2_with fail
  refine (K0 _).mono ?_
  rintro e w1 ⟨rfl, hb⟩
  have B1 := hideP hb
  clear hb
  go_wp2_with fail
  refine (K1 _).mono ?_
  rintro e w2 ⟨rfl, hb⟩
  have B2 : Hid (Below w.heap.size w w2) := B1.out.trans ((below_alloc hb).mono B1.out.size)
  clear hb
  cases b0
  · go_wp2
    go_ret
    exact ⟨by rw [HR.out]; rfl, B2.out.alloc B2.out.size _⟩
  · go_wp2
    go_ret
    exact ⟨by rw [HR.out]; rfl, B2.out.alloc B2.out.size _⟩
set_option maxHeartbeats 1000000 in
theorem implEnds (s : ByteArray) (f t : Int) (w : World) (hT : Tab w) : Calls Tryz.prog 191 #[.agg #[.string s, .int .i64 f, .int .i64 t]] w fun e w' => e = .returned (.bool (endsB f t)) ∧ Below w.heap.size w w' := by
  obtain ⟨W0, hW0, c0, c1, c2, hBl⟩ := rgn_box w s f t 123
  have HW0 := hideP hW0
  have HBl := hideP hBl
  have K1 : ∀ x : Later W0, Calls Tryz.prog 200 #[.int .i64 f] x.w fun e w' => e = .returned (.bool (bothB f)) ∧ Below x.w.heap.size x.w w' := fun x => implBoth f x.w (hT.later (hBl x))
  have K2 : ∀ x : Later W0, Calls Tryz.prog 200 #[.int .i64 t] x.w fun e w' => e = .returned (.bool (bothB t)) ∧ Below x.w.heap.size x.w w' := fun x => implBoth t x.w (hT.later (hBl x))
  unfold endsB
  clear hW0 hBl hT
  generalize bothB f = b1 at *
  generalize bothB t = b2 at *
  cases b1
  · go_enter Tryz.func191, Tryz.ntmps191
    go_wp2_with fail
    rw [← HW0.out]
    refine (K1 ⟨W0, Below.refl _ _⟩).mono ?_
    rintro e w1 ⟨rfl, hb⟩
    obtain ⟨x1, rfl⟩ := Later.of hb
    clear hb
    go_wp2
    go_ret
    exact ⟨rfl, HBl.out x1⟩
  · go_enter Tryz.func191, Tryz.ntmps191
    go_wp2_with fail
    rw [← HW0.out]
    refine (K1 ⟨W0, Below.refl _ _⟩).mono ?_
    rintro e w1 ⟨rfl, hb⟩
    obtain ⟨x1, rfl⟩ := Later.of hb
    clear hb
    go_wp2_with fail
    refine (K2 x1).mono ?_
    rintro e w2 ⟨rfl, hb⟩
    obtain ⟨x2, rfl⟩ := x1.next hb
    clear hb
    go_wp2
    go_ret
    exact ⟨rfl, HBl.out x2⟩
theorem same_belowR {W w' : World} (h : w' = W) : Below W.heap.size W w' := by rw [h]; exact Below.refl _ _
set_option maxHeartbeats 1000000 in
theorem implReignOk (s : ByteArray) (f t : Int) (w : World) (hs : s.size ≤ maxLen) (hT : Tab w) : Calls Tryz.prog 168 #[.agg #[.string s, .int .i64 f, .int .i64 t]] w fun e w' => e = .returned (.bool (rgnB ⟨s, f, t⟩)) ∧ Below w.heap.size w w' := by
  obtain ⟨W0, hW0, c0, c1, c2, hBl⟩ := rgn_box w s f t 123
  have HW0 := hideP hW0
  have HBl := hideP hBl
  have KN : ∀ x : Later W0, Calls Tryz.prog 104 #[.string s] x.w fun e w' => e = .returned (.bool (nameOk s)) ∧ Below x.w.heap.size x.w w' := fun x => (implNameOk s x.w hs).mono fun _ _ h => ⟨h.1, same_belowR h.2⟩
  have KE : ∀ x : Later W0, Calls Tryz.prog 191 #[.agg #[.string s, .int .i64 f, .int .i64 t]] x.w fun e w' => e = .returned (.bool (endsB f t)) ∧ Below x.w.heap.size x.w w' := fun x => implEnds s f t x.w (hT.later (hBl x))
  unfold rgnB
  dsimp only
  clear hW0 hBl hT hs
  generalize nameOk s = b1 at *
  generalize endsB f t = b2 at *
  cases b1
  · go_enter Tryz.func168, Tryz.ntmps168
    go_wp2_with fail
    rw [← HW0.out]
    refine (KN ⟨W0, Below.refl _ _⟩).mono ?_
    rintro e w1 ⟨rfl, hb⟩
    obtain ⟨x1, rfl⟩ := Later.of hb
    clear hb
    go_wp2
    go_ret
    exact ⟨rfl, HBl.out x1⟩
  rw [Bool.true_and]
  by_cases hft : f ≤ t
  · have hd : decide (f ≤ t) = true := decide_eq_true hft
    go_enter Tryz.func168, Tryz.ntmps168
    go_wp2_with fail
    rw [← HW0.out]
    refine (KN ⟨W0, Below.refl _ _⟩).mono ?_
    rintro e w1 ⟨rfl, hb⟩
    obtain ⟨x1, rfl⟩ := Later.of hb
    clear hb
    go_wp2_with fail
    refine (KE x1).mono ?_
    rintro e w2 ⟨rfl, hb⟩
    obtain ⟨x2, rfl⟩ := x1.next hb
    clear hb
    go_wp2
    go_ret
    exact ⟨by simp [hft], HBl.out x2⟩
  · have hd : decide (f ≤ t) = false := decide_eq_false hft
    go_enter Tryz.func168, Tryz.ntmps168
    go_wp2_with fail
    rw [← HW0.out]
    refine (KN ⟨W0, Below.refl _ _⟩).mono ?_
    rintro e w1 ⟨rfl, hb⟩
    obtain ⟨x1, rfl⟩ := Later.of hb
    clear hb
    go_wp2
    go_ret
    exact ⟨by rw [decide_eq_false (show ¬ f ≤ t by omega)]; rfl, HBl.out x1⟩
end Go.Proofs.YtdgolaaheakfoaaGreatDoor.ctr
namespace Go.Proofs.YtdgolaaheakfoaaGreatDoor.ctr
open Go.RowKit
def behB (la : List Rgn) (f : Int) : Bool := decide (la.length = 0) || decide ((rgA la (la.length - 1)).to < f)
def namedR (l : List Rgn) (s : ByteArray) : Int := rfind (isNamed s) l
noncomputable def okAt (l : List Rgn) (i : Nat) : Bool := rgnB (rgA l i) && (behB (l.take i) (rgA l i).fr && decide (namedR (l.take i) (rgA l i).name = -1))
noncomputable def okTo (l : List Rgn) : Nat → Bool
  | 0 => true
  | k + 1 => okTo l k && okAt l k
noncomputable def reignsOk (l : List Rgn) : Bool := decide (l.length ≤ 30) && okTo l l.length
theorem okTo_bad {l : List Rgn} {k : Nat} (h : okAt l k = false) : ∀ n, k < n → okTo l n = false
  | 0, hn => by omega
  | n + 1, hn => by
    unfold okTo
    by_cases e : k = n
    · subst e; rw [h, Bool.and_false]
    · rw [okTo_bad h n (by omega), Bool.false_and]
theorem okTo_next {l : List Rgn} {k : Nat} (h : okTo l k = true) (h' : okAt l k = true) : okTo l (k + 1) = true := by unfold okTo; rw [h, h']; rfl
theorem ok_bad {l : List Rgn} {k : Nat} (h : okAt l k = false) (hk : k < l.length) : reignsOk l = false := by unfold reignsOk; rw [okTo_bad h _ hk, Bool.and_false]
theorem ok_long {l : List Rgn} (h : 30 < l.length) : reignsOk l = false := by unfold reignsOk; rw [decide_eq_false (by omega), Bool.false_and]
theorem ok_all {l : List Rgn} (h : okTo l l.length = true) : reignsOk l = decide (l.length ≤ 30) := by unfold reignsOk; rw [h, Bool.and_true]
noncomputable def badV (l : List Rgn) : Nat → Nat → Value
  | 0, _ => .nilIface
  | n + 1, k => if okAt l k = true then badV l n (k + 1) else .iface 208 (.agg #[.int .i64 (k : Int)])
noncomputable def errV (l : List Rgn) : Value := if 30 < l.length then .iface 208 (.agg #[.int .i64 30]) else badV l l.length 0
theorem bad_next {l : List Rgn} {k : Nat} {V : Value} (hk : k < l.length) (h : okAt l k = true) (H : badV l (l.length - k) k = V) : badV l (l.length - (k + 1)) (k + 1) = V := by
  rw [show l.length - k = (l.length - (k + 1)) + 1 by omega, badV, if_pos h] at H
  exact H
theorem bad_stop {l : List Rgn} {k : Nat} {V : Value} (hk : k < l.length) (h : okAt l k = false) (H : badV l (l.length - k) k = V) : V = .iface 208 (.agg #[.int .i64 (k : Int)]) := by
  rw [show l.length - k = (l.length - (k + 1)) + 1 by omega, badV, if_neg (by rw [h]; simp)] at H
  exact H.symm
theorem bad_end {l : List Rgn} {k : Nat} {V : Value} (hk : l.length ≤ k) (H : badV l (l.length - k) k = V) : V = .nilIface := by
  rw [show l.length - k = 0 by omega] at H
  exact H.symm
theorem errV_cases (l : List Rgn) : (reignsOk l = true ∧ errV l = .nilIface) ∨ (reignsOk l = false ∧ ∃ z : Int, errV l = .iface 208 (.agg #[.int .i64 z])) := by
  unfold errV
  by_cases hl : 30 < l.length
  · rw [if_pos hl]
    exact .inr ⟨ok_long hl, _, rfl⟩
  rw [if_neg hl]
  have go : ∀ n k, n + k = l.length → okTo l k = true → (reignsOk l = true ∧ badV l (l.length - k) k = .nilIface) ∨ (reignsOk l = false ∧ ∃ z : Int, badV l (l.length - k) k = .iface 208 (.agg #[.int .i64 z])) := by
    intro n
    induction n with
    | zero =>
      intro k hk ho
      obtain rfl : k = l.length := by omega
      refine .inl ⟨?_, bad_end (Nat.le_refl _) rfl⟩
      rw [ok_all ho]
      exact decide_eq_true (by omega)
    | succ n ih =>
      intro k hk ho
      cases h : okAt l k
      · exact .inr ⟨ok_bad h (by omega), _, bad_stop (by omega) h rfl⟩
      · have := ih (k + 1) (by omega) (okTo_next ho h)
        rw [bad_next (by omega) h rfl] at this
        exact this
  exact go l.length 0 (by omega) rfl
theorem behB_take {l : List Rgn} {i : Nat} (hi : i ≤ l.length) (f : Int) : behB (l.take i) f = (decide (i = 0) || decide ((rgA l (i - 1)).to < f)) := by
  unfold behB
  rw [show (l.take i).length = i by simp [hi]]
  by_cases h : i = 0
  · subst h; rfl
  · rw [rgA_take (by omega)]
set_option maxHeartbeats 1000000 in
theorem implBehind (v : Value) (la : List Rgn) (s : ByteArray) (f t : Int) (w : World) (h : RRow w v la) : Calls Tryz.prog 169 #[v, .agg #[.string s, .int .i64 f, .int .i64 t]] w fun e w' => e = .returned (.bool (behB la f)) ∧ Below w.heap.size w w' := by
  obtain ⟨W0, hW0, c0, c1, c2, hBl⟩ := rgn_box w s f t 123
  obtain ⟨a, cap, rfl, hl, hm, _, H⟩ := h
  have HW0 := hideP hW0
  have HBl := hideP hBl
  unfold maxLen at hm
  by_cases hz : la.length = 0
  · have HR : Hid (behB la f = true) := by unfold Hid behB; rw [decide_eq_true hz]; rfl
    clear H hW0 hBl
    rw [hz]
    go_enter Tryz.func169, Tryz.ntmps169
    go_wp2_with fail
    rw [← HW0.out]
    refine wp_region_later (W := W0) (Below.refl _ _) (by kernel_rfl) (by kernel_rfl) ?_
    repeat (go_big_quiet_step (fail))
    refine wpQuiet_nil ?_
    intro _ hw'
    obtain ⟨x, rfl⟩ := hw'
    go_wp2
    go_ret
    exact ⟨ret_bool HR.out.symm, HBl.out x⟩
  · obtain ⟨N, hN⟩ : ∃ N, la.length = N + 1 := ⟨la.length - 1, by omega⟩
    obtain ⟨g, rfl, hg, hr⟩ := H N (by omega)
    have e2 : ∀ x : Later W0, x.w.cell? ⟨g, N * 3 + 2, none⟩ = some (.int .i64 (rgA la N).to) := fun x => (hr.below (hBl x) hg).2.2
    have HR : Hid (behB la f = decide ((rgA la N).to < f)) := by unfold Hid behB; rw [decide_eq_false hz, hN]; rfl
    clear H hW0 hBl hr
    rw [hN] at hl ⊢
    generalize (rgA la N).to = T at *
    have hz1 : ((N : Int) + 1 == 0) = false := by simp; omega
    clear hN hz
    go_enter Tryz.func169, Tryz.ntmps169
    go_wp2_with fail
    rw [← HW0.out]
    refine wp_region_later (W := W0) (Below.refl _ _) (by kernel_rfl) (by kernel_rfl) ?_
    repeat (go_big_quiet_step (fail))
    refine wpQuiet_nil ?_
    intro _ hw'
    obtain ⟨x, rfl⟩ := hw'
    go_wp2
    go_ret
    exact ⟨ret_bool HR.out.symm, HBl.out x⟩
set_option maxHeartbeats 1000000 in
theorem implNamed (v : Value) (l : List Rgn) (s : ByteArray) (w : World) (h : RRow w v l) : Calls Tryz.prog 170 #[v, .string s] w fun e w' => e = .returned (.int .i64 (namedR l s)) ∧ Below w.heap.size w w' := by
  obtain ⟨a, c, rfl, hl, hm, _, H⟩ := h
  have K := hideP H
  unfold maxLen at hm
  clear H
  go_enter Tryz.func170, Tryz.ntmps170
  go_wp2
  go_loopw [9] (fun i wr => ∃ k : Nat, k ≤ l.length ∧ i = .int .i64 (k : Int) ∧ Hid (rfFrom (isNamed s) (l.drop k) k = namedR l s) ∧ Below w.heap.size w wr) (fun i _ => l.length - (intOf i).toNat)
  case atStart => exact ⟨0, Nat.zero_le _, rfl, rfl, Below.refl _ _⟩
  case round =>
    obtain ⟨k, hk, rfl, HF, hB⟩ := hrel
    have HB := hideP hB
    clear hB
    by_cases hlt : k < l.length
    · obtain ⟨g, rfl, hg, x⟩ := K.out k hlt
      obtain ⟨a0, a1, a2⟩ := x.below HB.out hg
      have K1 := hideP (fun h => rf_hit (p := isNamed s) hlt h HF.out)
      have K2 := hideP (fun h => rf_miss (p := isNamed s) hlt h HF.out)
      clear x
      generalize rgA l k = r at *
      cases hq : (r.name.toList == s.toList)
      · have HN := hideP (K2.out (decide_eq_false (str_ne hq)))
        go_wp2
        exact ⟨⟨k + 1, by omega, by go_num, HN.out, HB.out.alloc HB.out.size _⟩, by simp [intOf]; omega⟩
      · have HN := hideP (K1.out (decide_eq_true (str_eq hq)))
        go_wp2
        go_ret
        exact ⟨ret_int HN.out.symm, HB.out.alloc HB.out.size _⟩
    · have HN := hideP (rf_end (by omega) HF.out)
      go_wp2
      go_ret
      exact ⟨ret_int HN.out.symm, HB.out⟩
theorem okAt_parts (l : List Rgn) (i : Nat) : (rgnB (rgA l i) = false ∧ okAt l i = false) ∨ (rgnB (rgA l i) = true ∧ behB (l.take i) (rgA l i).fr = false ∧ okAt l i = false) ∨ (rgnB (rgA l i) = true ∧ behB (l.take i) (rgA l i).fr = true ∧ (∃ q : Nat, namedR (l.take i) (rgA l i).name = (q : Int)) ∧ okAt l i = false) ∨ (rgnB (rgA l i) = true ∧ behB (l.take i) (rgA l i).fr = true ∧ namedR (l.take i) (rgA l i).name = -1 ∧ okAt l i = true) := by
  unfold okAt
  cases h1 : rgnB (rgA l i)
  · exact .inl ⟨rfl, rfl⟩
  right
  cases h2 : behB (l.take i) (rgA l i).fr
  · exact .inl ⟨rfl, rfl, rfl⟩
  right
  rcases rf_cases (isNamed (rgA l i).name) (l.take i) with ⟨h, _⟩ | ⟨q, _, h, _⟩
  · exact .inr ⟨rfl, rfl, h, by unfold namedR; rw [h]; rfl⟩
  · exact .inl ⟨rfl, rfl, ⟨q, h⟩, by unfold namedR; rw [h, decide_eq_false (by omega)]; rfl⟩
set_option maxHeartbeats 2000000 in
theorem implCheck (v : Value) (l : List Rgn) (w : World) (h : RRow w v l) (hT : Tab w) : Calls Tryz.prog 140 #[v] w fun e w' => e = .returned (errV l) ∧ Below w.heap.size w w' := by
  have HH := hideP h
  obtain ⟨a, c, rfl, hl, hm, hn, H⟩ := h
  have K := hideP H
  have HN := hideP hn
  have HT := hideP hT
  unfold maxLen at hm
  clear H hn hT
  by_cases hlong : 30 < l.length
  · have HR : Hid (errV l = .iface 208 (.agg #[.int .i64 30])) := by unfold Hid errV; rw [if_pos hlong]
    go_enter Tryz.func140, Tryz.ntmps140
    go_wp2
    go_ret
    exact ⟨by rw [HR.out]; rfl, Below.refl _ _⟩
  have HE : Hid (badV l (l.length - 0) 0 = errV l) := by unfold Hid errV; rw [if_neg hlong]; rfl
  go_enter Tryz.func140, Tryz.ntmps140
  go_wp2
  go_loopw [12] (fun i wr => ∃ k : Nat, k ≤ l.length ∧ i = .int .i64 (k : Int) ∧ Hid (badV l (l.length - k) k = errV l) ∧ Below w.heap.size w wr) (fun i _ => l.length - (intOf i).toNat)
  case atStart => exact ⟨0, Nat.zero_le _, rfl, HE.out, Below.refl _ _⟩
  case round =>
    obtain ⟨k, hk, rfl, HF, hB⟩ := hrel
    have HB := hideP hB
    clear hB
    by_cases hlt : k < l.length
    · obtain ⟨g, rfl, hg, x⟩ := K.out k hlt
      obtain ⟨a0, a1, a2⟩ := x.below HB.out hg
      have hnk := HN.out k hlt
      obtain ⟨W0, hW0, c0, c1, c2, hBl⟩ := rgn_box wr (rgA l k).name (rgA l k).fr (rgA l k).to 123
      have hBw : ∀ y : Later W0, Below w.heap.size w y.w := fun y => HB.out.trans ((hBl y).mono HB.out.size)
      have KO : ∀ y : Later W0, Calls Tryz.prog 168 #[.agg #[.string (rgA l k).name, .int .i64 (rgA l k).fr, .int .i64 (rgA l k).to]] y.w fun e w' => e = .returned (.bool (rgnB (rgA l k))) ∧ Below y.w.heap.size y.w w' := fun y => implReignOk _ _ _ y.w hnk (HT.out.later (hBw y))
      have KB : ∀ y : Later W0, Calls Tryz.prog 169 #[.slice (some ⟨g, 0, none⟩) k c, .agg #[.string (rgA l k).name, .int .i64 (rgA l k).fr, .int .i64 (rgA l k).to]] y.w fun e w' => e = .returned (.bool (behB (l.take k) (rgA l k).fr)) ∧ Below y.w.heap.size y.w w' := fun y => implBehind _ _ _ _ _ y.w ((HH.out.below (hBw y)).take (by omega))
      have KN : ∀ y : Later W0, Calls Tryz.prog 170 #[.slice (some ⟨g, 0, none⟩) k c, .string (rgA l k).name] y.w fun e w' => e = .returned (.int .i64 (namedR (l.take k) (rgA l k).name)) ∧ Below y.w.heap.size y.w w' := fun y => implNamed _ _ _ y.w ((HH.out.below (hBw y)).take (by omega))
      have HP := hideP (okAt_parts l k)
      have J1 := hideP (fun h => bad_next hlt h HF.out)
      have J2 := hideP (fun h => bad_stop hlt h HF.out)
      have HW0 := hideP hW0
      have HBw := hideP hBw
      clear x hnk hW0 hBl hBw
      generalize behB (l.take k) (rgA l k).fr = q2 at *
      generalize namedR (l.take k) (rgA l k).name = q3 at *
      generalize rgnB (rgA l k) = q1 at *
      generalize rgA l k = r at *
      rcases HP.out with ⟨rfl, hf⟩ | ⟨rfl, rfl, hf⟩ | ⟨rfl, rfl, ⟨q, rfl⟩, hf⟩ | ⟨rfl, rfl, rfl, hf⟩
      · have HV := hideP (J2.out hf)
        clear hf
        go_wp2_with fail
        rw [← HW0.out]
        refine wp_region_later (W := W0) (Below.refl _ _) (by kernel_rfl) (by kernel_rfl) ?_
        repeat (go_big_quiet_step (first | (go_at_call 168; exact calls_later (KO _)) | fail))
        refine wpQuiet_nil ?_
        intro _ hw'
        obtain ⟨y, rfl⟩ := hw'
        go_wp2
        go_ret
        exact ⟨by rw [HV.out]; rfl, HBw.out y⟩
      · have HV := hideP (J2.out hf)
        clear hf
        go_wp2_with fail
        rw [← HW0.out]
        refine wp_region_later (W := W0) (Below.refl _ _) (by kernel_rfl) (by kernel_rfl) ?_
        repeat (go_big_quiet_step (first | (go_at_call 168; exact calls_later (KO _)) | (go_at_call 169; exact calls_later (KB _)) | fail))
        refine wpQuiet_nil ?_
        intro _ hw'
        obtain ⟨y, rfl⟩ := hw'
        go_wp2
        go_ret
        exact ⟨by rw [HV.out]; rfl, HBw.out y⟩
      · have HV := hideP (J2.out hf)
        have hq0 : (0 : Int) ≤ (q : Int) := by omega
        clear hf
        go_wp2_with fail
        rw [← HW0.out]
        refine wp_region_later (W := W0) (Below.refl _ _) (by kernel_rfl) (by kernel_rfl) ?_
        repeat (go_big_quiet_step (first | (go_at_call 168; exact calls_later (KO _)) | (go_at_call 169; exact calls_later (KB _)) | (go_at_call 170; exact calls_later (KN _)) | fail))
        refine wpQuiet_nil ?_
        intro _ hw'
        obtain ⟨y, rfl⟩ := hw'
        go_wp2
        go_ret
        exact ⟨by rw [HV.out]; rfl, HBw.out y⟩
      · have HV := hideP (J1.out hf)
        clear hf
        go_wp2_with fail
        rw [← HW0.out]
        refine wp_region_later (W := W0) (Below.refl _ _) (by kernel_rfl) (by kernel_rfl) ?_
        repeat (go_big_quiet_step (first | (go_at_call 168; exact calls_later (KO _)) | (go_at_call 169; exact calls_later (KB _)) | (go_at_call 170; exact calls_later (KN _)) | fail))
        refine wpQuiet_nil ?_
        intro _ hw'
        obtain ⟨y, rfl⟩ := hw'
        go_wp2
        exact ⟨⟨k + 1, by omega, by go_num, HV.out, HBw.out y⟩, by simp [intOf]; omega⟩
    · have HV := hideP (bad_end (by omega) HF.out)
      go_wp2
      go_ret
      exact ⟨by rw [HV.out]; rfl, HB.out⟩
set_option maxHeartbeats 1000000 in
theorem implReignsOk (v : Value) (l : List Rgn) (a : Addr) (w : World) (h : RRow w v l) (hT : Tab w) (hS : Sent w a) : Calls Tryz.prog 107 #[v] w fun e w' => e = .returned (.bool (reignsOk l)) ∧ Below w.heap.size w w' := by
  have KC : ∀ y : Later w, Calls Tryz.prog 140 #[v] y.w fun e w' => e = .returned (errV l) ∧ Below y.w.heap.size y.w w' := fun y => implCheck v l y.w (h.below y.below) (hT.later y.below)
  have KG : ∀ y : Later w, y.w.cell? ⟨0, 0, none⟩ = some (.iface 269 (.pointer (some a))) := fun y => hS.later y.below
  have KW : ∀ (z : Int) (y : Later w), Calls Tryz.prog 139 #[.iface 208 (.agg #[.int .i64 z]), .iface 269 (.pointer (some a))] y.w fun e w' => e = .returned (.bool true) ∧ Below y.w.heap.size y.w w' := fun z y => implIsWrong z a y.w (hS.later y.below)
  have HE := hideP (errV_cases l)
  clear h hT hS
  generalize errV l = E at *
  generalize reignsOk l = b at *
  rcases HE.out with ⟨rfl, rfl⟩ | ⟨rfl, z, rfl⟩
  · go_enter Tryz.func107, Tryz.ntmps107
    go_wp2_with fail
    refine wp_region_later (W := w) (Below.refl _ _) (by kernel_rfl) (by kernel_rfl) ?_
    repeat (go_big_quiet_step (first | (go_at_call 140; exact calls_later (KC _)) | (go_at_call 139; exact calls_later (implIsNil a _)) | fail))
    refine wpQuiet_nil ?_
    intro _ hw'
    obtain ⟨y, rfl⟩ := hw'
    go_wp2
    go_ret
    exact ⟨rfl, y.below⟩
  · go_enter Tryz.func107, Tryz.ntmps107
    go_wp2_with fail
    refine wp_region_later (W := w) (Below.refl _ _) (by kernel_rfl) (by kernel_rfl) ?_
    repeat (go_big_quiet_step (first | (go_at_call 140; exact calls_later (KC _)) | (go_at_call 139; exact calls_later (KW z _)) | fail))
    refine wpQuiet_nil ?_
    intro _ hw'
    obtain ⟨y, rfl⟩ := hw'
    go_wp2
    go_ret
    exact ⟨rfl, y.below⟩
end Go.Proofs.YtdgolaaheakfoaaGreatDoor.ctr
