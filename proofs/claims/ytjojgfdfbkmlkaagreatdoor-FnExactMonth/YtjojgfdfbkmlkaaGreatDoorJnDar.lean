/- Readings (a struct of five ints), and contracts of both Plain: the date of a reading's calendar, year, month and day, and whether there is one. Contracts of the year that holds a day: the model's l02Year and the program's yearHolding. Contract of the model's DateOf: it answers its plain function at every argument. -/
import Derived.Test.YtjojgfdfbkmlkaaGreatDoorJnDac
import Derived.Test.YtjojgfdfbkmlkaaGreatDoorJnDaq
import Derived.Test.YtjojgfdfbkmlkaaGreatDoorJnDaj
namespace Go.Proofs.YtjojgfdfbkmlkaaGreatDoor.ctr
open Go.RowKit
structure Rdg where
  cal : Int
  year : Int
  sol : Int
  mon : Int
  day : Int
deriving DecidableEq
abbrev rdgV (x : Rdg) : Value := .agg #[.int .i64 x.cal, .int .i64 x.year, .int .i64 x.sol, .int .i64 x.mon, .int .i64 x.day]
def plainR (c : Int) (x : Rdg) : Value := if dateOk c x.sol x.mon x.day = true then .tuple #[.agg #[.int .i64 c, .int .i64 x.sol, .int .i64 x.mon, .int .i64 x.day], .bool true] else .tuple #[.agg #[.int .i64 0, .int .i64 0, .int .i64 0, .int .i64 0], .bool false]
theorem box3 (w : World) (o : Obj) (u v : Array Value) (t s : TypeId) : ∃ W0, W0 = ((w.alloc o).alloc (.cells u t)).alloc (.cells v s) ∧ Hid (∀ x : Later W0, Blk x.w (w.heap.size + 1) u t) ∧ Hid (∀ x : Later W0, Blk x.w (w.heap.size + 2) v s) ∧ Hid (∀ x : Later W0, Below w.heap.size w x.w) := by
  refine ⟨_, rfl, fun x => ?_, fun x => ?_, fun x => ?_⟩
  · have h := Blk.new (w.alloc o) u t
    rw [World.size_alloc] at h
    exact (h.alloc _).later x
  · have h := Blk.new ((w.alloc o).alloc (.cells u t)) v s
    rw [World.size_alloc, World.size_alloc] at h
    exact h.later x
  · exact below_alloc (below_alloc (below_alloc x.below))
theorem box2 (w : World) (o : Obj) (u : Array Value) (t : TypeId) : ∃ W0, W0 = (w.alloc o).alloc (.cells u t) ∧ Hid (∀ x : Later W0, Blk x.w (w.heap.size + 1) u t) ∧ Hid (∀ x : Later W0, Below w.heap.size w x.w) := by
  refine ⟨_, rfl, fun x => ?_, fun x => ?_⟩
  · have h := Blk.new (w.alloc o) u t
    rw [World.size_alloc] at h
    exact h.later x
  · exact below_alloc (below_alloc x.below)
set_option maxHeartbeats 1000000 in
theorem implSolarDate (c : Int) (x : Rdg) (w : World) (hT : Tab w) : Calls Tryz.prog 184 #[.int .i64 c, rdgV x] w fun e w' => e = .returned (plainR c x) ∧ Below w.heap.size w w' := by
  obtain ⟨W0, hW0, H1, H2, HB⟩ := box3 w (.cells #[.int .i64 x.cal, .int .i64 x.year, .int .i64 x.sol, .int .i64 x.mon, .int .i64 x.day] 38) #[.int .i64 0, .int .i64 0, .int .i64 0, .int .i64 0] #[.int .i64 (c), .int .i64 x.sol, .int .i64 x.mon, .int .i64 x.day] 88 88
  have HW0 := hideP hW0
  have KO : Calls Tryz.prog 185 #[.agg #[.int .i64 c, .int .i64 x.sol, .int .i64 x.mon, .int .i64 x.day]] W0 fun e w' => e = .returned (.bool (dateOk c x.sol x.mon x.day)) ∧ Below W0.heap.size W0 w' := implDateOk c x.sol x.mon x.day W0 (hT.later (HB.out ⟨W0, Below.refl _ _⟩))
  have u0 : ∀ z : Later W0, z.w.cell? ⟨w.heap.size + 1, 0, none⟩ = some (.int .i64 0) := fun z => (H1.out z).cell 0 rfl
  have u1 : ∀ z : Later W0, z.w.cell? ⟨w.heap.size + 1, 1, none⟩ = some (.int .i64 0) := fun z => (H1.out z).cell 1 rfl
  have u2 : ∀ z : Later W0, z.w.cell? ⟨w.heap.size + 1, 2, none⟩ = some (.int .i64 0) := fun z => (H1.out z).cell 2 rfl
  have u3 : ∀ z : Later W0, z.w.cell? ⟨w.heap.size + 1, 3, none⟩ = some (.int .i64 0) := fun z => (H1.out z).cell 3 rfl
  have c0 : ∀ z : Later W0, z.w.cell? ⟨w.heap.size + 2, 0, none⟩ = some (.int .i64 c) := fun z => (H2.out z).cell 0 rfl
  have c1 : ∀ z : Later W0, z.w.cell? ⟨w.heap.size + 2, 1, none⟩ = some (.int .i64 x.sol) := fun z => (H2.out z).cell 1 rfl
  have c2 : ∀ z : Later W0, z.w.cell? ⟨w.heap.size + 2, 2, none⟩ = some (.int .i64 x.mon) := fun z => (H2.out z).cell 2 rfl
  have c3 : ∀ z : Later W0, z.w.cell? ⟨w.heap.size + 2, 3, none⟩ = some (.int .i64 x.day) := fun z => (H2.out z).cell 3 rfl
  have f0 : ∀ z : Later W0, z.w.frozen? ⟨w.heap.size + 1, 0, none⟩ = false := fun z => (H1.out z).thaw 0
  have f1 : ∀ z : Later W0, z.w.frozen? ⟨w.heap.size + 1, 1, none⟩ = false := fun z => (H1.out z).thaw 1
  have f2 : ∀ z : Later W0, z.w.frozen? ⟨w.heap.size + 1, 2, none⟩ = false := fun z => (H1.out z).thaw 2
  have f3 : ∀ z : Later W0, z.w.frozen? ⟨w.heap.size + 1, 3, none⟩ = false := fun z => (H1.out z).thaw 3
  clear hW0 hT
  unfold plainR
  generalize dateOk c x.sol x.mon x.day = b at *
  cases b
  · rw [if_neg (by simp)]
    go_enter Tryz.func184, Tryz.ntmps184
    go_wp2_with fail
    rw [← HW0.out]
    refine KO.mono ?_
    rintro e w1 ⟨rfl, hb⟩
    obtain ⟨x1, rfl⟩ := Later.of hb
    clear hb
    go_wp2
    obtain ⟨W9, e9⟩ : ∃ W9, W9 = (((x1.w.setCell ⟨w.heap.size + 1, 0, none⟩ (.int .i64 0)).setCell ⟨w.heap.size + 1, 1, none⟩ (.int .i64 0)).setCell ⟨w.heap.size + 1, 2, none⟩ (.int .i64 0)).setCell ⟨w.heap.size + 1, 3, none⟩ (.int .i64 0) := ⟨_, rfl⟩
    have Z9 : Blk W9 (w.heap.size + 1) #[.int .i64 0, .int .i64 0, .int .i64 0, .int .i64 0] 88 := by rw [e9]; exact (((((H1.out x1).set 0 _).set 1 _).set 2 _).set 3 _)
    have B9 : Below w.heap.size w W9 := by rw [e9]; exact (Below.setCell (Below.setCell (Below.setCell (Below.setCell (HB.out x1) (p := ⟨w.heap.size + 1, 0, none⟩) (show w.heap.size ≤ w.heap.size + 1 by omega) _) (p := ⟨w.heap.size + 1, 1, none⟩) (show w.heap.size ≤ w.heap.size + 1 by omega) _) (p := ⟨w.heap.size + 1, 2, none⟩) (show w.heap.size ≤ w.heap.size + 1 by omega) _) (p := ⟨w.heap.size + 1, 3, none⟩) (show w.heap.size ≤ w.heap.size + 1 by omega) _)
    rw [← e9]
    clear e9
    have q0 : W9.cell? ⟨w.heap.size + 1, 0, none⟩ = some (.int .i64 0) := Z9.cell 0 rfl
    have q1 : W9.cell? ⟨w.heap.size + 1, 1, none⟩ = some (.int .i64 0) := Z9.cell 1 rfl
    have q2 : W9.cell? ⟨w.heap.size + 1, 2, none⟩ = some (.int .i64 0) := Z9.cell 2 rfl
    have q3 : W9.cell? ⟨w.heap.size + 1, 3, none⟩ = some (.int .i64 0) := Z9.cell 3 rfl
    exact bodyPost_ret (by simp [results, Tryz.results184, go_sem, q0, q1, q2, q3]; try rfl) rfl ⟨rfl, B9⟩
  · rw [if_pos rfl]
    go_enter Tryz.func184, Tryz.ntmps184
    go_wp2_with fail
    rw [← HW0.out]
    refine KO.mono ?_
    rintro e w1 ⟨rfl, hb⟩
    obtain ⟨x1, rfl⟩ := Later.of hb
    clear hb
    go_wp2
    obtain ⟨W9, e9⟩ : ∃ W9, W9 = (((x1.w.setCell ⟨w.heap.size + 1, 0, none⟩ (.int .i64 c)).setCell ⟨w.heap.size + 1, 1, none⟩ (.int .i64 x.sol)).setCell ⟨w.heap.size + 1, 2, none⟩ (.int .i64 x.mon)).setCell ⟨w.heap.size + 1, 3, none⟩ (.int .i64 x.day) := ⟨_, rfl⟩
    have Z9 : Blk W9 (w.heap.size + 1) #[.int .i64 c, .int .i64 x.sol, .int .i64 x.mon, .int .i64 x.day] 88 := by rw [e9]; exact (((((H1.out x1).set 0 _).set 1 _).set 2 _).set 3 _)
    have B9 : Below w.heap.size w W9 := by rw [e9]; exact (Below.setCell (Below.setCell (Below.setCell (Below.setCell (HB.out x1) (p := ⟨w.heap.size + 1, 0, none⟩) (show w.heap.size ≤ w.heap.size + 1 by omega) _) (p := ⟨w.heap.size + 1, 1, none⟩) (show w.heap.size ≤ w.heap.size + 1 by omega) _) (p := ⟨w.heap.size + 1, 2, none⟩) (show w.heap.size ≤ w.heap.size + 1 by omega) _) (p := ⟨w.heap.size + 1, 3, none⟩) (show w.heap.size ≤ w.heap.size + 1 by omega) _)
    rw [← e9]
    clear e9
    have q0 : W9.cell? ⟨w.heap.size + 1, 0, none⟩ = some (.int .i64 c) := Z9.cell 0 rfl
    have q1 : W9.cell? ⟨w.heap.size + 1, 1, none⟩ = some (.int .i64 x.sol) := Z9.cell 1 rfl
    have q2 : W9.cell? ⟨w.heap.size + 1, 2, none⟩ = some (.int .i64 x.mon) := Z9.cell 2 rfl
    have q3 : W9.cell? ⟨w.heap.size + 1, 3, none⟩ = some (.int .i64 x.day) := Z9.cell 3 rfl
    exact bodyPost_ret (by simp [results, Tryz.results184, go_sem, q0, q1, q2, q3]; try rfl) rfl ⟨rfl, B9⟩
set_option maxHeartbeats 1000000 in
theorem implPlain (x : Rdg) (w : World) (hT : Tab w) : Calls Tryz.prog 124 #[rdgV x] w fun e w' => e = .returned (plainR x.cal x) ∧ Below w.heap.size w w' := by
  obtain ⟨W0, hW0, H1, HB⟩ := box2 w (.cells #[.int .i64 x.cal, .int .i64 x.year, .int .i64 x.sol, .int .i64 x.mon, .int .i64 x.day] 38) #[.int .i64 0, .int .i64 0, .int .i64 0, .int .i64 0] 88
  have HW0 := hideP hW0
  have KO : Calls Tryz.prog 184 #[.int .i64 x.cal, rdgV x] W0 fun e w' => e = .returned (plainR x.cal x) ∧ Below W0.heap.size W0 w' := implSolarDate x.cal x W0 (hT.later (HB.out ⟨W0, Below.refl _ _⟩))
  obtain ⟨a, b, m, d, ok, h⟩ : ∃ a b m d ok, plainR x.cal x = .tuple #[.agg #[.int .i64 a, .int .i64 b, .int .i64 m, .int .i64 d], .bool ok] := by
    unfold plainR
    split
    · exact ⟨_, _, _, _, _, rfl⟩
    · exact ⟨_, _, _, _, _, rfl⟩
  rw [h] at KO ⊢
  have u0 : ∀ z : Later W0, z.w.cell? ⟨w.heap.size + 1, 0, none⟩ = some (.int .i64 0) := fun z => (H1.out z).cell 0 rfl
  have u1 : ∀ z : Later W0, z.w.cell? ⟨w.heap.size + 1, 1, none⟩ = some (.int .i64 0) := fun z => (H1.out z).cell 1 rfl
  have u2 : ∀ z : Later W0, z.w.cell? ⟨w.heap.size + 1, 2, none⟩ = some (.int .i64 0) := fun z => (H1.out z).cell 2 rfl
  have u3 : ∀ z : Later W0, z.w.cell? ⟨w.heap.size + 1, 3, none⟩ = some (.int .i64 0) := fun z => (H1.out z).cell 3 rfl
  have f0 : ∀ z : Later W0, z.w.frozen? ⟨w.heap.size + 1, 0, none⟩ = false := fun z => (H1.out z).thaw 0
  have f1 : ∀ z : Later W0, z.w.frozen? ⟨w.heap.size + 1, 1, none⟩ = false := fun z => (H1.out z).thaw 1
  have f2 : ∀ z : Later W0, z.w.frozen? ⟨w.heap.size + 1, 2, none⟩ = false := fun z => (H1.out z).thaw 2
  have f3 : ∀ z : Later W0, z.w.frozen? ⟨w.heap.size + 1, 3, none⟩ = false := fun z => (H1.out z).thaw 3
  clear hW0 hT h
  go_enter Tryz.func124, Tryz.ntmps124
  go_wp2_with fail
  rw [← HW0.out]
  refine KO.mono ?_
  rintro e w1 ⟨rfl, hb⟩
  obtain ⟨x1, rfl⟩ := Later.of hb
  clear hb
  go_wp2
  obtain ⟨W9, e9⟩ : ∃ W9, W9 = (((x1.w.setCell ⟨w.heap.size + 1, 0, none⟩ (.int .i64 a)).setCell ⟨w.heap.size + 1, 1, none⟩ (.int .i64 b)).setCell ⟨w.heap.size + 1, 2, none⟩ (.int .i64 m)).setCell ⟨w.heap.size + 1, 3, none⟩ (.int .i64 d) := ⟨_, rfl⟩
  have Z9 : Blk W9 (w.heap.size + 1) #[.int .i64 a, .int .i64 b, .int .i64 m, .int .i64 d] 88 := by rw [e9]; exact (((((H1.out x1).set 0 _).set 1 _).set 2 _).set 3 _)
  have B9 : Below w.heap.size w W9 := by rw [e9]; exact (Below.setCell (Below.setCell (Below.setCell (Below.setCell (HB.out x1) (p := ⟨w.heap.size + 1, 0, none⟩) (show w.heap.size ≤ w.heap.size + 1 by omega) _) (p := ⟨w.heap.size + 1, 1, none⟩) (show w.heap.size ≤ w.heap.size + 1 by omega) _) (p := ⟨w.heap.size + 1, 2, none⟩) (show w.heap.size ≤ w.heap.size + 1 by omega) _) (p := ⟨w.heap.size + 1, 3, none⟩) (show w.heap.size ≤ w.heap.size + 1 by omega) _)
  rw [← e9]
  clear e9
  have q0 : W9.cell? ⟨w.heap.size + 1, 0, none⟩ = some (.int .i64 a) := Z9.cell 0 rfl
  have q1 : W9.cell? ⟨w.heap.size + 1, 1, none⟩ = some (.int .i64 b) := Z9.cell 1 rfl
  have q2 : W9.cell? ⟨w.heap.size + 1, 2, none⟩ = some (.int .i64 m) := Z9.cell 2 rfl
  have q3 : W9.cell? ⟨w.heap.size + 1, 3, none⟩ = some (.int .i64 d) := Z9.cell 3 rfl
  exact bodyPost_ret (by simp [results, Tryz.results124, go_sem, q0, q1, q2, q3]; try rfl) rfl ⟨rfl, B9⟩
end Go.Proofs.YtjojgfdfbkmlkaaGreatDoor.ctr
namespace Go.Proofs.YtjojgfdfbkmlkaaGreatDoor.ctr
open Go.RowKit
theorem year_low {c n : Int} (hc : c = 0 ∨ c = 1) (h1 : -1000 ≤ n) (h2 : n ≤ 1200000) : first c (n / 366) ≤ n ∧ -5 ≤ n / 366 ∧ n / 366 ≤ 3300 := by
  rcases hc with rfl | rfl
  · rw [first_jul]; omega
  · rw [first_gre]; omega
theorem year_top {c y n : Int} (hc : c = 0 ∨ c = 1) (h1 : first c y ≤ n) (h2 : n ≤ 1200000) : y ≤ 3300 := by
  rcases hc with rfl | rfl
  · rw [first_jul] at h1; omega
  · rw [first_gre] at h1; omega
theorem year_mean {c n q : Int} (hc : c = 0 ∨ c = 1) (h2 : n ≤ 1200000) (hq : q = (n * 400).tdiv 146097) (h1 : 1 ≤ q) : first c q ≤ n := by
  have hn : 0 ≤ n := by
    by_cases hn : 0 ≤ n
    · exact hn
    · have e := Int.neg_tdiv (n * 400) 146097
      have e2 : (-(n * 400)).tdiv 146097 = -(n * 400) / 146097 := Int.tdiv_eq_ediv_of_nonneg (by omega)
      omega
  have e : (n * 400).tdiv 146097 = n * 400 / 146097 := Int.tdiv_eq_ediv_of_nonneg (by omega)
  rw [e] at hq
  rcases hc with rfl | rfl
  · rw [first_jul]; omega
  · rw [first_gre]; omega
set_option maxHeartbeats 400000 in
theorem specYear (c n : Int) (w : World) (hc : c = 0 ∨ c = 1) (h1 : -1000 ≤ n) (h2 : n ≤ 1200000) : Calls Tryz.prog 176 #[.int .i64 c, .int .i64 n] w fun e w' => e = .returned (.int .i64 (yearOf c n)) ∧ w' = w ∧ first c (yearOf c n) ≤ n ∧ n < first c (yearOf c n + 1) ∧ -5 ≤ yearOf c n ∧ yearOf c n ≤ 3300 := by
  have HL := hideP (year_low hc h1 h2)
  have HC := hideP hc
  have KD : ∀ W, Calls Tryz.prog 233 #[.int .i64 n, .int .i64 366] W fun e w' => e = .returned (.int .i64 (n / 366)) ∧ w' = W := fun W => by rw [← floorDiv_small (by omega) (by omega) (by omega)]; exact specFloorDiv _ _ W
  obtain ⟨R, hR⟩ : ∃ R, R = yearOf c n := ⟨_, rfl⟩
  rw [← hR]
  have HR := hideP hR
  clear hR hc
  generalize n / 366 = q at *
  go_enter Tryz.func176, Tryz.ntmps176
  go_wp2_with (go_at_call 233; refine (KD _).mono ?_; rintro e w1 ⟨rfl, rfl⟩)
  rename_i w
  go_loop [5] (fun v => ∃ y : Int, v = .int .i64 y ∧ Hid (first c y ≤ n) ∧ -5 ≤ y ∧ y ≤ 3300) (fun v => (4000 - intOf v).toNat)
  case atStart => exact ⟨q, rfl, HL.out.1, HL.out.2.1, HL.out.2.2⟩
  case round =>
    obtain ⟨y, rfl, HY, y1, y2⟩ := hrel
    have KF : ∀ W, Calls Tryz.prog 174 #[.int .i64 c, .int .i64 (y + 1)] W fun e w' => e = .returned (.int .i64 (first c (y + 1))) ∧ w' = W := fun W => specFirst c (y + 1) W HC.out (by omega) (by omega)
    by_cases h : first c (y + 1) ≤ n
    · have ht := year_top HC.out h h2
      have HN := hideP h
      obtain ⟨F, eF⟩ : ∃ F, first c (y + 1) = F := ⟨_, rfl⟩
      rw [eF] at KF h
      clear eF
      go_wp2_with (go_at_call 174; refine (KF _).mono ?_; rintro e w1 ⟨rfl, rfl⟩)
      exact ⟨⟨y + 1, by go_num, HN, by omega, by omega⟩, by simp [intOf]; omega⟩
    · have HE : Hid (R = y) := by unfold Hid; rw [HR.out]; exact yearOf_eq HC.out HY.out (by omega)
      have HF : Hid (n < first c (y + 1)) := by unfold Hid; omega
      have h' : n < first c (y + 1) := by omega
      clear h
      obtain ⟨F, eF⟩ : ∃ F, first c (y + 1) = F := ⟨_, rfl⟩
      rw [eF] at KF h'
      clear eF
      go_wp2_with (go_at_call 174; refine (KF _).mono ?_; rintro e w1 ⟨rfl, rfl⟩)
      go_ret
      obtain rfl : R = y := HE.out
      exact ⟨rfl, rfl, HY.out, HF.out, y1, y2⟩
set_option maxHeartbeats 400000 in
theorem implYear (c n : Int) (w : World) (hc : c = 0 ∨ c = 1) (h1 : first c 1 ≤ n) (h2 : n ≤ 1200000) : Calls Tryz.prog 190 #[.iface (calT c) (.agg #[]), .int .i64 n] w fun e w' => e = .returned (.int .i64 (yearOf c n)) ∧ w' = w := by
  have hl : -1000 ≤ n := by
    rcases hc with rfl | rfl
    · rw [first_jul] at h1; omega
    · rw [first_gre] at h1; omega
  have HC := hideP hc
  have H1 := hideP h1
  obtain ⟨R, hR⟩ : ∃ R, R = yearOf c n := ⟨_, rfl⟩
  rw [← hR]
  have HR := hideP hR
  have KE : ∀ y : Int, Hid (-6 ≤ y ∧ y ≤ 3900) → ∀ W, Calls Tryz.prog 189 #[.iface (calT c) (.agg #[]), .int .i64 (y + 1)] W fun e w' => e = .returned (.int .i64 (first c (y + 1) - 1)) ∧ w' = W := fun y hy W => implEve c (y + 1) W HC.out (by have := hy.out; omega) (by have := hy.out; omega)
  obtain ⟨q, hq⟩ : ∃ q, q = (n * 400).tdiv 146097 := ⟨_, rfl⟩
  have HM : Hid (1 ≤ q → first c q ≤ n) := fun h => year_mean HC.out h2 hq h
  have HT : Hid (∀ y, first c y ≤ n → y ≤ 3300) := fun y h => year_top HC.out h h2
  generalize calT c = T at *
  clear hR hc h1
  by_cases hq1 : q < 1
  · go_enter Tryz.func190, Tryz.ntmps190
    go_wp2_with fail
    go_loop [5] (fun v => ∃ y : Int, v = .int .i64 y ∧ Hid (first c y ≤ n) ∧ 1 ≤ y ∧ y ≤ 3300) (fun v => (4000 - intOf v).toNat)
    case atStart => exact ⟨1, rfl, H1, by omega, by omega⟩
    case round =>
      obtain ⟨y, rfl, HY, y1, y2⟩ := hrel
      have KF := KE y (by unfold Hid; omega)
      by_cases h : first c (y + 1) ≤ n
      · have ht := HT.out _ h
        have HN := hideP h
        have b1 := first_bound HC.out (show -5 ≤ y + 1 by omega) (show y + 1 ≤ 4000 by omega)
        obtain ⟨F, eF⟩ : ∃ F, first c (y + 1) = F := ⟨_, rfl⟩
        rw [eF] at KF h b1
        clear eF
        go_wp2_with (go_at_call 189; refine (KF _).mono ?_; rintro e w1 ⟨rfl, rfl⟩)
        exact ⟨⟨y + 1, by go_num, HN, by omega, by omega⟩, by simp [intOf]; omega⟩
      · have HE : Hid (R = y) := by unfold Hid; rw [HR.out]; exact yearOf_eq HC.out HY.out (by omega)
        have b1 := first_bound HC.out (show -5 ≤ y + 1 by omega) (show y + 1 ≤ 4000 by omega)
        obtain ⟨F, eF⟩ : ∃ F, first c (y + 1) = F := ⟨_, rfl⟩
        rw [eF] at KF h b1
        clear eF
        go_wp2_with (go_at_call 189; refine (KF _).mono ?_; rintro e w1 ⟨rfl, rfl⟩)
        go_ret
        exact ⟨ret_int HE.out.symm, rfl⟩
  · have hb : 1 ≤ q ∧ q ≤ 3300 := ⟨by omega, HT.out _ (HM.out (by omega))⟩
    go_enter Tryz.func190, Tryz.ntmps190
    go_wp2_with fail
    go_loop [5] (fun v => ∃ y : Int, v = .int .i64 y ∧ Hid (first c y ≤ n) ∧ 1 ≤ y ∧ y ≤ 3300) (fun v => (4000 - intOf v).toNat)
    case atStart => exact ⟨q, by rw [hq], HM.out hb.1, hb.1, hb.2⟩
    case round =>
      obtain ⟨y, rfl, HY, y1, y2⟩ := hrel
      have KF := KE y (by unfold Hid; omega)
      by_cases h : first c (y + 1) ≤ n
      · have ht := HT.out _ h
        have HN := hideP h
        have b1 := first_bound HC.out (show -5 ≤ y + 1 by omega) (show y + 1 ≤ 4000 by omega)
        obtain ⟨F, eF⟩ : ∃ F, first c (y + 1) = F := ⟨_, rfl⟩
        rw [eF] at KF h b1
        clear eF
        go_wp2_with (go_at_call 189; refine (KF _).mono ?_; rintro e w1 ⟨rfl, rfl⟩)
        exact ⟨⟨y + 1, by go_num, HN, by omega, by omega⟩, by simp [intOf]; omega⟩
      · have HE : Hid (R = y) := by unfold Hid; rw [HR.out]; exact yearOf_eq HC.out HY.out (by omega)
        have b1 := first_bound HC.out (show -5 ≤ y + 1 by omega) (show y + 1 ≤ 4000 by omega)
        obtain ⟨F, eF⟩ : ∃ F, first c (y + 1) = F := ⟨_, rfl⟩
        rw [eF] at KF h b1
        clear eF
        go_wp2_with (go_at_call 189; refine (KF _).mono ?_; rintro e w1 ⟨rfl, rfl⟩)
        go_ret
        exact ⟨ret_int HE.out.symm, rfl⟩
end Go.Proofs.YtjojgfdfbkmlkaaGreatDoor.ctr
namespace Go.Proofs.YtjojgfdfbkmlkaaGreatDoor.ctr
open Go.RowKit
abbrev z4 : Array Value := #[.int .i64 0, .int .i64 0, .int .i64 0, .int .i64 0]
theorem dateOf_no {c n : Int} (h : ¬ ((c = 0 ∨ c = 1) ∧ 1 ≤ yearOf c n ∧ yearOf c n ≤ 3000 ∧ -1000 ≤ n ∧ n ≤ 1200000)) : dateOf c n = (0, 0, 0, 0, false) := by unfold dateOf; rw [if_neg h]
theorem dateOf_yes {c n y : Int} {k : Nat} (hc : c = 0 ∨ c = 1) (h1 : -1000 ≤ n) (h2 : n ≤ 1200000) (hy : yearOf c n = y) (hk : monthOf c y (n - first c y) = k) (y1 : 1 ≤ y) (y2 : y ≤ 3000) : dateOf c n = (c, y, (k : Int) + 1, n - first c y - before c y k + 1, true) := by
  unfold dateOf
  rw [hy, hk, if_pos ⟨hc, y1, y2, h1, h2⟩]
noncomputable def dateR (c n : Int) : Value := .tuple #[.agg #[.int .i64 (dateOf c n).1, .int .i64 (dateOf c n).2.1, .int .i64 (dateOf c n).2.2.1, .int .i64 (dateOf c n).2.2.2.1], .bool (dateOf c n).2.2.2.2]
theorem dateR_no {c n : Int} (h : dateOf c n = (0, 0, 0, 0, false)) : dateR c n = .tuple #[.agg z4, .bool false] := by unfold dateR; rw [h]
theorem dateR_yes {c n y m d : Int} (h : dateOf c n = (c, y, m, d, true)) : dateR c n = .tuple #[.agg #[.int .i64 c, .int .i64 y, .int .i64 m, .int .i64 d], .bool true] := by unfold dateR; rw [h]
set_option maxHeartbeats 1000000 in
theorem specDateOf (c n : Int) (w : World) : Calls Tryz.prog 111 #[.int .i64 c, .int .i64 n] w fun e w' => e = .returned (dateR c n) ∧ Below w.heap.size w w' := by
  by_cases hc : c = 0 ∨ c = 1
  case neg =>
    rw [dateR_no (dateOf_no (fun h => hc h.1))]
    have KC := fun W => specCal c W
    rw [calB_no hc] at KC
    clear hc
    go_enter Tryz.func111, Tryz.ntmps111
    go_wp2_with (go_at_call 114; refine (KC _).mono ?_; rintro e w1 ⟨rfl, rfl⟩)
    go_returns
    refine ⟨rfl, ?_⟩
    go_grown
  have KC := fun W => specCal c W
  rw [calB_iff.2 hc] at KC
  have KI := fun W => l01In n (-1000) 1200000 W
  by_cases hn : -1000 ≤ n ∧ n ≤ 1200000
  case neg =>
    rw [dateR_no (dateOf_no (fun h => hn h.2.2.2))]
    rw [inB_false (by omega)] at KI
    clear hc hn
    go_enter Tryz.func111, Tryz.ntmps111
    go_wp2_with (first | (go_at_call 114; refine (KC _).mono ?_; rintro e w1 ⟨rfl, rfl⟩) | (go_at_call 96; refine (KI _).mono ?_; rintro e w1 ⟨rfl, rfl⟩))
    go_returns
    refine ⟨rfl, ?_⟩
    go_grown
  obtain ⟨h1, h2⟩ := hn
  rw [inB_true h1 h2] at KI
  have KY := fun W => specYear c n W hc h1 h2
  obtain ⟨y, hy⟩ : ∃ y, yearOf c n = y := ⟨_, rfl⟩
  rw [hy] at KY
  have KF := fun a b W => specFirst c y W hc a b
  obtain ⟨F, hF⟩ : ∃ F, first c y = F := ⟨_, rfl⟩
  have hs := first_step hc y
  rw [hF] at KF hs
  obtain ⟨V, hV⟩ : ∃ V, dateR c n = V := ⟨_, rfl⟩
  rw [hV]
  have HH : Hid ((c = 0 ∨ c = 1) ∧ yearOf c n = y ∧ first c y = F ∧ first c (y + 1) = F + before c y 12 ∧ dateR c n = V) := ⟨hc, hy, hF, hs, hV⟩
  have hb0 := fun (hh : -5 ≤ y) (hh2 : y ≤ 3300) => first_bound hc hh (show y ≤ 4000 by omega)
  rw [hF] at hb0
  clear hc hy hF hs hV
  go_enter Tryz.func111, Tryz.ntmps111
  go_wp2_with (first | (go_at_call 114; refine (KC _).mono ?_; rintro e w1 ⟨rfl, rfl⟩) | (go_at_call 96; refine (KI _).mono ?_; rintro e w1 ⟨rfl, rfl⟩) | (go_at_call 176; refine (KY _).mono ?_; rintro e w1 ⟨rfl, rfl, q1, q2, q3, q4⟩; have b0 := hb0 q3 q4; rw [HH.out.2.2.1] at q1; rw [HH.out.2.2.2.1] at q2; have Q2 := hideP q2; clear q2) | (go_at_call 174; refine (KF (by omega) (by omega) _).mono ?_; rintro e w1 ⟨rfl, rfl⟩))
  go_loopw [7] (fun v wr => ∃ k : Nat, k < 12 ∧ v = .int .i64 (n - F - before c y k) ∧ before c y k ≤ n - F ∧ Below w.heap.size w wr ∧ Blk wr w.heap.size z4 88 ∧ Blk wr (w.heap.size + 1) #[.int .i64 c, .int .i64 y, .int .i64 ((k : Int) + 1), .int .i64 0] 88) (fun v _ => (intOf v).toNat)
  case atStart =>
    refine ⟨0, by omega, by simp [before], by simp [before]; omega, ?_, ?_, ?_⟩
    · exact ((Below.refl _ _).alloc (Nat.le_refl _) _).alloc (by rw [World.size_alloc]; omega) _
    · exact (Blk.new w _ _).alloc _
    · have := Blk.new (w.alloc (.cells z4 88)) #[.int .i64 c, .int .i64 y, .int .i64 (((0 : Nat) : Int) + 1), .int .i64 0] 88
      rw [World.size_alloc] at this
      exact this
  case round =>
    obtain ⟨k, hk, rfl, hle, hb, hz, hd⟩ := hrel
    have c1 : ∀ x : Later wr, x.w.cell? ⟨w.heap.size + 1, 1, none⟩ = some (.int .i64 y) := fun x => (hd.later x).cell 1 rfl
    have c2 : ∀ x : Later wr, x.w.cell? ⟨w.heap.size + 1, 2, none⟩ = some (.int .i64 ((k : Int) + 1)) := fun x => (hd.later x).cell 2 rfl
    have c0 : ∀ x : Later wr, x.w.cell? ⟨w.heap.size + 1, 0, none⟩ = some (.int .i64 c) := fun x => (hd.later x).cell 0 rfl
    have c3 : ∀ x : Later wr, x.w.cell? ⟨w.heap.size + 1, 3, none⟩ = some (.int .i64 0) := fun x => (hd.later x).cell 3 rfl
    have f3 : ∀ x : Later wr, x.w.frozen? ⟨w.heap.size + 1, 3, none⟩ = false := fun x => (hd.later x).thaw 3
    have c10 := hd.cell 1 rfl
    have c20 := hd.cell 2 rfl
    have f2 : ∀ x : Later wr, x.w.frozen? ⟨w.heap.size + 1, 2, none⟩ = false := fun x => (hd.later x).thaw 2
    have KM : ∀ W, Calls Tryz.prog 115 #[.int .i64 c, .int .i64 y, .int .i64 ((k : Int) + 1)] W fun e w' => e = .returned (.int .i64 (monthDays c y ((k : Int) + 1))) ∧ Below W.heap.size W w' := specMonthDays c y _
    have b1 := before_bound c y k
    have b2 := monthDays_le c y ((k : Int) + 1)
    have b3 := monthDays_ge (y := y) HH.out.1 (show 1 ≤ (k : Int) + 1 by omega) (show (k : Int) + 1 ≤ 12 by omega)
    have HN := hideP (before_next c y k)
    have HD := hideP hd
    have HZ := hideP hz
    have HB := hideP hb
    clear hd hz hb
    obtain ⟨md, em⟩ : ∃ md, monthDays c y ((k : Int) + 1) = md := ⟨_, rfl⟩
    rw [em] at KM b2 b3 HN
    have HE := hideP em
    clear em
    obtain ⟨B, eB⟩ : ∃ B, before c y k = B := ⟨_, rfl⟩
    have HBk := hideP eB
    rw [eB] at HN b1 hle
    rw [eB]
    clear eB
    by_cases hge : md ≤ n - F - B
    · go_wp2_with fail
      refine (KM _).mono ?_
      rintro e w1 ⟨rfl, hb1⟩
      obtain ⟨x1, rfl⟩ := Later.of hb1
      clear hb1
      go_wp2_with fail
      refine (KM _).mono ?_
      rintro e w1 ⟨rfl, hb1⟩
      obtain ⟨x2, rfl⟩ := x1.next hb1
      clear hb1
      go_wp2_with fail
      refine ⟨⟨k + 1, ?_, ?_, ?_, below_store (HB.out.trans (x2.below.mono HB.out.size)) _ (by omega), ((HZ.out.later x2).other (by omega)), ?_⟩, ?_⟩
      · by_cases hq : k + 1 < 12
        · exact hq
        · obtain rfl : k = 11 := by omega
          have := HN.out
          have := Q2.out
          simp only [Nat.reduceAdd] at *
          omega
      · exact congrArg (Value.int .i64) (by rw [HN.out]; omega)
      · rw [HN.out]; omega
      · rw [show ((k + 1 : Nat) : Int) + 1 = (k : Int) + 1 + 1 by omega]
        exact (HD.out.later x2).set 2 _
      · simp [intOf]; omega
    · go_wp2_with fail
      refine (KM _).mono ?_
      rintro e w1 ⟨rfl, hb1⟩
      obtain ⟨x1, rfl⟩ := Later.of hb1
      clear hb1
      go_wp2_with fail
      obtain ⟨W3, e3⟩ : ∃ W3, W3 = x1.w.setCell ⟨w.heap.size + 1, 3, none⟩ (.int .i64 (n - F - B + 1)) := ⟨_, rfl⟩
      have D3 : Blk W3 (w.heap.size + 1) #[.int .i64 c, .int .i64 y, .int .i64 ((k : Int) + 1), .int .i64 (n - F - B + 1)] 88 := by rw [e3]; exact (HD.out.later x1).set 3 _
      have Z3 : Blk W3 w.heap.size z4 88 := by rw [e3]; exact (HZ.out.later x1).other (by omega)
      have B3 : Below w.heap.size w W3 := by rw [e3]; exact below_store (HB.out.trans (x1.below.mono HB.out.size)) _ (by omega)
      rw [← e3]
      have HB3 := hideP B3
      have HZ3 := hideP Z3
      clear e3 c0 c1 c2 c3 c10 c20 f2 f3
      have c0 : ∀ x : Later W3, x.w.cell? ⟨w.heap.size + 1, 0, none⟩ = some (.int .i64 c) := fun x => (D3.later x).cell 0 rfl
      have c1 : ∀ x : Later W3, x.w.cell? ⟨w.heap.size + 1, 1, none⟩ = some (.int .i64 y) := fun x => (D3.later x).cell 1 rfl
      have c2 : ∀ x : Later W3, x.w.cell? ⟨w.heap.size + 1, 2, none⟩ = some (.int .i64 ((k : Int) + 1)) := fun x => (D3.later x).cell 2 rfl
      have c3 : ∀ x : Later W3, x.w.cell? ⟨w.heap.size + 1, 3, none⟩ = some (.int .i64 (n - F - B + 1)) := fun x => (D3.later x).cell 3 rfl
      have g0 : ∀ x : Later W3, x.w.cell? ⟨w.heap.size, 0, none⟩ = some (.int .i64 0) := fun x => (Z3.later x).cell 0 rfl
      have f0 : ∀ x : Later W3, x.w.frozen? ⟨w.heap.size, 0, none⟩ = false := fun x => (Z3.later x).thaw 0
      have g1 : ∀ x : Later W3, x.w.cell? ⟨w.heap.size, 1, none⟩ = some (.int .i64 0) := fun x => (Z3.later x).cell 1 rfl
      have f1 : ∀ x : Later W3, x.w.frozen? ⟨w.heap.size, 1, none⟩ = false := fun x => (Z3.later x).thaw 1
      have g2 : ∀ x : Later W3, x.w.cell? ⟨w.heap.size, 2, none⟩ = some (.int .i64 0) := fun x => (Z3.later x).cell 2 rfl
      have f2 : ∀ x : Later W3, x.w.frozen? ⟨w.heap.size, 2, none⟩ = false := fun x => (Z3.later x).thaw 2
      have g3 : ∀ x : Later W3, x.w.cell? ⟨w.heap.size, 3, none⟩ = some (.int .i64 0) := fun x => (Z3.later x).cell 3 rfl
      have f3 : ∀ x : Later W3, x.w.frozen? ⟨w.heap.size, 3, none⟩ = false := fun x => (Z3.later x).thaw 3
      have hmon : monthOf c y (n - first c y) = k := by rw [HH.out.2.2.1]; exact monthOf_eq (by rw [HBk.out]; exact hle) (by rw [HN.out]; omega)
      have K0 := specDateOk c y ((k : Int) + 1) (n - F - B + 1) W3
      by_cases hyr : 1 ≤ y ∧ y ≤ 3000
      · have hp : dateP c y ((k : Int) + 1) (n - F - B + 1) := ⟨HH.out.1, hyr.1, hyr.2, by omega, by rw [HE.out]; omega⟩
        rw [dateOk_true hp] at K0
        have eV := dateR_yes (dateOf_yes HH.out.1 h1 h2 HH.out.2.1 hmon hyr.1 hyr.2)
        rw [HH.out.2.2.1, HBk.out, HH.out.2.2.2.2] at eV
        have HV := hideP eV
        clear eV hp hmon hyr D3 Z3 B3
        refine K0.mono ?_
        rintro e w1 ⟨rfl, hb1⟩
        obtain ⟨x4, rfl⟩ := Later.of hb1
        clear hb1 K0
        go_wp2_with fail
        obtain ⟨W5, e5⟩ : ∃ W5, W5 = ((((x4.w.setCell ⟨w.heap.size, 0, none⟩ (.int .i64 c)).setCell ⟨w.heap.size, 1, none⟩ (.int .i64 y)).setCell ⟨w.heap.size, 2, none⟩ (.int .i64 ((k : Int) + 1))).setCell ⟨w.heap.size, 3, none⟩ (.int .i64 (n - F - B + 1))) := ⟨_, rfl⟩
        have Z5 : Blk W5 w.heap.size #[.int .i64 c, .int .i64 y, .int .i64 ((k : Int) + 1), .int .i64 (n - F - B + 1)] 88 := by rw [e5]; exact ((((HZ3.out.later x4).set 0 _).set 1 _).set 2 _).set 3 _
        have B5 : Below w.heap.size w W5 := by
          rw [e5]
          have hw := HB3.out.trans (x4.below.mono HB3.out.size)
          exact below_store (below_store (below_store (below_store hw _ (Nat.le_refl _)) _ (Nat.le_refl _)) _ (Nat.le_refl _)) _ (Nat.le_refl _)
        rw [← e5]
        clear e5
        have r0 : W5.cell? ⟨w.heap.size, 0, none⟩ = some (.int .i64 c) := Z5.cell 0 rfl
        have r1 : W5.cell? ⟨w.heap.size, 1, none⟩ = some (.int .i64 y) := Z5.cell 1 rfl
        have r2 : W5.cell? ⟨w.heap.size, 2, none⟩ = some (.int .i64 ((k : Int) + 1)) := Z5.cell 2 rfl
        have r3 : W5.cell? ⟨w.heap.size, 3, none⟩ = some (.int .i64 (n - F - B + 1)) := Z5.cell 3 rfl
        refine bodyPost_ret (by simp [results, Tryz.results111, go_sem, r0, r1, r2, r3]; try rfl) rfl ?_
        exact ⟨by rw [HV.out], B5⟩
      · have hp : ¬ dateP c y ((k : Int) + 1) (n - F - B + 1) := fun h => hyr ⟨h.2.1, h.2.2.1⟩
        rw [dateOk_false hp] at K0
        have eV : V = .tuple #[.agg z4, .bool false] := by rw [← HH.out.2.2.2.2]; exact dateR_no (dateOf_no (fun h => hyr ⟨HH.out.2.1 ▸ h.2.1, HH.out.2.1 ▸ h.2.2.1⟩))
        have HV := hideP eV
        clear eV hp hmon hyr D3 Z3 B3
        refine K0.mono ?_
        rintro e w1 ⟨rfl, hb1⟩
        obtain ⟨x4, rfl⟩ := Later.of hb1
        clear hb1 K0
        go_wp2_with fail
        obtain ⟨W5, e5⟩ : ∃ W5, W5 = ((((x4.w.setCell ⟨w.heap.size, 0, none⟩ (.int .i64 0)).setCell ⟨w.heap.size, 1, none⟩ (.int .i64 0)).setCell ⟨w.heap.size, 2, none⟩ (.int .i64 0)).setCell ⟨w.heap.size, 3, none⟩ (.int .i64 0)) := ⟨_, rfl⟩
        have Z5 : Blk W5 w.heap.size #[.int .i64 0, .int .i64 0, .int .i64 0, .int .i64 0] 88 := by rw [e5]; exact ((((HZ3.out.later x4).set 0 _).set 1 _).set 2 _).set 3 _
        have B5 : Below w.heap.size w W5 := by
          rw [e5]
          have hw := HB3.out.trans (x4.below.mono HB3.out.size)
          exact below_store (below_store (below_store (below_store hw _ (Nat.le_refl _)) _ (Nat.le_refl _)) _ (Nat.le_refl _)) _ (Nat.le_refl _)
        rw [← e5]
        clear e5
        have r0 : W5.cell? ⟨w.heap.size, 0, none⟩ = some (.int .i64 0) := Z5.cell 0 rfl
        have r1 : W5.cell? ⟨w.heap.size, 1, none⟩ = some (.int .i64 0) := Z5.cell 1 rfl
        have r2 : W5.cell? ⟨w.heap.size, 2, none⟩ = some (.int .i64 0) := Z5.cell 2 rfl
        have r3 : W5.cell? ⟨w.heap.size, 3, none⟩ = some (.int .i64 0) := Z5.cell 3 rfl
        refine bodyPost_ret (by simp [results, Tryz.results111, go_sem, r0, r1, r2, r3]; try rfl) rfl ?_
        exact ⟨by rw [HV.out], B5⟩
end Go.Proofs.YtjojgfdfbkmlkaaGreatDoor.ctr
