/- The walk of the law FnSolar: for every []byte it returns true and turns nothing that was there, where the listed table holds what it lists. -/
import Derived.Test.YtckjcaloofjeoaaDoorSolDraw
import Derived.Test.YtckjcaloofjeoaaDoorSolBack
namespace Go.Proofs.YtckjcaloofjeoaaDoor.ctr
open Go.RowKit Go.ChangeShapes

theorem sol_on {V P w1 : World} (h : Below V.heap.size V P) (hb : Below P.heap.size P w1) : Below V.heap.size V w1 := h.trans (hb.mono h.size)
theorem sol_al {V P : World} (h : Below V.heap.size V P) (o : Obj) : Below V.heap.size V (P.alloc o) := h.alloc h.size o
theorem Blk.onS {P w1 : World} {b : Nat} {vs : Array Value} {t : TypeId} (h : Blk P b vs t) (hb : Below P.heap.size P w1) : Blk w1 b vs t := h.below hb h.lt
theorem dateR_of (c n : Int) : ∃ a y m d ok, dateOf c n = (a, y, m, d, ok) ∧ dateR c n = .tuple #[.agg #[.int .i64 a, .int .i64 y, .int .i64 m, .int .i64 d], .bool ok] := ⟨_, _, _, _, _, rfl, rfl⟩
theorem date_day {c n a y m d : Int} (h : dateOf c n = (a, y, m, d, true)) : -2800 ≤ n ∧ n ≤ 1500000 := by
  obtain ⟨rfl, _, h2⟩ := date_back h
  rw [← h2]
  exact dayOf_bound _ _ _ _

set_option maxRecDepth 100000 in
set_option maxHeartbeats 20000000 in
theorem solarWalk (a0 : Option Addr) (len0 cap0 : Nat) (z0 : List Int) (w : World) (w0 : kit.IsRow .u8 w a0 len0 cap0 z0) (t0 : Tab w) :
    Calls Tryd.prog 3 #[.slice a0 len0 cap0] w fun e w' => e = .returned (.bool true) ∧ Below w.heap.size w w' := by
  obtain ⟨hcode, hlen⟩ := code_of w0
  have HT : Hid (∀ W', Below w.heap.size w W' → Tab W') := fun W' hb => t0.later hb
  have KC : Hid (∀ W', Below w.heap.size w W' → CodeAt W'.heap.size W' a0 len0) := fun W' hb => CodeAt.up hcode hb
  clear t0 hcode w0
  by_cases hbig : (1048576 : Int) < (len0 : Int)
  · have hbd : decide ((1048576 : Int) < (len0 : Int)) = true := by simp; omega
    go_enter Tryd.func3, Tryd.ntmps3
    go_wp2_with fail
    refine (big_ _ _ _ _).mono ?_
    rintro e w' ⟨rfl, rfl⟩
    go_wp2_with fail
    go_ret
    exact ⟨rfl, Below.refl _ _⟩
  have hbd : decide ((1048576 : Int) < (len0 : Int)) = false := by simp; omega
  go_enter Tryd.func3, Tryd.ntmps3
  go_wp2_with fail
  refine (big_ _ _ _ _).mono ?_
  rintro e w' ⟨rfl, hw'⟩
  rw [hw']
  clear hw' w'
  go_wp2_with fail
  refine (drawDateOk _ a0 len0 cap0 hlen (KC.out _ (Below.refl _ _))).mono ?_
  rintro e W1 ⟨c1, y1, m1, d1, rfl, hb⟩
  have B1 := hideP (sol_al hb (.cells #[.int .i64 c1, .int .i64 y1, .int .i64 m1, .int .i64 d1] 25))
  have X1 : Hid (Blk (W1.alloc (.cells #[.int .i64 c1, .int .i64 y1, .int .i64 m1, .int .i64 d1] 25)) W1.heap.size #[.int .i64 c1, .int .i64 y1, .int .i64 m1, .int .i64 d1] 25) := Blk.new W1 _ _
  clear hb
  go_wp2_with fail
  refine (drawDayOf _ a0 len0 cap0 hlen (KC.out _ B1.out)).mono ?_
  rintro e W2 ⟨c2, y2, m2, d2, rfl, hb⟩
  have X2 := hideP ((X1.out.onS hb).alloc (.cells #[.int .i64 c2, .int .i64 y2, .int .i64 m2, .int .i64 d2] 25))
  have B2 := hideP (sol_al (sol_on B1.out hb) (.cells #[.int .i64 c2, .int .i64 y2, .int .i64 m2, .int .i64 d2] 25))
  have Y2 : Hid (Blk (W2.alloc (.cells #[.int .i64 c2, .int .i64 y2, .int .i64 m2, .int .i64 d2] 25)) W2.heap.size #[.int .i64 c2, .int .i64 y2, .int .i64 m2, .int .i64 d2] 25) := Blk.new W2 _ _
  clear hb X1 B1
  obtain ⟨n, hn⟩ : ∃ n, n = dayOf c2 y2 m2 d2 := ⟨_, rfl⟩
  have HN := hideP hn
  have KN := implDayOf c2 y2 m2 d2 _ (HT.out _ B2.out)
  rw [← hn] at KN
  clear hn
  go_wp2_with fail
  refine KN.mono ?_
  rintro e W3 ⟨rfl, hb⟩
  have B3 := hideP (sol_on B2.out hb)
  have X3 := hideP (X2.out.onS hb)
  have Y3 := hideP (Y2.out.onS hb)
  clear hb KN X2 Y2 B2
  go_wp2_with fail
  refine (drawDateOf _ a0 len0 cap0 hlen (KC.out _ B3.out)).mono ?_
  rintro e W4 ⟨cal, k, rfl, hk, hb⟩
  have HK := hideP hk
  have B4 := hideP (sol_on B3.out hb)
  have X4 := hideP (X3.out.onS hb)
  have Y4 := hideP (Y3.out.onS hb)
  clear hb hk X3 Y3 B3
  obtain ⟨c3, y3, m3, d3, ok, hD, hR⟩ := dateR_of cal k
  have HD := hideP hD
  have KI := implDateOf cal k _ (HT.out _ B4.out)
  rw [hR] at KI
  clear hD
  go_wp2_with fail
  refine KI.mono ?_
  rintro e W5 ⟨rfl, hb⟩
  have B5 := hideP (sol_al (sol_on B4.out hb) (.cells #[.int .i64 c3, .int .i64 y3, .int .i64 m3, .int .i64 d3] 25))
  have X5 := hideP ((X4.out.onS hb).alloc (.cells #[.int .i64 c3, .int .i64 y3, .int .i64 m3, .int .i64 d3] 25))
  have Y5 := hideP ((Y4.out.onS hb).alloc (.cells #[.int .i64 c3, .int .i64 y3, .int .i64 m3, .int .i64 d3] 25))
  have Z5 : Hid (Blk (W5.alloc (.cells #[.int .i64 c3, .int .i64 y3, .int .i64 m3, .int .i64 d3] 25)) W5.heap.size #[.int .i64 c3, .int .i64 y3, .int .i64 m3, .int .i64 d3] 25) := Blk.new W5 _ _
  clear hb X4 Y4 B4 KI
  have KI := fun W => specDateOf cal k W
  rw [hR] at KI
  clear hR
  go_wp2_with fail
  refine (KI _).mono ?_
  rintro e W6 ⟨rfl, hb⟩
  have B6 := hideP (sol_al (sol_on B5.out hb) (.cells #[.int .i64 c3, .int .i64 y3, .int .i64 m3, .int .i64 d3] 25))
  have X6 := hideP ((X5.out.onS hb).alloc (.cells #[.int .i64 c3, .int .i64 y3, .int .i64 m3, .int .i64 d3] 25))
  have Y6 := hideP ((Y5.out.onS hb).alloc (.cells #[.int .i64 c3, .int .i64 y3, .int .i64 m3, .int .i64 d3] 25))
  have Z6 := hideP ((Z5.out.onS hb).alloc (.cells #[.int .i64 c3, .int .i64 y3, .int .i64 m3, .int .i64 d3] 25))
  have V6 : Hid (Blk (W6.alloc (.cells #[.int .i64 c3, .int .i64 y3, .int .i64 m3, .int .i64 d3] 25)) W6.heap.size #[.int .i64 c3, .int .i64 y3, .int .i64 m3, .int .i64 d3] 25) := Blk.new W6 _ _
  clear hb X5 Y5 Z5 B5 KI
  go_wp2_with fail
  refine (drawLeap _ a0 len0 cap0 hlen (KC.out _ B6.out)).mono ?_
  rintro e W7 ⟨lc, ly, rfl, hb⟩
  have B7 := hideP (sol_on B6.out hb)
  have X7 := hideP (X6.out.onS hb)
  have Y7 := hideP (Y6.out.onS hb)
  have Z7 := hideP (Z6.out.onS hb)
  have V7 := hideP (V6.out.onS hb)
  clear hb X6 Y6 Z6 V6 B6
  go_wp2_with fail
  refine (drawMonthDays _ a0 len0 cap0 hlen (KC.out _ B7.out)).mono ?_
  rintro e W8 ⟨ec, ey, em, rfl, hb⟩
  have B8 := hideP (sol_on B7.out hb)
  have X8 := hideP (X7.out.onS hb)
  have Y8 := hideP (Y7.out.onS hb)
  have Z8 := hideP (Z7.out.onS hb)
  have V8 := hideP (V7.out.onS hb)
  clear hb X7 Y7 Z7 V7 B7
  go_wp2_with fail
  refine (drawDayInYear _ a0 len0 cap0 hlen (KC.out _ B8.out)).mono ?_
  rintro e W9 ⟨c4, y4, m4, d4, rfl, hb⟩
  have B9 := hideP (sol_al (sol_on B8.out hb) (.cells #[.int .i64 c4, .int .i64 y4, .int .i64 m4, .int .i64 d4] 25))
  have X9 := hideP ((X8.out.onS hb).alloc (.cells #[.int .i64 c4, .int .i64 y4, .int .i64 m4, .int .i64 d4] 25))
  have Y9 := hideP ((Y8.out.onS hb).alloc (.cells #[.int .i64 c4, .int .i64 y4, .int .i64 m4, .int .i64 d4] 25))
  have Z9 := hideP ((Z8.out.onS hb).alloc (.cells #[.int .i64 c4, .int .i64 y4, .int .i64 m4, .int .i64 d4] 25))
  have V9 := hideP ((V8.out.onS hb).alloc (.cells #[.int .i64 c4, .int .i64 y4, .int .i64 m4, .int .i64 d4] 25))
  have U9 : Hid (Blk (W9.alloc (.cells #[.int .i64 c4, .int .i64 y4, .int .i64 m4, .int .i64 d4] 25)) W9.heap.size #[.int .i64 c4, .int .i64 y4, .int .i64 m4, .int .i64 d4] 25) := Blk.new W9 _ _
  clear hb X8 Y8 Z8 V8 B8 KC
  go_wp2_with fail
  obtain ⟨W0, hW0⟩ : ∃ W0, W0 = W9.alloc (.cells #[.int .i64 c4, .int .i64 y4, .int .i64 m4, .int .i64 d4] 25) := ⟨_, rfl⟩
  rw [← hW0]
  rw [← hW0] at B9 X9 Y9 Z9 V9 U9
  clear hW0
  have p0 : ∀ x : Later W0, x.w.cell? ⟨W1.heap.size, 0, none⟩ = some (.int .i64 c1) := fun x => (X9.out.later x).cell 0 rfl
  have p1 : ∀ x : Later W0, x.w.cell? ⟨W1.heap.size, 1, none⟩ = some (.int .i64 y1) := fun x => (X9.out.later x).cell 1 rfl
  have p2 : ∀ x : Later W0, x.w.cell? ⟨W1.heap.size, 2, none⟩ = some (.int .i64 m1) := fun x => (X9.out.later x).cell 2 rfl
  have p3 : ∀ x : Later W0, x.w.cell? ⟨W1.heap.size, 3, none⟩ = some (.int .i64 d1) := fun x => (X9.out.later x).cell 3 rfl
  have q0 : ∀ x : Later W0, x.w.cell? ⟨W2.heap.size, 0, none⟩ = some (.int .i64 c2) := fun x => (Y9.out.later x).cell 0 rfl
  have q1 : ∀ x : Later W0, x.w.cell? ⟨W2.heap.size, 1, none⟩ = some (.int .i64 y2) := fun x => (Y9.out.later x).cell 1 rfl
  have q2 : ∀ x : Later W0, x.w.cell? ⟨W2.heap.size, 2, none⟩ = some (.int .i64 m2) := fun x => (Y9.out.later x).cell 2 rfl
  have q3 : ∀ x : Later W0, x.w.cell? ⟨W2.heap.size, 3, none⟩ = some (.int .i64 d2) := fun x => (Y9.out.later x).cell 3 rfl
  have r0 : ∀ x : Later W0, x.w.cell? ⟨W5.heap.size, 0, none⟩ = some (.int .i64 c3) := fun x => (Z9.out.later x).cell 0 rfl
  have r1 : ∀ x : Later W0, x.w.cell? ⟨W5.heap.size, 1, none⟩ = some (.int .i64 y3) := fun x => (Z9.out.later x).cell 1 rfl
  have r2 : ∀ x : Later W0, x.w.cell? ⟨W5.heap.size, 2, none⟩ = some (.int .i64 m3) := fun x => (Z9.out.later x).cell 2 rfl
  have r3 : ∀ x : Later W0, x.w.cell? ⟨W5.heap.size, 3, none⟩ = some (.int .i64 d3) := fun x => (Z9.out.later x).cell 3 rfl
  have s0 : ∀ x : Later W0, x.w.cell? ⟨W6.heap.size, 0, none⟩ = some (.int .i64 c3) := fun x => (V9.out.later x).cell 0 rfl
  have s1 : ∀ x : Later W0, x.w.cell? ⟨W6.heap.size, 1, none⟩ = some (.int .i64 y3) := fun x => (V9.out.later x).cell 1 rfl
  have s2 : ∀ x : Later W0, x.w.cell? ⟨W6.heap.size, 2, none⟩ = some (.int .i64 m3) := fun x => (V9.out.later x).cell 2 rfl
  have s3 : ∀ x : Later W0, x.w.cell? ⟨W6.heap.size, 3, none⟩ = some (.int .i64 d3) := fun x => (V9.out.later x).cell 3 rfl
  have t0 : ∀ x : Later W0, x.w.cell? ⟨W9.heap.size, 0, none⟩ = some (.int .i64 c4) := fun x => (U9.out.later x).cell 0 rfl
  have t1 : ∀ x : Later W0, x.w.cell? ⟨W9.heap.size, 1, none⟩ = some (.int .i64 y4) := fun x => (U9.out.later x).cell 1 rfl
  have t2 : ∀ x : Later W0, x.w.cell? ⟨W9.heap.size, 2, none⟩ = some (.int .i64 m4) := fun x => (U9.out.later x).cell 2 rfl
  have t3 : ∀ x : Later W0, x.w.cell? ⟨W9.heap.size, 3, none⟩ = some (.int .i64 d4) := fun x => (U9.out.later x).cell 3 rfl
  have BX : Hid (∀ x : Later W0, Below w.heap.size w x.w) := fun x => sol_on B9.out x.below
  have KT : Hid (∀ x : Later W0, Tab x.w) := fun x => HT.out _ (BX.out x)
  have Y := Y9
  clear X9 Y9 Z9 V9 U9 B9 HT
  have K1 : ∀ x : Later W0, Calls Tryd.prog 24 #[.agg #[.int .i64 c1, .int .i64 y1, .int .i64 m1, .int .i64 d1]] x.w fun e w' => e = .returned (.bool (dateOk c1 y1 m1 d1)) ∧ Below x.w.heap.size x.w w' := fun x => implDateOk c1 y1 m1 d1 x.w (KT.out x)
  have K2 : ∀ x : Later W0, Calls Tryd.prog 25 #[.agg #[.int .i64 c1, .int .i64 y1, .int .i64 m1, .int .i64 d1]] x.w fun e w' => e = .returned (.bool (dateOk c1 y1 m1 d1)) ∧ Below x.w.heap.size x.w w' := fun x => specDateOk c1 y1 m1 d1 x.w
  have K3 : ∀ x : Later W0, Calls Tryd.prog 26 #[.agg #[.int .i64 c2, .int .i64 y2, .int .i64 m2, .int .i64 d2]] x.w fun e w' => e = .returned (.int .i64 n) ∧ Below x.w.heap.size x.w w' := fun x => by rw [HN.out]; exact specDayOf c2 y2 m2 d2 x.w
  have K4 : ∀ x : Later W0, Calls Tryd.prog 27 #[.int .i64 lc, .int .i64 ly] x.w fun e w' => e = .returned (.bool (leapB lc ly)) ∧ Below x.w.heap.size x.w w' := fun x => implLeap lc ly x.w
  have K5 : ∀ x : Later W0, Calls Tryd.prog 28 #[.int .i64 lc, .int .i64 ly] x.w fun e w' => e = .returned (.bool (leapB lc ly)) ∧ w' = x.w := fun x => specLeap lc ly x.w
  have K6 : ∀ x : Later W0, Calls Tryd.prog 29 #[.int .i64 ec, .int .i64 ey, .int .i64 em] x.w fun e w' => e = .returned (.int .i64 (monthDays ec ey em)) ∧ Below x.w.heap.size x.w w' := fun x => implMonthDays ec ey em x.w (KT.out x)
  have K7 : ∀ x : Later W0, Calls Tryd.prog 30 #[.int .i64 ec, .int .i64 ey, .int .i64 em] x.w fun e w' => e = .returned (.int .i64 (monthDays ec ey em)) ∧ Below x.w.heap.size x.w w' := fun x => specMonthDays ec ey em x.w
  have K8 : ∀ x : Later W0, Calls Tryd.prog 31 #[.agg #[.int .i64 c4, .int .i64 y4, .int .i64 m4, .int .i64 d4]] x.w fun e w' => e = .returned (.int .i64 (dayInYear c4 y4 m4 d4)) ∧ Below x.w.heap.size x.w w' := fun x => implDayInYear c4 y4 m4 d4 x.w (KT.out x)
  have K9 : ∀ x : Later W0, Calls Tryd.prog 32 #[.agg #[.int .i64 c4, .int .i64 y4, .int .i64 m4, .int .i64 d4]] x.w fun e w' => e = .returned (.int .i64 (dayInYear c4 y4 m4 d4)) ∧ Below x.w.heap.size x.w w' := fun x => specDayInYear c4 y4 m4 d4 x.w
  generalize dateOk c1 y1 m1 d1 = R1 at *
  generalize leapB lc ly = R4 at *
  generalize monthDays ec ey em = R6 at *
  generalize dayInYear c4 y4 m4 d4 = R8 at *
  refine wp_region_later (W := W0) (Below.refl _ _) (by kernel_rfl) (by kernel_rfl) ?_
  repeat (go_big_quiet_step (first | (go_at_call 24; exact calls_later (K1 _)) | (go_at_call 25; exact calls_later (K2 _)) | (go_at_call 26; exact calls_later (K3 _)) | (go_at_call 27; exact calls_later (K4 _)) | (go_at_call 28; exact calls_same (K5 _)) | (go_at_call 29; exact calls_later (K6 _)) | (go_at_call 30; exact calls_later (K7 _)) | (go_at_call 31; exact calls_later (K8 _)) | (go_at_call 32; exact calls_later (K9 _))))
  refine wpQuiet_nil ?_
  intro _ hw'
  obtain ⟨x1, rfl⟩ := hw'
  clear K1 K2 K3 K4 K5 K6 K7 K8 K9 p0 p1 p2 p3 s0 s1 s2 s3 t0 t1 t2 t3
  cases ok
  · go_wp2_with fail
    obtain ⟨j, hj⟩ : ∃ j, j = wrap64 (k + 1) := ⟨_, rfl⟩
    rw [← hj]
    clear hj
    obtain ⟨c5, y5, m5, d5, more, hM, hS⟩ := dateR_of cal j
    have KJ := implDateOf cal j x1.w (KT.out x1)
    rw [hS] at KJ
    clear hM hS
    refine KJ.mono ?_
    rintro e wA ⟨rfl, hb⟩
    obtain ⟨xn, rfl⟩ := x1.next hb
    clear hb KJ x1
    go_wp2_with fail
    obtain ⟨N0, hN0⟩ : ∃ N0, N0 = xn.w.alloc (.cells #[.int .i64 c5, .int .i64 y5, .int .i64 m5, .int .i64 d5] 25) := ⟨_, rfl⟩
    have g2 : ∀ x : Later N0, x.w.cell? ⟨xn.w.heap.size, 2, none⟩ = some (.int .i64 m5) := Later.new hN0 2 rfl
    have g3 : ∀ x : Later N0, x.w.cell? ⟨xn.w.heap.size, 3, none⟩ = some (.int .i64 d5) := Later.new hN0 3 rfl
    have LN : Hid (∀ x : Later N0, ∃ y : Later W0, x.w = y.w) := fun x => ⟨⟨x.w, sol_on xn.below (below_of_alloc hN0 x.below)⟩, rfl⟩
    have e1 : ∀ x : Later N0, x.w.cell? ⟨W5.heap.size, 1, none⟩ = some (.int .i64 y3) := fun x => by obtain ⟨y, hy⟩ := LN.out x; rw [hy]; exact r1 y
    have e2 : ∀ x : Later N0, x.w.cell? ⟨W5.heap.size, 2, none⟩ = some (.int .i64 m3) := fun x => by obtain ⟨y, hy⟩ := LN.out x; rw [hy]; exact r2 y
    have e3 : ∀ x : Later N0, x.w.cell? ⟨W5.heap.size, 3, none⟩ = some (.int .i64 d3) := fun x => by obtain ⟨y, hy⟩ := LN.out x; rw [hy]; exact r3 y
    have h0 : ∀ x : Later N0, x.w.cell? ⟨W2.heap.size, 0, none⟩ = some (.int .i64 c2) := fun x => by obtain ⟨y, hy⟩ := LN.out x; rw [hy]; exact q0 y
    have h1 : ∀ x : Later N0, x.w.cell? ⟨W2.heap.size, 1, none⟩ = some (.int .i64 y2) := fun x => by obtain ⟨y, hy⟩ := LN.out x; rw [hy]; exact q1 y
    have h2 : ∀ x : Later N0, x.w.cell? ⟨W2.heap.size, 2, none⟩ = some (.int .i64 m2) := fun x => by obtain ⟨y, hy⟩ := LN.out x; rw [hy]; exact q2 y
    have h3 : ∀ x : Later N0, x.w.cell? ⟨W2.heap.size, 3, none⟩ = some (.int .i64 d2) := fun x => by obtain ⟨y, hy⟩ := LN.out x; rw [hy]; exact q3 y
    have QA : Hid (∀ (x : Later N0) (i : Nat) {v : Value}, (#[.int .i64 c2, .int .i64 y2, .int .i64 m2, .int .i64 d2] : Array Value)[i]? = some v → (x.w.alloc (.cells #[.int .i64 c2, .int .i64 y2, .int .i64 m2, .int .i64 d2] 25)).cell? ⟨W2.heap.size, i, none⟩ = some v) := fun x i v hv => by
      obtain ⟨y, hy⟩ := LN.out x
      rw [hy]
      exact ((Y.out.later y).alloc _).cell i hv
    have KTN : Hid (∀ x : Later N0, Tab x.w) := fun x => by obtain ⟨y, hy⟩ := LN.out x; rw [hy]; exact KT.out y
    have BN : Hid (∀ x : Later N0, Below w.heap.size w x.w) := fun x => by obtain ⟨y, hy⟩ := LN.out x; rw [hy]; exact BX.out y
    rw [← hN0]
    clear hN0 q0 q1 q2 q3 r0 r1 r2 r3 KT BX LN
    refine wp_region_later (W := N0) (Below.refl _ _) (by kernel_rfl) (by kernel_rfl) ?_
    repeat (go_big_quiet_step (fail))
    refine wpQuiet_nil ?_
    intro _ hw'
    obtain ⟨x7, rfl⟩ := hw'
    clear g2 g3 e1 e2 e3
    go_wp2_with fail
    by_cases hp : dateP c2 y2 m2 d2
    · have KZ : ∀ x : Later N0, Calls Tryd.prog 25 #[.agg #[.int .i64 c2, .int .i64 y2, .int .i64 m2, .int .i64 d2]] x.w fun e w' => e = .returned (.bool true) ∧ Below x.w.heap.size x.w w' := fun x => by
        have h := specDateOk c2 y2 m2 d2 x.w
        rw [dateOk_true hp] at h
        exact h
      have KY : ∀ x : Later N0, Calls Tryd.prog 19 #[.int .i64 c2, .int .i64 n] x.w fun e w' => e = .returned (.tuple #[.agg #[.int .i64 c2, .int .i64 y2, .int .i64 m2, .int .i64 d2], .bool true]) ∧ Below x.w.heap.size x.w w' := fun x => by
        have h := implDateOf c2 n x.w (KTN.out x)
        rw [dateR_yes (by rw [HN.out]; exact day_back hp)] at h
        exact h
      refine (KZ _).mono ?_
      rintro e wA ⟨rfl, hb⟩
      obtain ⟨x8, rfl⟩ := x7.next hb
      clear hb
      go_wp2_with fail
      refine (KY _).mono ?_
      rintro e wA ⟨rfl, hb⟩
      obtain ⟨x9, rfl⟩ := x8.next hb
      clear hb
      have v0 := QA.out x9 0 rfl
      have v1 := QA.out x9 1 rfl
      have v2 := QA.out x9 2 rfl
      have v3 := QA.out x9 3 rfl
      go_wp2_with fail
      go_ret
      exact ⟨rfl, sol_al (BN.out x9) _⟩
    · have KZ : ∀ x : Later N0, Calls Tryd.prog 25 #[.agg #[.int .i64 c2, .int .i64 y2, .int .i64 m2, .int .i64 d2]] x.w fun e w' => e = .returned (.bool false) ∧ Below x.w.heap.size x.w w' := fun x => by
        have h := specDateOk c2 y2 m2 d2 x.w
        rw [dateOk_false hp] at h
        exact h
      have hn0 : n = 0 := by rw [HN.out]; unfold dayOf; rw [if_neg hp]
      refine (KZ _).mono ?_
      rintro e wA ⟨rfl, hb⟩
      obtain ⟨x8, rfl⟩ := x7.next hb
      clear hb
      subst hn0
      go_wp2_with fail
      go_ret
      exact ⟨rfl, BN.out x8⟩
  · obtain ⟨hca, hP, hQ⟩ := date_back HD.out
    have hkr := date_day HD.out
    subst hca
    have hmd := monthDays_le c3 y3 m3
    have hd31 : 1 ≤ d3 ∧ d3 ≤ 31 := by obtain ⟨_, _, _, h4, h5⟩ := hP; omega
    have KO : Calls Tryd.prog 24 #[.agg #[.int .i64 c3, .int .i64 y3, .int .i64 m3, .int .i64 d3]] x1.w fun e w' => e = .returned (.bool true) ∧ Below x1.w.heap.size x1.w w' := by
      have h := implDateOk c3 y3 m3 d3 x1.w (KT.out x1)
      rw [dateOk_true hP] at h
      exact h
    have KB : ∀ x : Later W0, Calls Tryd.prog 17 #[.agg #[.int .i64 c3, .int .i64 y3, .int .i64 m3, .int .i64 d3]] x.w fun e w' => e = .returned (.int .i64 k) ∧ Below x.w.heap.size x.w w' := fun x => by
      have h := implDayOf c3 y3 m3 d3 x.w (KT.out x)
      rw [hQ] at h
      exact h
    have HP3 := hideP hP
    clear hP hQ
    go_wp2_with fail
    refine KO.mono ?_
    rintro e wA ⟨rfl, hb⟩
    obtain ⟨x2, rfl⟩ := x1.next hb
    clear hb KO x1
    go_wp2_with fail
    refine (KB _).mono ?_
    rintro e wA ⟨rfl, hb⟩
    obtain ⟨x3, rfl⟩ := x2.next hb
    clear hb KB x2
    go_wp2_with fail
    obtain ⟨c5, y5, m5, d5, more, hM, hS⟩ := dateR_of c3 (k + 1)
    have KJ := implDateOf c3 (k + 1) x3.w (KT.out x3)
    rw [hS] at KJ
    clear hS
    refine KJ.mono ?_
    rintro e wA ⟨rfl, hb⟩
    obtain ⟨xn, rfl⟩ := x3.next hb
    clear hb KJ x3
    have hw1 := in_range (d3 + 1) (by omega)
    go_wp2_with fail
    obtain ⟨N0, hN0⟩ : ∃ N0, N0 = xn.w.alloc (.cells #[.int .i64 c5, .int .i64 y5, .int .i64 m5, .int .i64 d5] 25) := ⟨_, rfl⟩
    have g2 : ∀ x : Later N0, x.w.cell? ⟨xn.w.heap.size, 2, none⟩ = some (.int .i64 m5) := Later.new hN0 2 rfl
    have g3 : ∀ x : Later N0, x.w.cell? ⟨xn.w.heap.size, 3, none⟩ = some (.int .i64 d5) := Later.new hN0 3 rfl
    have LN : Hid (∀ x : Later N0, ∃ y : Later W0, x.w = y.w) := fun x => ⟨⟨x.w, sol_on xn.below (below_of_alloc hN0 x.below)⟩, rfl⟩
    have e1 : ∀ x : Later N0, x.w.cell? ⟨W5.heap.size, 1, none⟩ = some (.int .i64 y3) := fun x => by obtain ⟨y, hy⟩ := LN.out x; rw [hy]; exact r1 y
    have e2 : ∀ x : Later N0, x.w.cell? ⟨W5.heap.size, 2, none⟩ = some (.int .i64 m3) := fun x => by obtain ⟨y, hy⟩ := LN.out x; rw [hy]; exact r2 y
    have e3 : ∀ x : Later N0, x.w.cell? ⟨W5.heap.size, 3, none⟩ = some (.int .i64 d3) := fun x => by obtain ⟨y, hy⟩ := LN.out x; rw [hy]; exact r3 y
    have h0 : ∀ x : Later N0, x.w.cell? ⟨W2.heap.size, 0, none⟩ = some (.int .i64 c2) := fun x => by obtain ⟨y, hy⟩ := LN.out x; rw [hy]; exact q0 y
    have h1 : ∀ x : Later N0, x.w.cell? ⟨W2.heap.size, 1, none⟩ = some (.int .i64 y2) := fun x => by obtain ⟨y, hy⟩ := LN.out x; rw [hy]; exact q1 y
    have h2 : ∀ x : Later N0, x.w.cell? ⟨W2.heap.size, 2, none⟩ = some (.int .i64 m2) := fun x => by obtain ⟨y, hy⟩ := LN.out x; rw [hy]; exact q2 y
    have h3 : ∀ x : Later N0, x.w.cell? ⟨W2.heap.size, 3, none⟩ = some (.int .i64 d2) := fun x => by obtain ⟨y, hy⟩ := LN.out x; rw [hy]; exact q3 y
    have QA : Hid (∀ (x : Later N0) (i : Nat) {v : Value}, (#[.int .i64 c2, .int .i64 y2, .int .i64 m2, .int .i64 d2] : Array Value)[i]? = some v → (x.w.alloc (.cells #[.int .i64 c2, .int .i64 y2, .int .i64 m2, .int .i64 d2] 25)).cell? ⟨W2.heap.size, i, none⟩ = some v) := fun x i v hv => by
      obtain ⟨y, hy⟩ := LN.out x
      rw [hy]
      exact ((Y.out.later y).alloc _).cell i hv
    have KTN : Hid (∀ x : Later N0, Tab x.w) := fun x => by obtain ⟨y, hy⟩ := LN.out x; rw [hy]; exact KT.out y
    have BN : Hid (∀ x : Later N0, Below w.heap.size w x.w) := fun x => by obtain ⟨y, hy⟩ := LN.out x; rw [hy]; exact BX.out y
    rw [← hN0]
    clear hN0 q0 q1 q2 q3 r0 r1 r2 r3 KT BX LN
    cases more
    · clear hM
      refine wp_region_later (W := N0) (Below.refl _ _) (by kernel_rfl) (by kernel_rfl) ?_
      repeat (go_big_quiet_step (fail))
      refine wpQuiet_nil ?_
      intro _ hw'
      obtain ⟨x7, rfl⟩ := hw'
      clear g2 g3 e1 e2 e3
      go_wp2_with fail
      by_cases hp : dateP c2 y2 m2 d2
      · have KZ : ∀ x : Later N0, Calls Tryd.prog 25 #[.agg #[.int .i64 c2, .int .i64 y2, .int .i64 m2, .int .i64 d2]] x.w fun e w' => e = .returned (.bool true) ∧ Below x.w.heap.size x.w w' := fun x => by
          have h := specDateOk c2 y2 m2 d2 x.w
          rw [dateOk_true hp] at h
          exact h
        have KY : ∀ x : Later N0, Calls Tryd.prog 19 #[.int .i64 c2, .int .i64 n] x.w fun e w' => e = .returned (.tuple #[.agg #[.int .i64 c2, .int .i64 y2, .int .i64 m2, .int .i64 d2], .bool true]) ∧ Below x.w.heap.size x.w w' := fun x => by
          have h := implDateOf c2 n x.w (KTN.out x)
          rw [dateR_yes (by rw [HN.out]; exact day_back hp)] at h
          exact h
        refine (KZ _).mono ?_
        rintro e wA ⟨rfl, hb⟩
        obtain ⟨x8, rfl⟩ := x7.next hb
        clear hb
        go_wp2_with fail
        refine (KY _).mono ?_
        rintro e wA ⟨rfl, hb⟩
        obtain ⟨x9, rfl⟩ := x8.next hb
        clear hb
        have v0 := QA.out x9 0 rfl
        have v1 := QA.out x9 1 rfl
        have v2 := QA.out x9 2 rfl
        have v3 := QA.out x9 3 rfl
        go_wp2_with fail
        go_ret
        exact ⟨rfl, sol_al (BN.out x9) _⟩
      · have KZ : ∀ x : Later N0, Calls Tryd.prog 25 #[.agg #[.int .i64 c2, .int .i64 y2, .int .i64 m2, .int .i64 d2]] x.w fun e w' => e = .returned (.bool false) ∧ Below x.w.heap.size x.w w' := fun x => by
          have h := specDateOk c2 y2 m2 d2 x.w
          rw [dateOk_false hp] at h
          exact h
        have hn0 : n = 0 := by rw [HN.out]; unfold dayOf; rw [if_neg hp]
        refine (KZ _).mono ?_
        rintro e wA ⟨rfl, hb⟩
        obtain ⟨x8, rfl⟩ := x7.next hb
        clear hb
        subst hn0
        go_wp2_with fail
        go_ret
        exact ⟨rfl, BN.out x8⟩
    · have hN := day_next HD.out hM
      by_cases hA : d5 = d3 + 1 ∧ m5 = m3
      · obtain ⟨hA1, hA2⟩ := hA
        subst hA1 hA2
        clear hN hM
        refine wp_region_later (W := N0) (Below.refl _ _) (by kernel_rfl) (by kernel_rfl) ?_
        repeat (go_big_quiet_step (fail))
        refine wpQuiet_nil ?_
        intro _ hw'
        obtain ⟨x7, rfl⟩ := hw'
        clear g2 g3 e1 e2 e3
        go_wp2_with fail
        by_cases hp : dateP c2 y2 m2 d2
        · have KZ : ∀ x : Later N0, Calls Tryd.prog 25 #[.agg #[.int .i64 c2, .int .i64 y2, .int .i64 m2, .int .i64 d2]] x.w fun e w' => e = .returned (.bool true) ∧ Below x.w.heap.size x.w w' := fun x => by
            have h := specDateOk c2 y2 m2 d2 x.w
            rw [dateOk_true hp] at h
            exact h
          have KY : ∀ x : Later N0, Calls Tryd.prog 19 #[.int .i64 c2, .int .i64 n] x.w fun e w' => e = .returned (.tuple #[.agg #[.int .i64 c2, .int .i64 y2, .int .i64 m2, .int .i64 d2], .bool true]) ∧ Below x.w.heap.size x.w w' := fun x => by
            have h := implDateOf c2 n x.w (KTN.out x)
            rw [dateR_yes (by rw [HN.out]; exact day_back hp)] at h
            exact h
          refine (KZ _).mono ?_
          rintro e wA ⟨rfl, hb⟩
          obtain ⟨x8, rfl⟩ := x7.next hb
          clear hb
          go_wp2_with fail
          refine (KY _).mono ?_
          rintro e wA ⟨rfl, hb⟩
          obtain ⟨x9, rfl⟩ := x8.next hb
          clear hb
          have v0 := QA.out x9 0 rfl
          have v1 := QA.out x9 1 rfl
          have v2 := QA.out x9 2 rfl
          have v3 := QA.out x9 3 rfl
          go_wp2_with fail
          go_ret
          exact ⟨rfl, sol_al (BN.out x9) _⟩
        · have KZ : ∀ x : Later N0, Calls Tryd.prog 25 #[.agg #[.int .i64 c2, .int .i64 y2, .int .i64 m2, .int .i64 d2]] x.w fun e w' => e = .returned (.bool false) ∧ Below x.w.heap.size x.w w' := fun x => by
            have h := specDateOk c2 y2 m2 d2 x.w
            rw [dateOk_false hp] at h
            exact h
          have hn0 : n = 0 := by rw [HN.out]; unfold dayOf; rw [if_neg hp]
          refine (KZ _).mono ?_
          rintro e wA ⟨rfl, hb⟩
          obtain ⟨x8, rfl⟩ := x7.next hb
          clear hb
          subst hn0
          go_wp2_with fail
          go_ret
          exact ⟨rfl, BN.out x8⟩
      · have hB := hN.resolve_left hA
        obtain ⟨hB1, hB2⟩ := hB
        subst hB1
        have hne : ((1 : Int) == d3 + 1) = false := by simp; omega
        have KM : ∀ x : Later N0, Calls Tryd.prog 29 #[.int .i64 c3, .int .i64 y3, .int .i64 m3] x.w fun e w' => e = .returned (.int .i64 d3) ∧ Below x.w.heap.size x.w w' := fun x => by
          have h := implMonthDays c3 y3 m3 x.w (KTN.out x)
          rw [← hB2] at h
          exact h
        clear hN hM hA hB2 hmd
        refine wp_region_later (W := N0) (Below.refl _ _) (by kernel_rfl) (by kernel_rfl) ?_
        repeat (go_big_quiet_step ((go_at_call 29; exact calls_later (KM _))))
        refine wpQuiet_nil ?_
        intro _ hw'
        obtain ⟨x7, rfl⟩ := hw'
        clear g2 g3 e1 e2 e3
        go_wp2_with fail
        by_cases hp : dateP c2 y2 m2 d2
        · have KZ : ∀ x : Later N0, Calls Tryd.prog 25 #[.agg #[.int .i64 c2, .int .i64 y2, .int .i64 m2, .int .i64 d2]] x.w fun e w' => e = .returned (.bool true) ∧ Below x.w.heap.size x.w w' := fun x => by
            have h := specDateOk c2 y2 m2 d2 x.w
            rw [dateOk_true hp] at h
            exact h
          have KY : ∀ x : Later N0, Calls Tryd.prog 19 #[.int .i64 c2, .int .i64 n] x.w fun e w' => e = .returned (.tuple #[.agg #[.int .i64 c2, .int .i64 y2, .int .i64 m2, .int .i64 d2], .bool true]) ∧ Below x.w.heap.size x.w w' := fun x => by
            have h := implDateOf c2 n x.w (KTN.out x)
            rw [dateR_yes (by rw [HN.out]; exact day_back hp)] at h
            exact h
          refine (KZ _).mono ?_
          rintro e wA ⟨rfl, hb⟩
          obtain ⟨x8, rfl⟩ := x7.next hb
          clear hb
          go_wp2_with fail
          refine (KY _).mono ?_
          rintro e wA ⟨rfl, hb⟩
          obtain ⟨x9, rfl⟩ := x8.next hb
          clear hb
          have v0 := QA.out x9 0 rfl
          have v1 := QA.out x9 1 rfl
          have v2 := QA.out x9 2 rfl
          have v3 := QA.out x9 3 rfl
          go_wp2_with fail
          go_ret
          exact ⟨rfl, sol_al (BN.out x9) _⟩
        · have KZ : ∀ x : Later N0, Calls Tryd.prog 25 #[.agg #[.int .i64 c2, .int .i64 y2, .int .i64 m2, .int .i64 d2]] x.w fun e w' => e = .returned (.bool false) ∧ Below x.w.heap.size x.w w' := fun x => by
            have h := specDateOk c2 y2 m2 d2 x.w
            rw [dateOk_false hp] at h
            exact h
          have hn0 : n = 0 := by rw [HN.out]; unfold dayOf; rw [if_neg hp]
          refine (KZ _).mono ?_
          rintro e wA ⟨rfl, hb⟩
          obtain ⟨x8, rfl⟩ := x7.next hb
          clear hb
          subst hn0
          go_wp2_with fail
          go_ret
          exact ⟨rfl, BN.out x8⟩
end Go.Proofs.YtckjcaloofjeoaaDoor.ctr
