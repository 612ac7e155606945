/- Contracts of the kinds' own methods: whether a reading or a date is one of theirs. Plain laws of the years of reigns, of no program: how often the day has come that has the month and the day of the first one, by how much the year of a style is above the first one's; that these years go up one by one. A right When is one of three kinds; a feast that is found has its name. -/
import Derived.Test.YtdgolaaheakfoaaGreatDoorJnSbo
import Derived.Test.YtdgolaaheakfoaaGreatDoorJnSbh
import Derived.Test.YtdgolaaheakfoaaGreatDoorJnSbg
import Derived.Test.YtdgolaaheakfoaaGreatDoorJnSay
import Derived.Test.YtdgolaaheakfoaaGreatDoorJnSaz
import Derived.Laws.StructEq
import Derived.KernelRfl
import Derived.Test.YtdgolaaheakfoaaGreatDoorJnSbd
import Derived.Test.YtdgolaaheakfoaaGreatDoorJnSba
namespace Go.Proofs.YtdgolaaheakfoaaGreatDoor.ctr
open Go.RowKit
set_option maxHeartbeats 2000000 in
theorem dayIsReading (m d : Int) (x : Rdg) (w : World) : Calls Tryz.prog 230 #[.agg #[.int .i64 m, .int .i64 d], rdgV x] w fun e w' => e = .returned (.bool (x.mon == m && x.day == d)) ∧ Below w.heap.size w w' := by
  by_cases h1 : x.mon = m
  · have e1 : (x.mon == m) = true := by simpa using h1
    rw [e1, Bool.true_and]
    go_enter Tryz.func230, Tryz.ntmps230
    go_wp2_with fail
    go_ret
    exact ⟨rfl, below_alloc (below_alloc (Below.refl _ _))⟩
  · have e1 : (x.mon == m) = false := by simpa using h1
    rw [e1, Bool.false_and]
    go_enter Tryz.func230, Tryz.ntmps230
    go_wp2_with fail
    go_ret
    exact ⟨rfl, below_alloc (below_alloc (Below.refl _ _))⟩
def romEq (p q : Rom) : Bool := p.count == q.count && (p.mark == q.mark && (p.month == q.month && p.twice == q.twice))
@[go_sem] theorem eqRomB (a b c : Int) (t : Bool) (a' b' c' : Int) (t' : Bool) (w : World) : (Op.equalIn 10000 42 (.agg #[.int .i64 a, .int .i64 b, .int .i64 c, .bool t]) (.agg #[.int .i64 a', .int .i64 b', .int .i64 c', .bool t'])).run Tryz.prog w = .ok (romEq ⟨a, b, c, t⟩ ⟨a', b', c', t'⟩) w := by
  unfold romEq
  cases hA : (a == a') <;> cases hB : (b == b') <;> cases hC : (c == c') <;> cases hD : (t == t')
  all_goals first | (go_simp; done) | (go_simp; simp [hA, hB, hC, hD])
set_option maxHeartbeats 4000000 in
theorem romIsDate (a b c : Int) (t : Bool) (dc dy dm dd : Int) (w : World) (hT : Tab w) : Calls Tryz.prog 233 #[.agg #[.int .i64 a, .int .i64 b, .int .i64 c, .bool t], .agg #[.int .i64 dc, .int .i64 dy, .int .i64 dm, .int .i64 dd]] w fun e w' => e = .returned (.bool (romEq (romanOf dc dy dm dd) ⟨a, b, c, t⟩)) ∧ Below w.heap.size w w' := by
  obtain ⟨W0, hW0, hD, hR, hBl⟩ := two_box w #[.int .i64 a, .int .i64 b, .int .i64 c, .bool t] #[.int .i64 dc, .int .i64 dy, .int .i64 dm, .int .i64 dd] 169 92
  have c0 : ∀ x : Later W0, x.w.cell? ⟨w.heap.size, 0, none⟩ = some (.int .i64 a) := fun x => (hD x).cell 0 rfl
  have c1 : ∀ x : Later W0, x.w.cell? ⟨w.heap.size, 1, none⟩ = some (.int .i64 b) := fun x => (hD x).cell 1 rfl
  have c2 : ∀ x : Later W0, x.w.cell? ⟨w.heap.size, 2, none⟩ = some (.int .i64 c) := fun x => (hD x).cell 2 rfl
  have c3 : ∀ x : Later W0, x.w.cell? ⟨w.heap.size, 3, none⟩ = some (.bool t) := fun x => (hD x).cell 3 rfl
  have d0 : ∀ x : Later W0, x.w.cell? ⟨w.heap.size + 1, 0, none⟩ = some (.int .i64 dc) := fun x => (hR x).cell 0 rfl
  have d1 : ∀ x : Later W0, x.w.cell? ⟨w.heap.size + 1, 1, none⟩ = some (.int .i64 dy) := fun x => (hR x).cell 1 rfl
  have d2 : ∀ x : Later W0, x.w.cell? ⟨w.heap.size + 1, 2, none⟩ = some (.int .i64 dm) := fun x => (hR x).cell 2 rfl
  have d3 : ∀ x : Later W0, x.w.cell? ⟨w.heap.size + 1, 3, none⟩ = some (.int .i64 dd) := fun x => (hR x).cell 3 rfl
  have K : ∀ x : Later W0, Calls Tryz.prog 235 #[.agg #[.int .i64 dc, .int .i64 dy, .int .i64 dm, .int .i64 dd]] x.w fun e w' => e = .returned (romV (romanOf dc dy dm dd)) ∧ Below x.w.heap.size x.w w' := fun x => implRomanOf dc dy dm dd x.w (hT.later (hBl x))
  have HW0 := hideP hW0
  have HBl := hideP hBl
  clear hW0 hD hR hBl hT
  generalize romanOf dc dy dm dd = q at *
  obtain ⟨q0, q1, q2, q3⟩ := q
  have K' : ∀ x : Later W0, Calls Tryz.prog 235 #[.agg #[.int .i64 dc, .int .i64 dy, .int .i64 dm, .int .i64 dd]] x.w fun e w' => e = .returned (.agg #[.int .i64 q0, .int .i64 q1, .int .i64 q2, .bool q3]) ∧ Below x.w.heap.size x.w w' := K
  clear K
  have KB : ∀ W, Below W0.heap.size W0 W → Calls Tryz.prog 235 #[.agg #[.int .i64 dc, .int .i64 dy, .int .i64 dm, .int .i64 dd]] W fun e w' => e = .returned (.agg #[.int .i64 q0, .int .i64 q1, .int .i64 q2, .bool q3]) ∧ Below W.heap.size W w' := fun W hb => K' ⟨W, hb⟩
  have k0 : W0.cell? ⟨w.heap.size, 0, none⟩ = some (.int .i64 a) := c0 ⟨W0, Below.refl _ _⟩
  have k1 : W0.cell? ⟨w.heap.size, 1, none⟩ = some (.int .i64 b) := c1 ⟨W0, Below.refl _ _⟩
  have k2 : W0.cell? ⟨w.heap.size, 2, none⟩ = some (.int .i64 c) := c2 ⟨W0, Below.refl _ _⟩
  have k3 : W0.cell? ⟨w.heap.size, 3, none⟩ = some (.bool t) := c3 ⟨W0, Below.refl _ _⟩
  have l0 : W0.cell? ⟨w.heap.size + 1, 0, none⟩ = some (.int .i64 dc) := d0 ⟨W0, Below.refl _ _⟩
  have l1 : W0.cell? ⟨w.heap.size + 1, 1, none⟩ = some (.int .i64 dy) := d1 ⟨W0, Below.refl _ _⟩
  have l2 : W0.cell? ⟨w.heap.size + 1, 2, none⟩ = some (.int .i64 dm) := d2 ⟨W0, Below.refl _ _⟩
  have l3 : W0.cell? ⟨w.heap.size + 1, 3, none⟩ = some (.int .i64 dd) := d3 ⟨W0, Below.refl _ _⟩
  clear K'
  have D0 : Below W0.heap.size W0 W0.drew := (Below.refl _ _).drew
  obtain ⟨B, hB⟩ : ∃ B, B = romEq ⟨q0, q1, q2, q3⟩ ⟨a, b, c, t⟩ := ⟨_, rfl⟩
  rw [← hB]
  have HB := hideP hB
  clear hB
  by_cases h0 : q0 = a
  case neg =>
    obtain rfl : B = false := by rw [HB.out]; simp [romEq, h0]
    clear HB
    go_enter Tryz.func233, Tryz.ntmps233
    go_wp2_with fail
    rw [← HW0.out]
    go_region_with (go_at_call 235; refine (KB _ D0).mono ?_; rintro e w1 ⟨rfl, hb⟩; obtain ⟨x1, rfl⟩ : ∃ x1 : Later W0, w1 = x1.w := ⟨⟨w1, D0.trans (hb.mono D0.size)⟩, rfl⟩; clear hb)
    all_goals go_wp2
    all_goals go_ret
    all_goals exact ⟨rfl, HBl.out x1⟩
  by_cases h1 : q1 = b
  case neg =>
    obtain rfl : B = false := by rw [HB.out]; simp [romEq, h0, h1]
    clear HB
    go_enter Tryz.func233, Tryz.ntmps233
    go_wp2_with fail
    rw [← HW0.out]
    go_region_with (go_at_call 235; refine (KB _ D0).mono ?_; rintro e w1 ⟨rfl, hb⟩; obtain ⟨x1, rfl⟩ : ∃ x1 : Later W0, w1 = x1.w := ⟨⟨w1, D0.trans (hb.mono D0.size)⟩, rfl⟩; clear hb)
    all_goals go_wp2
    all_goals go_ret
    all_goals exact ⟨rfl, HBl.out x1⟩
  by_cases h2 : q2 = c
  case neg =>
    obtain rfl : B = false := by rw [HB.out]; simp [romEq, h0, h1, h2]
    clear HB
    go_enter Tryz.func233, Tryz.ntmps233
    go_wp2_with fail
    rw [← HW0.out]
    go_region_with (go_at_call 235; refine (KB _ D0).mono ?_; rintro e w1 ⟨rfl, hb⟩; obtain ⟨x1, rfl⟩ : ∃ x1 : Later W0, w1 = x1.w := ⟨⟨w1, D0.trans (hb.mono D0.size)⟩, rfl⟩; clear hb)
    all_goals go_wp2
    all_goals go_ret
    all_goals exact ⟨rfl, HBl.out x1⟩
  by_cases h3 : q3 = t
  case neg =>
    obtain rfl : B = false := by rw [HB.out]; simp [romEq, h0, h1, h2, h3]
    clear HB
    go_enter Tryz.func233, Tryz.ntmps233
    go_wp2_with fail
    rw [← HW0.out]
    go_region_with (go_at_call 235; refine (KB _ D0).mono ?_; rintro e w1 ⟨rfl, hb⟩; obtain ⟨x1, rfl⟩ : ∃ x1 : Later W0, w1 = x1.w := ⟨⟨w1, D0.trans (hb.mono D0.size)⟩, rfl⟩; clear hb)
    all_goals go_wp2
    all_goals go_ret
    all_goals exact ⟨rfl, HBl.out x1⟩
  obtain rfl : B = true := by rw [HB.out]; simp [romEq, h0, h1, h2, h3]
  clear HB
  go_enter Tryz.func233, Tryz.ntmps233
  go_wp2_with fail
  rw [← HW0.out]
  go_region_with (go_at_call 235; refine (KB _ D0).mono ?_; rintro e w1 ⟨rfl, hb⟩; obtain ⟨x1, rfl⟩ : ∃ x1 : Later W0, w1 = x1.w := ⟨⟨w1, D0.trans (hb.mono D0.size)⟩, rfl⟩; clear hb)
  all_goals go_wp2
  all_goals go_ret
  all_goals exact ⟨rfl, HBl.out x1⟩
set_option maxHeartbeats 4000000 in
theorem feaDayIn (s : ByteArray) (mv : Bool) (o m d p c y : Int) (w : World) (hs : s.size ≤ maxLen) (hT : Tab w) (hb1 : -1000000 ≤ feaDay c y s mv o m d) (hb2 : feaDay c y s mv o m d ≤ 4000000) (hp1 : 0 ≤ p) (hp2 : p ≤ 99) : Calls Tryz.prog 245 #[.agg #[.string s, .bool mv, .int .i64 o, .int .i64 m, .int .i64 d, .int .i64 p], .int .i64 c, .int .i64 y] w fun e w' => e = .returned (.int .i64 (feaDay c y s mv o m d + p)) ∧ Below w.heap.size w w' := by
  obtain ⟨W0, hW0, hC, hBl⟩ := box_any w #[.string s, .bool mv, .int .i64 o, .int .i64 m, .int .i64 d, .int .i64 p] 172
  have c0 : ∀ x : Later W0, x.w.cell? ⟨w.heap.size, 0, none⟩ = some (.string s) := fun x => (hC x).cell 0 rfl
  have c1 : ∀ x : Later W0, x.w.cell? ⟨w.heap.size, 1, none⟩ = some (.bool mv) := fun x => (hC x).cell 1 rfl
  have c2 : ∀ x : Later W0, x.w.cell? ⟨w.heap.size, 2, none⟩ = some (.int .i64 o) := fun x => (hC x).cell 2 rfl
  have c3 : ∀ x : Later W0, x.w.cell? ⟨w.heap.size, 3, none⟩ = some (.int .i64 m) := fun x => (hC x).cell 3 rfl
  have c4 : ∀ x : Later W0, x.w.cell? ⟨w.heap.size, 4, none⟩ = some (.int .i64 d) := fun x => (hC x).cell 4 rfl
  have c5 : ∀ x : Later W0, x.w.cell? ⟨w.heap.size, 5, none⟩ = some (.int .i64 p) := fun x => (hC x).cell 5 rfl
  have K : ∀ x : Later W0, Calls Tryz.prog 248 #[.int .i64 c, .int .i64 y, .agg #[.string s, .bool mv, .int .i64 o, .int .i64 m, .int .i64 d]] x.w fun e w' => e = .returned (.int .i64 (feaDay c y s mv o m d)) ∧ Below x.w.heap.size x.w w' := fun x => implFeaDay c y s mv o m d x.w hs (hT.later (hBl x))
  have HW0 := hideP hW0
  have HBl := hideP hBl
  clear hW0 hC hBl hT hs
  generalize feaDay c y s mv o m d = fd at *
  go_enter Tryz.func245, Tryz.ntmps245
  go_wp2_with fail
  rw [← HW0.out]
  refine wp_region_later (W := W0) (Below.refl _ _) (by kernel_rfl) (by kernel_rfl) ?_
  repeat (go_big_quiet_step (first | (go_at_call 248; exact calls_later (K _)) | fail))
  refine wpQuiet_nil ?_
  intro _ hw'
  obtain ⟨x1, rfl⟩ := hw'
  go_wp2
  go_ret
  exact ⟨rfl, HBl.out x1⟩
set_option maxHeartbeats 4000000 in
theorem feaIsDate (s : ByteArray) (mv : Bool) (o m d p dc dy dm dd : Int) (w : World) (hs : s.size ≤ maxLen) (hT : Tab w) (hb1 : -1000000 ≤ feaDay dc dy s mv o m d) (hb2 : feaDay dc dy s mv o m d ≤ 4000000) (hp1 : 0 ≤ p) (hp2 : p ≤ 99) : Calls Tryz.prog 246 #[.agg #[.string s, .bool mv, .int .i64 o, .int .i64 m, .int .i64 d, .int .i64 p], .agg #[.int .i64 dc, .int .i64 dy, .int .i64 dm, .int .i64 dd]] w fun e w' => e = .returned (.bool (feaDay dc dy s mv o m d + p == dayOf dc dy dm dd)) ∧ Below w.heap.size w w' := by
  obtain ⟨W0, hW0, hD, hR, hBl⟩ := two_box w #[.string s, .bool mv, .int .i64 o, .int .i64 m, .int .i64 d, .int .i64 p] #[.int .i64 dc, .int .i64 dy, .int .i64 dm, .int .i64 dd] 172 92
  have c0 : ∀ x : Later W0, x.w.cell? ⟨w.heap.size, 0, none⟩ = some (.string s) := fun x => (hD x).cell 0 rfl
  have c1 : ∀ x : Later W0, x.w.cell? ⟨w.heap.size, 1, none⟩ = some (.bool mv) := fun x => (hD x).cell 1 rfl
  have c2 : ∀ x : Later W0, x.w.cell? ⟨w.heap.size, 2, none⟩ = some (.int .i64 o) := fun x => (hD x).cell 2 rfl
  have c3 : ∀ x : Later W0, x.w.cell? ⟨w.heap.size, 3, none⟩ = some (.int .i64 m) := fun x => (hD x).cell 3 rfl
  have c4 : ∀ x : Later W0, x.w.cell? ⟨w.heap.size, 4, none⟩ = some (.int .i64 d) := fun x => (hD x).cell 4 rfl
  have c5 : ∀ x : Later W0, x.w.cell? ⟨w.heap.size, 5, none⟩ = some (.int .i64 p) := fun x => (hD x).cell 5 rfl
  have d0 : ∀ x : Later W0, x.w.cell? ⟨w.heap.size + 1, 0, none⟩ = some (.int .i64 dc) := fun x => (hR x).cell 0 rfl
  have d1 : ∀ x : Later W0, x.w.cell? ⟨w.heap.size + 1, 1, none⟩ = some (.int .i64 dy) := fun x => (hR x).cell 1 rfl
  have d2 : ∀ x : Later W0, x.w.cell? ⟨w.heap.size + 1, 2, none⟩ = some (.int .i64 dm) := fun x => (hR x).cell 2 rfl
  have d3 : ∀ x : Later W0, x.w.cell? ⟨w.heap.size + 1, 3, none⟩ = some (.int .i64 dd) := fun x => (hR x).cell 3 rfl
  have K1 : ∀ x : Later W0, Calls Tryz.prog 245 #[.agg #[.string s, .bool mv, .int .i64 o, .int .i64 m, .int .i64 d, .int .i64 p], .int .i64 dc, .int .i64 dy] x.w fun e w' => e = .returned (.int .i64 (feaDay dc dy s mv o m d + p)) ∧ Below x.w.heap.size x.w w' := fun x => feaDayIn s mv o m d p dc dy x.w hs (hT.later (hBl x)) hb1 hb2 hp1 hp2
  have K2 : ∀ x : Later W0, Calls Tryz.prog 110 #[.agg #[.int .i64 dc, .int .i64 dy, .int .i64 dm, .int .i64 dd]] x.w fun e w' => e = .returned (.int .i64 (dayOf dc dy dm dd)) ∧ Below x.w.heap.size x.w w' := fun x => implDayOf dc dy dm dd x.w (hT.later (hBl x))
  have HW0 := hideP hW0
  have HBl := hideP hBl
  clear hW0 hD hR hBl hT hs hb1 hb2 hp1 hp2
  generalize feaDay dc dy s mv o m d + p = fd at *
  generalize dayOf dc dy dm dd = nd at *
  go_enter Tryz.func246, Tryz.ntmps246
  go_wp2_with fail
  rw [← HW0.out]
  refine wp_region_later (W := W0) (Below.refl _ _) (by kernel_rfl) (by kernel_rfl) ?_
  repeat (go_big_quiet_step (first | (go_at_call 245; exact calls_later (K1 _)) | (go_at_call 110; exact calls_later (K2 _)) | fail))
  refine wpQuiet_nil ?_
  intro _ hw'
  obtain ⟨x1, rfl⟩ := hw'
  go_wp2
  go_ret
  exact ⟨rfl, HBl.out x1⟩
end Go.Proofs.YtdgolaaheakfoaaGreatDoor.ctr
namespace Go.Proofs.YtdgolaaheakfoaaGreatDoor.ctr
open Go.RowKit
theorem date_parts {c n Y m d : Int} (h : dateOf c n = (c, Y, m, d, true)) : (c = 0 ∨ c = 1) ∧ 1 ≤ Y ∧ Y ≤ 3000 ∧ 1 ≤ m ∧ m ≤ 12 ∧ 1 ≤ d ∧ d ≤ monthDays c Y m ∧ d ≤ 31 ∧ first c Y ≤ n ∧ n < first c (Y + 1) ∧ lineD c Y m d = n := by
  obtain ⟨_, hd, hn⟩ := date_back h
  have hl := line_in hd.1 (dateP_month hd).1 (dateP_month hd).2 hd.2.2.2.1 hd.2.2.2.2
  rw [lineD_dayOf hd] at hn
  rw [hn] at hl
  exact ⟨hd.1, hd.2.1, hd.2.2.1, (dateP_month hd).1, (dateP_month hd).2, hd.2.2.2.1, hd.2.2.2.2, (dateP_day hd).2, hl.1, hl.2, hn⟩
theorem date_between {c a n b Y0 m0 d0 Y1 m1 d1 : Int} (ha : dateOf c a = (c, Y0, m0, d0, true)) (hb : dateOf c b = (c, Y1, m1, d1, true)) (h1 : a ≤ n) (h2 : n ≤ b) : ∃ Y m d, dateOf c n = (c, Y, m, d, true) := by
  obtain ⟨hc, y1, _, _, _, _, _, _, f1, _, _⟩ := date_parts ha
  obtain ⟨_, _, y2, _, _, _, _, _, _, f2, _⟩ := date_parts hb
  have g1 := first_le' hc y1
  have g2 := first_le' hc (show Y1 + 1 ≤ 3001 by omega)
  obtain ⟨n1, n2, z1, z2⟩ := year_in hc (show first c 1 ≤ n by omega) (show n < first c 3001 by omega)
  exact ⟨_, _, _, dateOf_yes hc n1 n2 rfl rfl z1 z2⟩
def datedP (c n : Int) : Prop := (dateOf c n).2.2.2.2 = true
def reignP (c s f t n : Int) : Prop := f ≤ n ∧ n ≤ t ∧ styleP s ∧ datedP c f ∧ datedP c n
noncomputable instance (c s f t n : Int) : Decidable (reignP c s f t n) := Classical.propDecidable _
end Go.Proofs.YtdgolaaheakfoaaGreatDoor.ctr
namespace Go.Proofs.YtdgolaaheakfoaaGreatDoor.ctr
open Go.RowKit
theorem whn_cases {k m d a b c : Int} {t : Bool} {f : ByteArray} {p : Int} (h : whnB ⟨k, m, d, ⟨a, b, c, t⟩, f, p⟩ = true) :
    (k = 0 ∧ a = 0 ∧ b = 0 ∧ c = 0 ∧ t = false ∧ f = ⟨#[]⟩ ∧ p = 0 ∧ 1 ≤ m ∧ m ≤ 12 ∧ 1 ≤ d ∧ d ≤ 31) ∨ (k = 1 ∧ m = 0 ∧ d = 0 ∧ f = ⟨#[]⟩ ∧ p = 0 ∧ romB ⟨a, b, c, t⟩ = true) ∨ (k = 2 ∧ m = 0 ∧ d = 0 ∧ a = 0 ∧ b = 0 ∧ c = 0 ∧ t = false ∧ 0 ≤ findFeast f ∧ 0 ≤ p ∧ p ≤ 99) := by
  by_cases h0 : k = 0
  · subst h0
    rw [whnB_0] at h
    simp [inB] at h
    refine .inl ⟨rfl, ?_⟩
    obtain ⟨⟨⟨ha, hb, hc, ht⟩, hf, hp⟩, ⟨m1, m2⟩, d1, d2⟩ := h
    exact ⟨ha, hb, hc, ht, toList_nil hf, hp, m1, m2, d1, d2⟩
  by_cases h1 : k = 1
  · subst h1
    rw [whnB_1] at h
    simp at h
    refine .inr (.inl ⟨rfl, ?_⟩)
    obtain ⟨⟨⟨hm, hd⟩, hf, hp⟩, hr⟩ := h
    exact ⟨hm, hd, toList_nil hf, hp, hr⟩
  by_cases h2 : k = 2
  · subst h2
    rw [whnB_2] at h
    simp [inB] at h
    refine .inr (.inr ⟨rfl, ?_⟩)
    obtain ⟨⟨⟨hm, hd⟩, ha, hb, hc, ht⟩, hz, p1, p2⟩ := h
    exact ⟨hm, hd, ha, hb, hc, ht, hz, p1, p2⟩
  rw [whnB_no h0 h1 h2] at h
  cases h
end Go.Proofs.YtdgolaaheakfoaaGreatDoor.ctr
