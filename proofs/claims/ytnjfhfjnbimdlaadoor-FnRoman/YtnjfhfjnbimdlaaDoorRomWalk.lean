/- The walk of the law FnRoman: for every code of bytes it returns true and turns nothing that was there, where the listed tables hold what they list. -/
import Derived.Test.YtnjfhfjnbimdlaaDoorRomDraw
import Derived.Test.YtnjfhfjnbimdlaaDoorRomReadS
import Derived.Test.YtnjfhfjnbimdlaaDoorRomReadI
import Derived.Test.YtnjfhfjnbimdlaaDoorLawBase
import Derived.Deep.DeepCutAuto
namespace Go.Proofs.YtnjfhfjnbimdlaaDoor.ctr
open Go.RowKit Go.ChangeShapes

theorem below_on {V P w1 : World} (h : Below V.heap.size V P) (hb : Below P.heap.size P w1) : Below V.heap.size V w1 := h.trans (hb.mono h.size)
theorem below_al {V P : World} (h : Below V.heap.size V P) (o : Obj) : Below V.heap.size V (P.alloc o) := h.alloc h.size o
theorem Blk.on {P w1 : World} {b : Nat} {vs : Array Value} {t : TypeId} (h : Blk P b vs t) (hb : Below P.heap.size P w1) : Blk w1 b vs t := h.below hb h.lt
/-- The date of a count has that count. -/
theorem day_back {a b : Int} {q : Rom} {x0 x1 x2 x3 : Int} (h : dayOfRoman a b q = (x0, x1, x2, x3)) (hd : dateOk x0 x1 x2 x3 = true) : romanOf x0 x1 x2 x3 = q := by
  have h1 := day_ok a b q
  rw [h] at h1
  simp only at h1
  rw [hd] at h1
  have h2 := dayR_is h1.symm
  have h3 := romDay_yes h2
  rw [h] at h3
  simp only [Prod.mk.injEq] at h3
  obtain ⟨rfl, rfl, rfl, rfl⟩ := h3
  exact h2.2

set_option maxRecDepth 100000 in
set_option maxHeartbeats 20000000 in
theorem romanWalk (a0 : Option Addr) (len0 cap0 : Nat) (z0 : List Int) (w : World) (w0 : kit.IsRow .u8 w a0 len0 cap0 z0) (tS : Shp w) (tN : Mon w) (tT : Tab w) (tM : Mrk w) :
    Calls Tryd.prog 4 #[.slice a0 len0 cap0] w fun e w' => e = .returned (.bool true) ∧ Below w.heap.size w w' := by
  obtain ⟨hcode, hlen⟩ := code_of w0
  have HT : Hid (∀ W', Below w.heap.size w W' → Tab W') := fun W' hb => tT.later hb
  have HS : Hid (∀ W', Below w.heap.size w W' → Shp W') := fun W' hb => Shp.later tS hb
  have HN : Hid (∀ W', Below w.heap.size w W' → Mon W') := fun W' hb => Mon.later tN hb
  have HM : Hid (∀ W', Below w.heap.size w W' → Mrk W') := fun W' hb => Mrk.later tM hb
  have KC : Hid (∀ W', Below w.heap.size w W' → CodeAt W'.heap.size W' a0 len0) := fun W' hb => CodeAt.up hcode hb
  clear tS tN tT tM hcode w0
  by_cases hbig : (1048576 : Int) < (len0 : Int)
  · have hbd : decide ((1048576 : Int) < (len0 : Int)) = true := by simp; omega
    go_enter Tryd.func4, Tryd.ntmps4
    go_wp2_with fail
    refine (big_ _ _ _ _).mono ?_
    rintro e w' ⟨rfl, rfl⟩
    go_wp2_with fail
    go_ret
    exact ⟨rfl, Below.refl _ _⟩
  have hbd : decide ((1048576 : Int) < (len0 : Int)) = false := by simp; omega
  go_enter Tryd.func4, Tryd.ntmps4
  go_wp2_with fail
  refine (big_ _ _ _ _).mono ?_
  rintro e w' ⟨rfl, hw'⟩
  rw [hw']
  clear hw' w'
  go_wp2_with fail
  refine (drawRomanOf _ a0 len0 cap0 hlen (KC.out _ (Below.refl _ _))).mono ?_
  rintro e W1 ⟨c, yd, m, d, rfl, hb⟩
  have B1 := hideP (below_al (below_on (Below.refl _ _) hb) (.cells #[.int .i64 c, .int .i64 yd, .int .i64 m, .int .i64 d] 25))
  have X1 : Hid (Blk (W1.alloc (.cells #[.int .i64 c, .int .i64 yd, .int .i64 m, .int .i64 d] 25)) W1.heap.size #[.int .i64 c, .int .i64 yd, .int .i64 m, .int .i64 d] 25) := Blk.new W1 _ _
  clear hb  
  go_wp2_with fail
  have KR1 := implRomanOf c yd m d _ (HT.out _ B1.out)
  obtain ⟨r, hr⟩ : ∃ r, romanOf c yd m d = r := ⟨_, rfl⟩
  rw [hr] at KR1
  have HRO := hideP hr
  clear hr
  obtain ⟨r0, r1, r2, r3⟩ := r
  refine (KR1).mono ?_
  rintro e W2 ⟨rfl, hb⟩
  clear KR1
  have X2 := hideP (X1.out.on hb)
  have B2 := hideP (below_al (below_on B1.out hb) (.cells #[.int .i64 r0, .int .i64 r1, .int .i64 r2, .bool r3] 38))
  have X2a := hideP (X2.out.alloc (.cells #[.int .i64 r0, .int .i64 r1, .int .i64 r2, .bool r3] 38))
  clear X2
  have X2 := X2a
  clear X2a
  have R2 : Hid (Blk (W2.alloc (.cells #[.int .i64 r0, .int .i64 r1, .int .i64 r2, .bool r3] 38)) W2.heap.size #[.int .i64 r0, .int .i64 r1, .int .i64 r2, .bool r3] 38) := Blk.new W2 _ _
  clear hb X1 B1
  go_wp2_with fail
  refine (drawDayOfRoman _ a0 len0 cap0 hlen (KC.out _ B2.out)).mono ?_
  rintro e W3 ⟨a, b, ⟨q0, q1, q2, q3⟩, rfl, hb⟩
  have X3 := hideP (X2.out.on hb)
  have R3 := hideP (R2.out.on hb)
  have B3 := hideP (below_al (below_on B2.out hb) (.cells #[.int .i64 q0, .int .i64 q1, .int .i64 q2, .bool q3] 38))
  have X3a := hideP (X3.out.alloc (.cells #[.int .i64 q0, .int .i64 q1, .int .i64 q2, .bool q3] 38))
  clear X3
  have X3 := X3a
  clear X3a
  have R3a := hideP (R3.out.alloc (.cells #[.int .i64 q0, .int .i64 q1, .int .i64 q2, .bool q3] 38))
  clear R3
  have R3 := R3a
  clear R3a
  have Q3 : Hid (Blk (W3.alloc (.cells #[.int .i64 q0, .int .i64 q1, .int .i64 q2, .bool q3] 38)) W3.heap.size #[.int .i64 q0, .int .i64 q1, .int .i64 q2, .bool q3] 38) := Blk.new W3 _ _
  clear hb X2 R2 B2
  go_wp2_with fail
  have KD1 := implDayOfRoman a b ⟨q0, q1, q2, q3⟩ _ (HT.out _ B3.out)
  obtain ⟨x, hx⟩ : ∃ x, dayOfRoman a b ⟨q0, q1, q2, q3⟩ = x := ⟨_, rfl⟩
  rw [hx] at KD1
  have HDO := hideP hx
  clear hx
  obtain ⟨x0, x1, x2, x3⟩ := x
  refine (KD1).mono ?_
  rintro e W4 ⟨rfl, hb⟩
  clear KD1
  have X4 := hideP (X3.out.on hb)
  have R4 := hideP (R3.out.on hb)
  have Q4 := hideP (Q3.out.on hb)
  have B4 := hideP (below_al (below_on B3.out hb) (.cells #[.int .i64 x0, .int .i64 x1, .int .i64 x2, .int .i64 x3] 25))
  have X4a := hideP (X4.out.alloc (.cells #[.int .i64 x0, .int .i64 x1, .int .i64 x2, .int .i64 x3] 25))
  clear X4
  have X4 := X4a
  clear X4a
  have R4a := hideP (R4.out.alloc (.cells #[.int .i64 x0, .int .i64 x1, .int .i64 x2, .int .i64 x3] 25))
  clear R4
  have R4 := R4a
  clear R4a
  have Q4a := hideP (Q4.out.alloc (.cells #[.int .i64 x0, .int .i64 x1, .int .i64 x2, .int .i64 x3] 25))
  clear Q4
  have Q4 := Q4a
  clear Q4a
  have D4 : Hid (Blk (W4.alloc (.cells #[.int .i64 x0, .int .i64 x1, .int .i64 x2, .int .i64 x3] 25)) W4.heap.size #[.int .i64 x0, .int .i64 x1, .int .i64 x2, .int .i64 x3] 25) := Blk.new W4 _ _
  clear hb X3 R3 Q3 B3
  go_wp2_with fail
  refine (drawRomanText _ a0 len0 cap0 hlen (KC.out _ B4.out)).mono ?_
  rintro e W5 ⟨⟨t0, t1, t2, t3⟩, rfl, hb⟩
  have X5 := hideP (X4.out.on hb)
  have R5 := hideP (R4.out.on hb)
  have Q5 := hideP (Q4.out.on hb)
  have D5 := hideP (D4.out.on hb)
  have B5 := hideP (below_al (below_on B4.out hb) (.cells #[.int .i64 t0, .int .i64 t1, .int .i64 t2, .bool t3] 38))
  have X5a := hideP (X5.out.alloc (.cells #[.int .i64 t0, .int .i64 t1, .int .i64 t2, .bool t3] 38))
  clear X5
  have X5 := X5a
  clear X5a
  have R5a := hideP (R5.out.alloc (.cells #[.int .i64 t0, .int .i64 t1, .int .i64 t2, .bool t3] 38))
  clear R5
  have R5 := R5a
  clear R5a
  have Q5a := hideP (Q5.out.alloc (.cells #[.int .i64 t0, .int .i64 t1, .int .i64 t2, .bool t3] 38))
  clear Q5
  have Q5 := Q5a
  clear Q5a
  have D5a := hideP (D5.out.alloc (.cells #[.int .i64 t0, .int .i64 t1, .int .i64 t2, .bool t3] 38))
  clear D5
  have D5 := D5a
  clear D5a
  have U5 : Hid (Blk (W5.alloc (.cells #[.int .i64 t0, .int .i64 t1, .int .i64 t2, .bool t3] 38)) W5.heap.size #[.int .i64 t0, .int .i64 t1, .int .i64 t2, .bool t3] 38) := Blk.new W5 _ _
  clear hb X4 R4 Q4 D4 B4
  go_wp2_with fail
  have KT1 := implRomanText ⟨t0, t1, t2, t3⟩ _ (HT.out _ B5.out) (HS.out _ B5.out) (HM.out _ B5.out) (HN.out _ B5.out)
  obtain ⟨s, hs⟩ : ∃ s, romanText ⟨t0, t1, t2, t3⟩ = s := ⟨_, rfl⟩
  have hss := text_size ⟨t0, t1, t2, t3⟩
  rw [hs] at KT1 hss
  have HTX := hideP hs
  clear hs
  refine (KT1).mono ?_
  rintro e W6 ⟨rfl, hb⟩
  clear KT1
  have X6 := hideP (X5.out.on hb)
  have R6 := hideP (R5.out.on hb)
  have Q6 := hideP (Q5.out.on hb)
  have D6 := hideP (D5.out.on hb)
  have U6 := hideP (U5.out.on hb)
  have B6 := hideP (below_on B5.out hb)
  clear hb X5 R5 Q5 D5 U5 B5
  go_wp2_with fail
  refine (drawReadRoman _ a0 len0 cap0 hlen (KC.out _ B6.out)).mono ?_
  rintro e W7 ⟨u, rfl, hus, hb⟩
  have X7 := hideP (X6.out.on hb)
  have R7 := hideP (R6.out.on hb)
  have Q7 := hideP (Q6.out.on hb)
  have D7 := hideP (D6.out.on hb)
  have U7 := hideP (U6.out.on hb)
  have B7 := hideP (below_on B6.out hb)
  clear hb X6 R6 Q6 D6 U6 B6
  go_wp2_with fail
  have KI1 := implReadRoman u _ (by omega) (HT.out _ B7.out) (HS.out _ B7.out) (HM.out _ B7.out) (HN.out _ B7.out)
  have KS1 := fun W => specReadRoman u W (by omega)
  obtain ⟨y, hy⟩ : ∃ y, readRoman u = y := ⟨_, rfl⟩
  rw [hy] at KI1
  simp only [hy] at KS1
  have HRD := hideP hy
  clear hy
  obtain ⟨⟨y0, y1, y2, y3⟩, ok⟩ := y
  refine (KI1).mono ?_
  rintro e W8 ⟨rfl, hb⟩
  clear KI1
  have X8 := hideP (X7.out.on hb)
  have R8 := hideP (R7.out.on hb)
  have Q8 := hideP (Q7.out.on hb)
  have D8 := hideP (D7.out.on hb)
  have U8 := hideP (U7.out.on hb)
  have B8 := hideP (below_al (below_on B7.out hb) (.cells #[.int .i64 y0, .int .i64 y1, .int .i64 y2, .bool y3] 38))
  have X8a := hideP (X8.out.alloc (.cells #[.int .i64 y0, .int .i64 y1, .int .i64 y2, .bool y3] 38))
  clear X8
  have X8 := X8a
  clear X8a
  have R8a := hideP (R8.out.alloc (.cells #[.int .i64 y0, .int .i64 y1, .int .i64 y2, .bool y3] 38))
  clear R8
  have R8 := R8a
  clear R8a
  have Q8a := hideP (Q8.out.alloc (.cells #[.int .i64 y0, .int .i64 y1, .int .i64 y2, .bool y3] 38))
  clear Q8
  have Q8 := Q8a
  clear Q8a
  have D8a := hideP (D8.out.alloc (.cells #[.int .i64 y0, .int .i64 y1, .int .i64 y2, .bool y3] 38))
  clear D8
  have D8 := D8a
  clear D8a
  have U8a := hideP (U8.out.alloc (.cells #[.int .i64 y0, .int .i64 y1, .int .i64 y2, .bool y3] 38))
  clear U8
  have U8 := U8a
  clear U8a
  have Y8 : Hid (Blk (W8.alloc (.cells #[.int .i64 y0, .int .i64 y1, .int .i64 y2, .bool y3] 38)) W8.heap.size #[.int .i64 y0, .int .i64 y1, .int .i64 y2, .bool y3] 38) := Blk.new W8 _ _
  clear hb X7 R7 Q7 D7 U7 B7
  go_wp2_with fail
  refine (KS1 _).mono ?_
  rintro e W9 ⟨rfl, hb⟩
  clear KS1
  have X9 := hideP (X8.out.on hb)
  have R9 := hideP (R8.out.on hb)
  have Q9 := hideP (Q8.out.on hb)
  have D9 := hideP (D8.out.on hb)
  have U9 := hideP (U8.out.on hb)
  have Y9 := hideP (Y8.out.on hb)
  have B9 := hideP (below_al (below_on B8.out hb) (.cells #[.int .i64 y0, .int .i64 y1, .int .i64 y2, .bool y3] 38))
  have X9a := hideP (X9.out.alloc (.cells #[.int .i64 y0, .int .i64 y1, .int .i64 y2, .bool y3] 38))
  clear X9
  have X9 := X9a
  clear X9a
  have R9a := hideP (R9.out.alloc (.cells #[.int .i64 y0, .int .i64 y1, .int .i64 y2, .bool y3] 38))
  clear R9
  have R9 := R9a
  clear R9a
  have Q9a := hideP (Q9.out.alloc (.cells #[.int .i64 y0, .int .i64 y1, .int .i64 y2, .bool y3] 38))
  clear Q9
  have Q9 := Q9a
  clear Q9a
  have D9a := hideP (D9.out.alloc (.cells #[.int .i64 y0, .int .i64 y1, .int .i64 y2, .bool y3] 38))
  clear D9
  have D9 := D9a
  clear D9a
  have U9a := hideP (U9.out.alloc (.cells #[.int .i64 y0, .int .i64 y1, .int .i64 y2, .bool y3] 38))
  clear U9
  have U9 := U9a
  clear U9a
  have Y9a := hideP (Y9.out.alloc (.cells #[.int .i64 y0, .int .i64 y1, .int .i64 y2, .bool y3] 38))
  clear Y9
  have Y9 := Y9a
  clear Y9a
  have Z9 : Hid (Blk (W9.alloc (.cells #[.int .i64 y0, .int .i64 y1, .int .i64 y2, .bool y3] 38)) W9.heap.size #[.int .i64 y0, .int .i64 y1, .int .i64 y2, .bool y3] 38) := Blk.new W9 _ _
  clear hb X8 R8 Q8 D8 U8 Y8 B8
  go_wp2_with fail
  refine (drawNones _ a0 len0 cap0 hlen (KC.out _ B9.out)).mono ?_
  rintro e W10 ⟨n1, rfl, hb⟩
  have X10 := hideP (X9.out.on hb)
  have R10 := hideP (R9.out.on hb)
  have Q10 := hideP (Q9.out.on hb)
  have D10 := hideP (D9.out.on hb)
  have U10 := hideP (U9.out.on hb)
  have Y10 := hideP (Y9.out.on hb)
  have Z10 := hideP (Z9.out.on hb)
  have B10 := hideP (below_on B9.out hb)
  clear hb X9 R9 Q9 D9 U9 Y9 Z9 B9
  go_wp2_with fail
  refine (drawIdes _ a0 len0 cap0 hlen (KC.out _ B10.out)).mono ?_
  rintro e W11 ⟨n2, rfl, hb⟩
  have X11 := hideP (X10.out.on hb)
  have R11 := hideP (R10.out.on hb)
  have Q11 := hideP (Q10.out.on hb)
  have D11 := hideP (D10.out.on hb)
  have U11 := hideP (U10.out.on hb)
  have Y11 := hideP (Y10.out.on hb)
  have Z11 := hideP (Z10.out.on hb)
  have B11 := hideP (below_on B10.out hb)
  clear hb X10 R10 Q10 D10 U10 Y10 Z10 B10
  go_wp2_with fail
  have fX0 : ∀ v : Later W11, v.w.cell? ⟨W1.heap.size, 0, none⟩ = some (.int .i64 c) := fun v => (X11.out.later v).cell 0 rfl
  have fX1 : ∀ v : Later W11, v.w.cell? ⟨W1.heap.size, 1, none⟩ = some (.int .i64 yd) := fun v => (X11.out.later v).cell 1 rfl
  have fX2 : ∀ v : Later W11, v.w.cell? ⟨W1.heap.size, 2, none⟩ = some (.int .i64 m) := fun v => (X11.out.later v).cell 2 rfl
  have fX3 : ∀ v : Later W11, v.w.cell? ⟨W1.heap.size, 3, none⟩ = some (.int .i64 d) := fun v => (X11.out.later v).cell 3 rfl
  have fR0 : ∀ v : Later W11, v.w.cell? ⟨W2.heap.size, 0, none⟩ = some (.int .i64 r0) := fun v => (R11.out.later v).cell 0 rfl
  have fR1 : ∀ v : Later W11, v.w.cell? ⟨W2.heap.size, 1, none⟩ = some (.int .i64 r1) := fun v => (R11.out.later v).cell 1 rfl
  have fR2 : ∀ v : Later W11, v.w.cell? ⟨W2.heap.size, 2, none⟩ = some (.int .i64 r2) := fun v => (R11.out.later v).cell 2 rfl
  have fR3 : ∀ v : Later W11, v.w.cell? ⟨W2.heap.size, 3, none⟩ = some (.bool r3) := fun v => (R11.out.later v).cell 3 rfl
  have fQ0 : ∀ v : Later W11, v.w.cell? ⟨W3.heap.size, 0, none⟩ = some (.int .i64 q0) := fun v => (Q11.out.later v).cell 0 rfl
  have fQ1 : ∀ v : Later W11, v.w.cell? ⟨W3.heap.size, 1, none⟩ = some (.int .i64 q1) := fun v => (Q11.out.later v).cell 1 rfl
  have fQ2 : ∀ v : Later W11, v.w.cell? ⟨W3.heap.size, 2, none⟩ = some (.int .i64 q2) := fun v => (Q11.out.later v).cell 2 rfl
  have fQ3 : ∀ v : Later W11, v.w.cell? ⟨W3.heap.size, 3, none⟩ = some (.bool q3) := fun v => (Q11.out.later v).cell 3 rfl
  have fD0 : ∀ v : Later W11, v.w.cell? ⟨W4.heap.size, 0, none⟩ = some (.int .i64 x0) := fun v => (D11.out.later v).cell 0 rfl
  have fD1 : ∀ v : Later W11, v.w.cell? ⟨W4.heap.size, 1, none⟩ = some (.int .i64 x1) := fun v => (D11.out.later v).cell 1 rfl
  have fD2 : ∀ v : Later W11, v.w.cell? ⟨W4.heap.size, 2, none⟩ = some (.int .i64 x2) := fun v => (D11.out.later v).cell 2 rfl
  have fD3 : ∀ v : Later W11, v.w.cell? ⟨W4.heap.size, 3, none⟩ = some (.int .i64 x3) := fun v => (D11.out.later v).cell 3 rfl
  have fU0 : ∀ v : Later W11, v.w.cell? ⟨W5.heap.size, 0, none⟩ = some (.int .i64 t0) := fun v => (U11.out.later v).cell 0 rfl
  have fU1 : ∀ v : Later W11, v.w.cell? ⟨W5.heap.size, 1, none⟩ = some (.int .i64 t1) := fun v => (U11.out.later v).cell 1 rfl
  have fU2 : ∀ v : Later W11, v.w.cell? ⟨W5.heap.size, 2, none⟩ = some (.int .i64 t2) := fun v => (U11.out.later v).cell 2 rfl
  have fU3 : ∀ v : Later W11, v.w.cell? ⟨W5.heap.size, 3, none⟩ = some (.bool t3) := fun v => (U11.out.later v).cell 3 rfl
  have fY0 : ∀ v : Later W11, v.w.cell? ⟨W8.heap.size, 0, none⟩ = some (.int .i64 y0) := fun v => (Y11.out.later v).cell 0 rfl
  have fY1 : ∀ v : Later W11, v.w.cell? ⟨W8.heap.size, 1, none⟩ = some (.int .i64 y1) := fun v => (Y11.out.later v).cell 1 rfl
  have fY2 : ∀ v : Later W11, v.w.cell? ⟨W8.heap.size, 2, none⟩ = some (.int .i64 y2) := fun v => (Y11.out.later v).cell 2 rfl
  have fY3 : ∀ v : Later W11, v.w.cell? ⟨W8.heap.size, 3, none⟩ = some (.bool y3) := fun v => (Y11.out.later v).cell 3 rfl
  have fZ0 : ∀ v : Later W11, v.w.cell? ⟨W9.heap.size, 0, none⟩ = some (.int .i64 y0) := fun v => (Z11.out.later v).cell 0 rfl
  have fZ1 : ∀ v : Later W11, v.w.cell? ⟨W9.heap.size, 1, none⟩ = some (.int .i64 y1) := fun v => (Z11.out.later v).cell 1 rfl
  have fZ2 : ∀ v : Later W11, v.w.cell? ⟨W9.heap.size, 2, none⟩ = some (.int .i64 y2) := fun v => (Z11.out.later v).cell 2 rfl
  have fZ3 : ∀ v : Later W11, v.w.cell? ⟨W9.heap.size, 3, none⟩ = some (.bool y3) := fun v => (Z11.out.later v).cell 3 rfl
  have BX : Hid (∀ v : Later W11, Below w.heap.size w v.w) := fun v => below_on B11.out v.below
  have K1 : ∀ v : Later W11, Calls Tryd.prog 39 #[.agg #[.int .i64 c, .int .i64 yd, .int .i64 m, .int .i64 d]] v.w fun e w' => e = .returned (romV ⟨r0, r1, r2, r3⟩) ∧ Below v.w.heap.size v.w w' := fun v => by rw [← HRO.out]; exact specRomanOf _ _ _ _ v.w
  have K2 : ∀ v : Later W11, Calls Tryd.prog 40 #[.int .i64 a, .int .i64 b, .agg #[.int .i64 q0, .int .i64 q1, .int .i64 q2, .bool q3]] v.w fun e w' => e = .returned (dayV (x0, x1, x2, x3)) ∧ Below v.w.heap.size v.w w' := fun v => by rw [← HDO.out]; exact specDayOfRoman a b ⟨q0, q1, q2, q3⟩ v.w
  have K3 : ∀ v : Later W11, Calls Tryd.prog 41 #[.agg #[.int .i64 t0, .int .i64 t1, .int .i64 t2, .bool t3]] v.w fun e w' => e = .returned (.string s) ∧ Below v.w.heap.size v.w w' := fun v => by rw [← HTX.out]; exact specRomanText ⟨t0, t1, t2, t3⟩ v.w
  have K4 : ∀ W, Calls Tryd.prog 42 #[.int .i64 n1] W fun e w' => e = .returned (.int .i64 (nones n1)) ∧ w' = W := implNones n1
  have K5 : ∀ W, Calls Tryd.prog 43 #[.int .i64 n1] W fun e w' => e = .returned (.int .i64 (nones n1)) ∧ w' = W := specNones n1
  have K6 : ∀ W, Calls Tryd.prog 44 #[.int .i64 n2] W fun e w' => e = .returned (.int .i64 (ides n2)) ∧ w' = W := implIdes n2
  have K7 : ∀ W, Calls Tryd.prog 45 #[.int .i64 n2] W fun e w' => e = .returned (.int .i64 (ides n2)) ∧ w' = W := specIdes n2
  have J1 : ∀ v : Later W11, Calls Tryd.prog 19 #[.agg #[.int .i64 x0, .int .i64 x1, .int .i64 x2, .int .i64 x3]] v.w fun e w' => e = .returned (.bool (dateOk x0 x1 x2 x3)) ∧ Below v.w.heap.size v.w w' := fun v => implDateOk x0 x1 x2 x3 v.w (HT.out _ (BX.out v))
  have J2 : ∀ v : Later W11, Calls Tryd.prog 29 #[.agg #[.int .i64 x0, .int .i64 x1, .int .i64 x2, .int .i64 x3]] v.w fun e w' => e = .returned (romV (romanOf x0 x1 x2 x3)) ∧ Below v.w.heap.size v.w w' := fun v => implRomanOf x0 x1 x2 x3 v.w (HT.out _ (BX.out v))
  have J3 : ∀ v : Later W11, Calls Tryd.prog 33 #[.agg #[.int .i64 y0, .int .i64 y1, .int .i64 y2, .bool y3]] v.w fun e w' => e = .returned (.string (romanText ⟨y0, y1, y2, y3⟩)) ∧ Below v.w.heap.size v.w w' := fun v => implRomanText ⟨y0, y1, y2, y3⟩ v.w (HT.out _ (BX.out v)) (HS.out _ (BX.out v)) (HM.out _ (BX.out v)) (HN.out _ (BX.out v))
  have HJ2 := hideP (fun h => day_back HDO.out h)
  have HJ3 : Hid (ok = true → romanText ⟨y0, y1, y2, y3⟩ = u) := fun h => (romRead_true (HRD.out.trans (by rw [h]))).1
  generalize nones n1 = nn at *
  generalize ides n2 = ni at *
  refine wp_region_later (W := W11) (Below.refl _ _) (by kernel_rfl) (by kernel_rfl) ?_
  repeat (go_big_quiet_step (first | (go_at_call 39; exact calls_later (K1 _)) | (go_at_call 40; exact calls_later (K2 _)) | (go_at_call 41; exact calls_later (K3 _)) | (go_at_call 42; exact calls_same (K4 _)) | (go_at_call 43; exact calls_same (K5 _)) | (go_at_call 44; exact calls_same (K6 _)) | (go_at_call 45; exact calls_same (K7 _))))
  refine wpQuiet_nil ?_
  intro _ hw'
  obtain ⟨v1, rfl⟩ := hw'
  clear K1 K2 K3 K4 K5 K6 K7 KC
  go_upto_region 15 with fail
  go_cut [114] (fun sv wx => sv = .bool false ∧ ∃ v : Later W11, wx = v.w)
  case first =>
    cases hbx : dateOk x0 x1 x2 x3
    · rw [hbx] at J1
      clear hbx HJ2
      cases ok
      · skip
        refine wp_region_later (W := W11) v1.below (by kernel_rfl) (by kernel_rfl) ?_
        repeat (go_big_quiet_step (first | (go_at_call 19; exact calls_later (J1 _)) | (go_at_call 29; exact calls_later (J2 _)) | (go_at_call 33; exact calls_later (J3 _))))
        refine wpQuiet_nil ?_
        intro _ hw'
        obtain ⟨v2, rfl⟩ := hw'
        go_wp2
        go_meet
        exact ⟨rfl, v2, rfl⟩
      · rw [HJ3.out rfl] at J3
        refine wp_region_later (W := W11) v1.below (by kernel_rfl) (by kernel_rfl) ?_
        repeat (go_big_quiet_step (first | (go_at_call 19; exact calls_later (J1 _)) | (go_at_call 29; exact calls_later (J2 _)) | (go_at_call 33; exact calls_later (J3 _))))
        refine wpQuiet_nil ?_
        intro _ hw'
        obtain ⟨v2, rfl⟩ := hw'
        go_wp2
        go_meet
        exact ⟨rfl, v2, rfl⟩
    · rw [HJ2.out hbx] at J2
      rw [hbx] at J1
      clear hbx HJ2
      cases ok
      · skip
        refine wp_region_later (W := W11) v1.below (by kernel_rfl) (by kernel_rfl) ?_
        repeat (go_big_quiet_step (first | (go_at_call 19; exact calls_later (J1 _)) | (go_at_call 29; exact calls_later (J2 _)) | (go_at_call 33; exact calls_later (J3 _))))
        refine wpQuiet_nil ?_
        intro _ hw'
        obtain ⟨v2, rfl⟩ := hw'
        go_wp2
        go_meet
        exact ⟨rfl, v2, rfl⟩
      · rw [HJ3.out rfl] at J3
        refine wp_region_later (W := W11) v1.below (by kernel_rfl) (by kernel_rfl) ?_
        repeat (go_big_quiet_step (first | (go_at_call 19; exact calls_later (J1 _)) | (go_at_call 29; exact calls_later (J2 _)) | (go_at_call 33; exact calls_later (J3 _))))
        refine wpQuiet_nil ?_
        intro _ hw'
        obtain ⟨v2, rfl⟩ := hw'
        go_wp2
        go_meet
        exact ⟨rfl, v2, rfl⟩
  case rest =>
  obtain ⟨rfl, v2, rfl⟩ := hcut
  clear J1 J2 J3 HJ2 HJ3 v1
  obtain ⟨be, hbe⟩ : ∃ be, s.toList.isEmpty = be := ⟨_, rfl⟩
  go_upto_if 116 with fail
  go_cut [2] (fun sv wx => sv = .bool false ∧ ∃ v : Later W11, wx = v.w)
  case first =>
    cases be
    · have hs0 : s.size ≠ 0 := fun h => by rw [empty_t h] at hbe; cases hbe
      have hrb : romB ⟨t0, t1, t2, t3⟩ = true := text_some (by rw [HTX.out]; exact hs0)
      have hbk := romRead_back hrb
      rw [HTX.out] at hbk
      have KR := implReadRoman s v2.w (by omega) (HT.out _ (BX.out v2)) (HS.out _ (BX.out v2)) (HM.out _ (BX.out v2)) (HN.out _ (BX.out v2))
      rw [hbk] at KR
      clear hs0 hrb hbk
      go_wp2_with fail
      refine KR.mono ?_
      rintro e W12 ⟨rfl, hb⟩
      obtain ⟨v3, rfl⟩ := v2.next hb
      clear hb KR
      have g0 : ∀ o, (v3.w.alloc o).cell? ⟨W5.heap.size, 0, none⟩ = some (.int .i64 t0) := fun o => fU0 ⟨v3.w.alloc o, v3.below.alloc v3.below.size o⟩
      have g1 : ∀ o, (v3.w.alloc o).cell? ⟨W5.heap.size, 1, none⟩ = some (.int .i64 t1) := fun o => fU1 ⟨v3.w.alloc o, v3.below.alloc v3.below.size o⟩
      have g2 : ∀ o, (v3.w.alloc o).cell? ⟨W5.heap.size, 2, none⟩ = some (.int .i64 t2) := fun o => fU2 ⟨v3.w.alloc o, v3.below.alloc v3.below.size o⟩
      have g3 : ∀ o, (v3.w.alloc o).cell? ⟨W5.heap.size, 3, none⟩ = some (.bool t3) := fun o => fU3 ⟨v3.w.alloc o, v3.below.alloc v3.below.size o⟩
      go_wp2
      go_meet
      exact ⟨rfl, ⟨v3.w.alloc _, v3.below.alloc v3.below.size _⟩, rfl⟩
    · go_wp2
      go_meet
      exact ⟨rfl, v2, rfl⟩
  case rest =>
  obtain ⟨rfl, v4, rfl⟩ := hcut
  clear v2 hbe
  have L1 : ∀ v : Later W11, Calls Tryd.prog 20 #[.agg #[.int .i64 c, .int .i64 yd, .int .i64 m, .int .i64 d]] v.w fun e w' => e = .returned (.bool (dateOk c yd m d)) ∧ Below v.w.heap.size v.w w' := fun v => specDateOk c yd m d v.w
  have L2 : ∀ v : Later W11, Calls Tryd.prog 31 #[.int .i64 c, .int .i64 yd, .agg #[.int .i64 r0, .int .i64 r1, .int .i64 r2, .bool r3]] v.w fun e w' => e = .returned (dayV (dayOfRoman c yd ⟨r0, r1, r2, r3⟩)) ∧ Below v.w.heap.size v.w w' := fun v => implDayOfRoman c yd ⟨r0, r1, r2, r3⟩ v.w (HT.out _ (BX.out v))
  have L3 : ∀ v : Later W11, Calls Tryd.prog 33 #[.agg #[.int .i64 r0, .int .i64 r1, .int .i64 r2, .bool r3]] v.w fun e w' => e = .returned (.string (romanText ⟨r0, r1, r2, r3⟩)) ∧ Below v.w.heap.size v.w w' := fun v => implRomanText ⟨r0, r1, r2, r3⟩ v.w (HT.out _ (BX.out v)) (HS.out _ (BX.out v)) (HM.out _ (BX.out v)) (HN.out _ (BX.out v))
  by_cases hdp : dateP c yd m d
  · have hday := romDay_yes (show isDay c yd ⟨r0, r1, r2, r3⟩ m d from ⟨hdp, HRO.out⟩)
    have hrb := romB_any hdp
    rw [HRO.out] at hrb
    have hne := empty_f (text_all hrb).2.2.1
    rw [dateOk_true hdp] at L1
    rw [hday] at L2
    clear hday hrb hdp
    generalize romanText ⟨r0, r1, r2, r3⟩ = TR at *
    go_wp2_with fail
    refine wp_region_later (W := W11) v4.below (by kernel_rfl) (by kernel_rfl) ?_
    repeat (go_big_quiet_step (first | (go_at_call 20; exact calls_later (L1 _)) | (go_at_call 31; exact calls_later (L2 _)) | (go_at_call 33; exact calls_later (L3 _))))
    refine wpQuiet_nil ?_
    intro _ hw'
    obtain ⟨v5, rfl⟩ := hw'
    go_wp2
    go_ret
    exact ⟨rfl, BX.out v5⟩
  · rw [dateOk_false hdp] at L1
    clear hdp L2 L3
    go_wp2_with fail
    refine wp_region_later (W := W11) v4.below (by kernel_rfl) (by kernel_rfl) ?_
    repeat (go_big_quiet_step (first | (go_at_call 20; exact calls_later (L1 _))))
    refine wpQuiet_nil ?_
    intro _ hw'
    obtain ⟨v5, rfl⟩ := hw'
    go_wp2
    go_ret
    exact ⟨rfl, BX.out v5⟩
end Go.Proofs.YtnjfhfjnbimdlaaDoor.ctr
