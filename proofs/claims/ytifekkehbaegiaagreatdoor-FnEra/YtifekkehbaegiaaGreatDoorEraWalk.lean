/- The walk of the law FnEra: for every code of bytes it returns true and turns nothing that was there, where the listed tables hold what they list. -/
import Derived.Test.YtifekkehbaegiaaGreatDoorEraD
import Derived.Test.YtifekkehbaegiaaGreatDoorEraB
import Derived.Test.YtifekkehbaegiaaGreatDoorTexA
import Derived.Test.YtifekkehbaegiaaGreatDoorLawBase
import Derived.Test.YtifekkehbaegiaaGreatDoorRegA
import Derived.Deep.DeepCutAuto
namespace Go.Proofs.YtifekkehbaegiaaGreatDoor.ctr
open Go.RowKit Go.ChangeShapes

theorem bel_on {V P w1 : World} (h : Below V.heap.size V P) (hb : Below P.heap.size P w1) : Below V.heap.size V w1 := h.trans (hb.mono h.size)
/-- An era's block. -/
def EB (W : World) (E : Nat) (ev : Array Value) : Prop := Blk W E ev 25
theorem EB.below {W W' : World} {E : Nat} {ev : Array Value} (h : EB W E ev) (hb : Below W.heap.size W W') : EB W' E ev := Blk.below h hb (Blk.lt h)
theorem EB.cells {W : World} {E : Nat} {s : ByteArray} {st ad cy : Int} (h : EB W E #[.string s, .int .i64 st, .int .i64 ad, .int .i64 cy]) : W.cell? ⟨E, 0, none⟩ = some (.string s) ∧ W.cell? ⟨E, 1, none⟩ = some (.int .i64 st) ∧ W.cell? ⟨E, 2, none⟩ = some (.int .i64 ad) ∧ W.cell? ⟨E, 3, none⟩ = some (.int .i64 cy) :=
  ⟨Blk.cell h 0 rfl, Blk.cell h 1 rfl, Blk.cell h 2 rfl, Blk.cell h 3 rfl⟩
theorem parts_true {s : ByteArray} {y z : Int} (h : (rdParts s y z).2.2 = true) : yearText (rdParts s y z).1 (rdParts s y z).2.1 = s := by
  unfold rdParts at *
  by_cases k : s.size = 0 ∨ yearText y z ≠ s
  · rw [if_pos k] at h
    cases h
  · rw [if_neg k]
    exact Classical.byContradiction fun q => k (.inr q)
theorem read_true {s : ByteArray} (h : (readYr s).2.2 = true) : yearText (readYr s).1 (readYr s).2.1 = s := parts_true h
set_option maxHeartbeats 1000000 in
theorem risingInts (v : Value) (xs : List Int) (w : World) (hx : xs.length ≤ 2000000) (hu : ∀ j, j + 1 < xs.length → xs.getD j 0 < xs.getD (j + 1) 0) (h1 : IntRow w v xs) :
    Calls Tryz.prog 31 #[v] w fun e w' => e = .returned (.bool true) ∧ Below w.heap.size w w' := by
  obtain ⟨a1, c1, rfl, H1⟩ := h1
  have K1 : Hid _ := H1
  have HU := hideP hu
  clear H1 hu
  go_enter Tryz.func31, Tryz.ntmps31
  go_wp2
  go_loopw [3] (fun i wr => ∃ k : Nat, (k = 0 ∨ k < xs.length) ∧ i = .int .i64 ((k : Int) + 1) ∧ ∃ m, wr = w.drewN m) (fun i _ => xs.length - (intOf i).toNat)
  case atStart => exact ⟨0, .inl rfl, rfl, 0, rfl⟩
  case round =>
    obtain ⟨k, hk, rfl, m, rfl⟩ := hrel
    by_cases hlt : k + 1 < xs.length
    · obtain ⟨g1, rfl, _, e1⟩ := K1.out k (by omega)
      obtain ⟨g2, hg, _, e2⟩ := K1.out (k + 1) hlt
      obtain rfl : g1 = g2 := by simpa using hg
      have hlt' := HU.out k hlt
      clear hg
      generalize xs.getD k 0 = x at e1 hlt'
      generalize xs.getD (k + 1) 0 = y at e2 hlt'
      have hd : decide (y ≤ x) = false := decide_eq_false (by omega)
      have hki : (k : Int) + 1 < (xs.length : Int) := by omega
      go_wp2
      go_quiet (fail)
      go_wp2
      exact ⟨⟨k + 1, .inr (by omega), by apply congrArg (Value.int .i64); omega, _, rfl⟩, by simp [intOf]; omega⟩
    · have hki : ¬ (k : Int) + 1 < (xs.length : Int) := by omega
      go_wp2
      go_ret
      exact ⟨rfl, Below_drewN (Below.refl _ _) m⟩
/-- What is asked of a day's number: one of its cycle, or its year's span holds the day. -/
theorem yr_cyc {c : Int} {s : ByteArray} {st ad cy n k : Int} (h : eraYr c s st ad cy n = (k, true)) (hc : 0 < cy) : 1 ≤ k ∧ k ≤ cy := by
  rcases eraYr_cases c s st ad cy n with h' | ⟨y, h1, _, _, h3, _⟩
  · rw [h'] at h; cases h
  · rw [h3] at h
    have e : eraNum ad cy y = k := congrArg Prod.fst h
    rw [← e]
    obtain ⟨_, _, _, _, hcy⟩ := eraOk_parts h1
    rcases hcy with hcy | ⟨d1, _⟩
    · omega
    · exact eraNum_cyc d1
theorem eraR_eq {c : Int} {s : ByteArray} {st ad cy n k : Int} {b : Bool} (h : eraYr c s st ad cy n = (k, b)) : eraR c s st ad cy n = .tuple #[.int .i64 k, .bool b] := by unfold eraR; rw [h]

/-- The nine eras are right, and each is found at its own place. -/
theorem nine_ok (m : Nat) (h : m < 9) : eraOkB (eraAt m).name (eraAt m).st (eraAt m).add (eraAt m).cyc = true := eraOk_nine ⟨m, h⟩
theorem nine_find0 : ∀ m : Fin 9, findEra (eraAt m.val).name = (m.val : Int) := by decide
theorem nine_find (m : Nat) (h : m < 9) : findEra (eraAt m).name = (m : Int) := nine_find0 ⟨m, h⟩

set_option maxRecDepth 100000 in
set_option maxHeartbeats 20000000 in
theorem eraWalk (a0 : Option Addr) (len0 cap0 : Nat) (z0 : List Int) (w : World) (w0 : kit.IsRow .u8 w a0 len0 cap0 z0) (tP : Pow w) (tS : Shp w) (tT : Tab w) :
    Calls Tryz.prog 3 #[.slice a0 len0 cap0] w fun e w' => e = .returned (.bool true) ∧ Below w.heap.size w w' := by
  obtain ⟨hcode, hlen⟩ := code_of w0
  have HT : Hid (∀ W', Below w.heap.size w W' → Tab W') := fun W' hb => tT.later hb
  have HS : Hid (∀ W', Below w.heap.size w W' → Shp W') := fun W' hb => Shp.later tS hb
  have HP : Hid (∀ W', Below w.heap.size w W' → Pow W') := fun W' hb => pow_later tP hb
  have KC : Hid (∀ W', Below w.heap.size w W' → CodeAt W'.heap.size W' a0 len0) := fun W' hb => CodeAt.up hcode hb
  clear tS tT tP hcode w0
  by_cases hbig : (1048576 : Int) < (len0 : Int)
  · have hbd : decide ((1048576 : Int) < (len0 : Int)) = true := by simp; omega
    go_enter Tryz.func3, Tryz.ntmps3
    go_wp2_with fail
    refine (big_ _ _ _ _).mono ?_
    rintro e w' ⟨rfl, rfl⟩
    go_wp2_with fail
    go_ret
    exact ⟨rfl, Below.refl _ _⟩
  have hbd : decide ((1048576 : Int) < (len0 : Int)) = false := by simp; omega
  have B0 : Hid (Below w.heap.size w w) := Below.refl _ _
  go_enter Tryz.func3, Tryz.ntmps3
  go_wp2_with fail
  refine (big_ _ _ _ _).mono ?_
  rintro e w' ⟨rfl, hw'⟩
  rw [hw']
  clear hw' w' 
  go_wp2_with fail
  refine (drawEraOk _ a0 len0 cap0 hlen (KC.out _ B0.out)).mono ?_
  rintro e W1 ⟨s0, st0, ad0, cy0, rfl, hs0, hb⟩
  have B1 := hideP (bel_on B0.out hb)
  clear hb B0
  go_wp2_with fail
  obtain ⟨W2, hV⟩ : ∃ V, V = W1.alloc (.cells #[.string s0, .int .i64 st0, .int .i64 ad0, .int .i64 cy0] 25) := ⟨_, rfl⟩
  have hbA : Below W1.heap.size W1 W2 := by rw [hV]; exact (Below.refl _ _).alloc (Nat.le_refl _) _
  have B2 := hideP (bel_on B1.out hbA)
  have O2 : Hid (EB W2 W1.heap.size #[.string s0, .int .i64 st0, .int .i64 ad0, .int .i64 cy0]) := by unfold Hid; rw [hV]; exact Blk.new _ _ _
  rw [← hV]
  clear hV hbA B1 
  refine (drawEraYear _ a0 len0 cap0 hlen (KC.out _ B2.out)).mono ?_
  rintro e W3 ⟨c, s1, st1, ad1, cy1, n, rfl, hs1, hb⟩
  have B3 := hideP (bel_on B2.out hb)
  have O3 := hideP (O2.out.below hb)
  clear hb B2 O2
  obtain ⟨k, ok, hyr⟩ : ∃ k ok, eraYr c s1 st1 ad1 cy1 n = (k, ok) := ⟨_, _, rfl⟩
  have hz1 : s1.size ≤ maxLen := by unfold maxLen; omega
  have KY1 : ∀ W, Tab W → Calls Tryz.prog 8 #[.int .i64 c, .agg #[.string s1, .int .i64 st1, .int .i64 ad1, .int .i64 cy1], .int .i64 n] W fun e w' => e = .returned (.tuple #[.int .i64 k, .bool ok]) ∧ Below W.heap.size W w' := fun W h => by rw [← eraR_eq hyr]; exact implEraYear c s1 st1 ad1 cy1 n W hz1 h
  have KY2 : ∀ W, Calls Tryz.prog 9 #[.int .i64 c, .agg #[.string s1, .int .i64 st1, .int .i64 ad1, .int .i64 cy1], .int .i64 n] W fun e w' => e = .returned (.tuple #[.int .i64 k, .bool ok]) ∧ Below W.heap.size W w' := fun W => by rw [← eraR_eq hyr]; exact specEraYear c s1 st1 ad1 cy1 n W hz1
  have HCY : Hid (ok = true → 0 < cy1 → 1 ≤ k ∧ k ≤ cy1) := fun h hc => yr_cyc (by rw [hyr, h]) hc
  have HSP : Hid (ok = true → cy1 = 0 → (eraSpan c s1 st1 ad1 cy1 k).1 ≤ n ∧ n ≤ (eraSpan c s1 st1 ad1 cy1 k).2) := fun h hc => by
    have q := span_of (c := c) (s := s1) (st := st1) (add := ad1) (cyc := cy1) (n := n) (by rw [hyr]; exact h) hc
    rw [hyr] at q
    exact q
  have HKB : Hid (0 ≤ k ∧ k ≤ 12000) := by
    have q := eraYr_bound c s1 st1 ad1 cy1 n
    rw [hyr] at q
    exact q
  have KZ1 : ∀ W, Tab W → Calls Tryz.prog 11 #[.int .i64 c, .agg #[.string s1, .int .i64 st1, .int .i64 ad1, .int .i64 cy1], .int .i64 k] W fun e w' => e = .returned (.tuple #[.int .i64 (eraSpan c s1 st1 ad1 cy1 k).1, .int .i64 (eraSpan c s1 st1 ad1 cy1 k).2]) ∧ Below W.heap.size W w' := fun W h => implEraSpan c s1 st1 ad1 cy1 k W hz1 h (by have := HKB.out; omega)
  have KZh := hideP KZ1
  clear hyr KZ1 hz1
  go_wp2_with fail
  obtain ⟨W4, hV⟩ : ∃ V, V = W3.alloc (.cells #[.string s1, .int .i64 st1, .int .i64 ad1, .int .i64 cy1] 25) := ⟨_, rfl⟩
  have hbA : Below W3.heap.size W3 W4 := by rw [hV]; exact (Below.refl _ _).alloc (Nat.le_refl _) _
  have B4 := hideP (bel_on B3.out hbA)
  have O4 := hideP (O3.out.below hbA)
  have E4 : Hid (EB W4 W3.heap.size #[.string s1, .int .i64 st1, .int .i64 ad1, .int .i64 cy1]) := by unfold Hid; rw [hV]; exact Blk.new _ _ _
  rw [← hV]
  clear hV hbA B3 O3
  refine (KY1 _ (HT.out _ B4.out)).mono ?_
  rintro e W5 ⟨rfl, hb⟩
  have B5 := hideP (bel_on B4.out hb)
  have O5 := hideP (O4.out.below hb)
  have E5 := hideP (E4.out.below hb)
  clear hb B4 O4 E4
  obtain ⟨q0, q1, q2, q3⟩ := E5.out.cells
  go_wp2_with fail
  clear q0 q1 q2 q3
  refine (KY2 _).mono ?_
  rintro e W6 ⟨rfl, hb⟩
  have B6 := hideP (bel_on B5.out hb)
  have O6 := hideP (O5.out.below hb)
  have E6 := hideP (E5.out.below hb)
  clear KY1 KY2
  clear hb B5 O5 E5
  go_wp2_with fail
  refine (drawEraSpan _ a0 len0 cap0 hlen (KC.out _ B6.out)).mono ?_
  rintro e W7 ⟨a, s2, st2, ad2, cy2, y, rfl, hs2, hy, hb⟩
  have B7 := hideP (bel_on B6.out hb)
  have O7 := hideP (O6.out.below hb)
  have E7 := hideP (E6.out.below hb)
  clear hb B6 O6 E6
  have hz2 : s2.size ≤ maxLen := by unfold maxLen; omega
  have KS1 : ∀ W, Tab W → Calls Tryz.prog 11 #[.int .i64 a, .agg #[.string s2, .int .i64 st2, .int .i64 ad2, .int .i64 cy2], .int .i64 y] W fun e w' => e = .returned (spanR a s2 st2 ad2 cy2 y) ∧ Below W.heap.size W w' := fun W h => implEraSpan a s2 st2 ad2 cy2 y W hz2 h hy
  have KS2 : ∀ W, Calls Tryz.prog 12 #[.int .i64 a, .agg #[.string s2, .int .i64 st2, .int .i64 ad2, .int .i64 cy2], .int .i64 y] W fun e w' => e = .returned (spanR a s2 st2 ad2 cy2 y) ∧ Below W.heap.size W w' := fun W => specEraSpan a s2 st2 ad2 cy2 y W hz2
  unfold spanR at KS1 KS2
  generalize (eraSpan a s2 st2 ad2 cy2 y).1 = x1 at *
  generalize (eraSpan a s2 st2 ad2 cy2 y).2 = x2 at *
  clear hz2 hy
  go_wp2_with fail
  obtain ⟨W8, hV⟩ : ∃ V, V = W7.alloc (.cells #[.string s2, .int .i64 st2, .int .i64 ad2, .int .i64 cy2] 25) := ⟨_, rfl⟩
  have hbA : Below W7.heap.size W7 W8 := by rw [hV]; exact (Below.refl _ _).alloc (Nat.le_refl _) _
  have B8 := hideP (bel_on B7.out hbA)
  have O8 := hideP (O7.out.below hbA)
  have E8 := hideP (E7.out.below hbA)
  have F8 : Hid (EB W8 W7.heap.size #[.string s2, .int .i64 st2, .int .i64 ad2, .int .i64 cy2]) := by unfold Hid; rw [hV]; exact Blk.new _ _ _
  rw [← hV]
  clear hV hbA B7 O7 E7
  refine (KS1 _ (HT.out _ B8.out)).mono ?_
  rintro e W9 ⟨rfl, hb⟩
  have B9 := hideP (bel_on B8.out hb)
  have O9 := hideP (O8.out.below hb)
  have E9 := hideP (E8.out.below hb)
  have F9 := hideP (F8.out.below hb)
  clear hb B8 O8 E8 F8
  obtain ⟨q0, q1, q2, q3⟩ := F9.out.cells
  go_wp2_with fail
  clear q0 q1 q2 q3
  refine (KS2 _).mono ?_
  rintro e W10 ⟨rfl, hb⟩
  have B10 := hideP (bel_on B9.out hb)
  have O10 := hideP (O9.out.below hb)
  have E10 := hideP (E9.out.below hb)
  have F10 := hideP (F9.out.below hb)
  clear KS1 KS2
  clear hb B9 O9 E9 F9
  clear F10
  go_wp2_with fail
  refine (drawFindEra _ a0 len0 cap0 hlen (KC.out _ B10.out)).mono ?_
  rintro e W11 ⟨g, rfl, hg, hb⟩
  have B11 := hideP (bel_on B10.out hb)
  have O11 := hideP (O10.out.below hb)
  have E11 := hideP (E10.out.below hb)
  clear hb B10 O10 E10
  go_wp2_with fail
  refine (drawEraText _ a0 len0 cap0 hlen (KC.out _ B11.out)).mono ?_
  rintro e W12 ⟨b, nm, day, rfl, hnm, hb⟩
  have B12 := hideP (bel_on B11.out hb)
  have O12 := hideP (O11.out.below hb)
  have E12 := hideP (E11.out.below hb)
  clear hb B11 O11 E11
  go_wp2_with fail
  refine (drawEraDays _ a0 len0 cap0 hlen (KC.out _ B12.out)).mono ?_
  rintro e W13 ⟨c3, kn, num, fr, tt, rfl, hkn, hfr, hto, hb⟩
  have B13 := hideP (bel_on B12.out hb)
  have O13 := hideP (O12.out.below hb)
  have E13 := hideP (E12.out.below hb)
  clear hb B12 O12 E12
  have hL2 := eraDays_len c3 kn num fr tt
  have HUP : Hid (∀ j, j + 1 < (eraDays c3 kn num fr tt).length → (eraDays c3 kn num fr tt).getD j 0 < (eraDays c3 kn num fr tt).getD (j + 1) 0) := fun j hj => eraDays_up c3 kn num fr tt j hj
  have KL1 : ∀ W, Tab W → Calls Tryz.prog 16 #[.int .i64 c3, .string kn, .int .i64 num, .int .i64 fr, .int .i64 tt] W fun e w' => ∃ v, e = .returned v ∧ MovRow W w' v (eraDays c3 kn num fr tt) ∧ Below W.heap.size W w' := fun W h => implEraDays c3 kn num fr tt W h hfr.1 hto.2
  have KL2 : ∀ W, Calls Tryz.prog 28 #[.int .i64 c3, .string kn, .int .i64 num, .int .i64 fr, .int .i64 tt] W fun e w' => ∃ v, e = .returned v ∧ MovRow W w' v (eraDays c3 kn num fr tt) ∧ Below W.heap.size W w' := fun W => specEraDays c3 kn num fr tt W
  generalize eraDays c3 kn num fr tt = L at *
  clear hfr hto hkn
  go_wp2_with fail
  refine (KL1 _ (HT.out _ B13.out)).mono ?_
  rintro e W14 ⟨v, rfl, hr, hb⟩
  have B14 := hideP (bel_on B13.out hb)
  have O14 := hideP (O13.out.below hb)
  have E14 := hideP (E13.out.below hb)
  have R14 := hideP hr.row
  clear hr KL1
  clear hb B13 O13 E13
  go_wp2_with fail
  refine (drawYearText _ a0 len0 cap0 hlen (KC.out _ B14.out)).mono ?_
  rintro e W15 ⟨t, u, rfl, hb⟩
  have B15 := hideP (bel_on B14.out hb)
  have O15 := hideP (O14.out.below hb)
  have E15 := hideP (E14.out.below hb)
  have R15 := hideP (R14.out.below hb)
  clear hb B14 O14 E14 R14
  go_wp2_with fail
  refine (drawReadYear _ a0 len0 cap0 hlen (KC.out _ B15.out)).mono ?_
  rintro e W16 ⟨rs, rfl, hrs, hb⟩
  have B16 := hideP (bel_on B15.out hb)
  have O16 := hideP (O15.out.below hb)
  have E16 := hideP (E15.out.below hb)
  have R16 := hideP (R15.out.below hb)
  clear hb B15 O15 E15 R15
  have hrs2 : rs.size ≤ 1048576 := by omega
  have HRT := hideP (read_true (s := rs))
  have KR1 : ∀ W, Pow W → Calls Tryz.prog 19 #[.string rs] W fun e w' => e = .returned (.tuple #[.int .i64 (readYr rs).1, .int .i64 (readYr rs).2.1, .bool (readYr rs).2.2]) ∧ Below W.heap.size W w' := fun W h => implReadYear rs W hrs2 h
  have KR2 : ∀ W, Calls Tryz.prog 20 #[.string rs] W fun e w' => e = .returned (.tuple #[.int .i64 (readYr rs).1, .int .i64 (readYr rs).2.1, .bool (readYr rs).2.2]) ∧ Below W.heap.size W w' := fun W => specReadYear rs W hrs2
  generalize (readYr rs).1 = p at *
  generalize (readYr rs).2.1 = q at *
  generalize (readYr rs).2.2 = fine at *
  clear hrs2
  go_wp2_with fail
  refine (KR1 _ (HP.out _ B16.out)).mono ?_
  rintro e W17 ⟨rfl, hb⟩
  have B17 := hideP (bel_on B16.out hb)
  have O17 := hideP (O16.out.below hb)
  have E17 := hideP (E16.out.below hb)
  have R17 := hideP (R16.out.below hb)
  clear hb B16 O16 E16 R16
  go_wp2_with fail
  refine (KR2 _).mono ?_
  rintro e W18 ⟨rfl, hb⟩
  have B18 := hideP (bel_on B17.out hb)
  have O18 := hideP (O17.out.below hb)
  have E18 := hideP (E17.out.below hb)
  have R18 := hideP (R17.out.below hb)
  clear KR1 KR2
  clear hb B17 O17 E17 R17
  have hz0 : s0.size ≤ maxLen := by unfold maxLen; omega
  have HBl : Hid (∀ x : Later W18, Below w.heap.size w x.w) := fun x => bel_on B18.out x.below
  have u0 : ∀ x : Later W18, x.w.cell? ⟨W1.heap.size, 0, none⟩ = some (.string s0) := fun x => Blk.cell (O18.out.below x.below) 0 rfl
  have u1 : ∀ x : Later W18, x.w.cell? ⟨W1.heap.size, 1, none⟩ = some (.int .i64 st0) := fun x => Blk.cell (O18.out.below x.below) 1 rfl
  have u2 : ∀ x : Later W18, x.w.cell? ⟨W1.heap.size, 2, none⟩ = some (.int .i64 ad0) := fun x => Blk.cell (O18.out.below x.below) 2 rfl
  have u3 : ∀ x : Later W18, x.w.cell? ⟨W1.heap.size, 3, none⟩ = some (.int .i64 cy0) := fun x => Blk.cell (O18.out.below x.below) 3 rfl
  have K1 : ∀ x : Later W18, Calls Tryz.prog 21 #[.agg #[.string s0, .int .i64 st0, .int .i64 ad0, .int .i64 cy0]] x.w fun e w' => e = .returned (.bool (eraOkB s0 st0 ad0 cy0)) ∧ Below x.w.heap.size x.w w' := fun x => implEraOk s0 st0 ad0 cy0 x.w hz0
  have K2 : ∀ x : Later W18, Calls Tryz.prog 22 #[.agg #[.string s0, .int .i64 st0, .int .i64 ad0, .int .i64 cy0]] x.w fun e w' => e = .returned (.bool (eraOkB s0 st0 ad0 cy0)) ∧ Below x.w.heap.size x.w w' := fun x => specEraOk s0 st0 ad0 cy0 x.w hz0
  have K3 : ∀ x : Later W18, Calls Tryz.prog 23 #[.string g] x.w fun e w' => e = .returned (.int .i64 (findEra g)) ∧ Below x.w.heap.size x.w w' := fun x => implFindEra g x.w
  have K4 : ∀ x : Later W18, Calls Tryz.prog 24 #[.string g] x.w fun e w' => e = .returned (.int .i64 (findEra g)) ∧ Below x.w.heap.size x.w w' := fun x => specFindEra g x.w
  have K5 : ∀ x : Later W18, Calls Tryz.prog 25 #[.int .i64 b, .string nm, .int .i64 day] x.w fun e w' => e = .returned (.string (eraText b nm day)) ∧ Below x.w.heap.size x.w w' := fun x => implEraText b nm day x.w (HT.out _ (HBl.out x)) (HP.out _ (HBl.out x)) (HS.out _ (HBl.out x))
  have K6 : ∀ x : Later W18, Calls Tryz.prog 26 #[.int .i64 b, .string nm, .int .i64 day] x.w fun e w' => e = .returned (.string (eraText b nm day)) ∧ Below x.w.heap.size x.w w' := fun x => specEraText b nm day x.w
  have K8 : ∀ x : Later W18, Calls Tryz.prog 29 #[.int .i64 t, .int .i64 u] x.w fun e w' => e = .returned (.string (yearText t u)) ∧ Below x.w.heap.size x.w w' := fun x => implYearText t u x.w (HP.out _ (HBl.out x))
  have K9 : ∀ x : Later W18, Calls Tryz.prog 30 #[.int .i64 t, .int .i64 u] x.w fun e w' => e = .returned (.string (yearText t u)) ∧ Below x.w.heap.size x.w w' := fun x => specYearText t u x.w
  have KVh : Hid (fine = true → ∀ x : Later W18, Calls Tryz.prog 29 #[.int .i64 p, .int .i64 q] x.w fun e w' => e = .returned (.string rs) ∧ Below x.w.heap.size x.w w') := fun hf x => by
    have z := implYearText p q x.w (HP.out _ (HBl.out x))
    rw [HRT.out hf] at z
    exact z
  generalize eraOkB s0 st0 ad0 cy0 = ob at *
  generalize findEra g = fg at *
  generalize eraText b nm day = tx at *
  generalize yearText t u = yt at *
  clear hz0 HRT
  go_upto_region 18 with fail
  go_cut [213] (fun s213 wx => s213 = .bool false ∧ Hid (Below w.heap.size w wx) ∧ Hid (IntRow wx v L) ∧ Hid (EB wx W3.heap.size #[.string s1, .int .i64 st1, .int .i64 ad1, .int .i64 cy1]))
  case first =>
    obtain ⟨x0, hx0⟩ : ∃ x0 : Later W18, W18.drew = x0.w := ⟨⟨W18.drew, (Below.refl _ _).drew⟩, rfl⟩
    simp only [List.append]
    refine wp_region_any (by kernel_rfl) ?_
    change wpAny _ _ _ _ (44 + 44) _ _ _
    refine any_prefix (C := fun w' => ∃ x : Later W18, w' = x.w) 44 44 (by decide) (Eq.trans (by kernel_rfl) ns18) (Eq.trans (by kernel_rfl) lex18) (Eq.trans (by kernel_rfl) link18) (Eq.trans (by kernel_rfl) wait18) (by kernel_rfl) ⟨x0, hx0⟩ ?_
    simp only [List.take_succ_cons, List.take_zero]
    clear hx0 x0
    repeat (go_big_quiet_step (first | (go_at_call 21; exact calls_later (K1 _)) | (go_at_call 22; exact calls_later (K2 _)) | (go_at_call 23; exact calls_later (K3 _)) | (go_at_call 24; exact calls_later (K4 _)) | (go_at_call 25; exact calls_later (K5 _)) | (go_at_call 26; exact calls_later (K6 _))))
    refine wpQuiet_nil ?_
    intro _ hw'
    obtain ⟨x3, rfl⟩ := hw'
    clear K1 K2 K3 K4 K5 K6 u0 u1 u2 u3
    refine any_moves (g := 43) (G := 169) (ds := [170, 171, 172, 173, 174, 175]) (Eq.trans (by kernel_rfl) ns18) (by kernel_rfl) (by kernel_rfl) (fun _ _ _ _ _ h => h) (mv6 v (.int .i64 c3) (.string kn) (.int .i64 num) (.int .i64 fr) (.int .i64 tt)) 38 44 _ _ _ rfl (Eq.trans (by kernel_rfl) (mvs18 v (.int .i64 c3) (.string kn) (.int .i64 num) (.int .i64 fr) (.int .i64 tt))) rfl ⟨rfl, rfl, rfl, rfl, rfl, rfl, trivial⟩ ?_
    simp only [mv6, putM, Act.put, List.setIfInBounds_toArray, List.set_cons_succ, List.set_cons_zero]
    refine any_one (i := 50) (Eq.trans (by kernel_rfl) (rd18 v (.int .i64 c3) (.string kn) (.int .i64 num) (.int .i64 fr) (.int .i64 tt))) (op_call (args := #[.int .i64 c3, .string kn, .int .i64 num, .int .i64 fr, .int .i64 tt]) (T := fun u w' => IntRow w' u L ∧ Below x3.w.heap.size x3.w w') rfl rfl rfl (by rfl) (by simp only [List.map_toArray, List.map_cons, List.map_nil]; rfl) (enters_of Tryz.func28 (by kernel_rfl) rfl) ((KL2 x3.w).mono fun e w' ⟨v', he, hr, hb⟩ => ⟨v', he, hr.row, hb⟩) ?_)
    rintro v2 w4 ⟨hrow, hb4⟩
    have HROW := hideP hrow
    have LIFT : Hid (∀ y : Later w4, ∃ x : Later W18, y.w = x.w) := fun y => ⟨⟨y.w, bel_on (bel_on x3.below hb4) y.below⟩, rfl⟩
    clear hrow hb4 KL2
    have J7 : ∀ y : Later w4, Calls Tryz.prog 27 #[v, v2] y.w fun e w' => e = .returned (.bool true) ∧ Below y.w.heap.size y.w w' := fun y => by
      have hr := HROW.out.below y.below
      obtain ⟨x, hx⟩ := LIFT.out y
      rw [hx] at hr ⊢
      exact sameInts v v2 L x.w (by omega) (R18.out.below x.below) hr
    have J8 : ∀ y : Later w4, Calls Tryz.prog 29 #[.int .i64 t, .int .i64 u] y.w fun e w' => e = .returned (.string yt) ∧ Below y.w.heap.size y.w w' := fun y => by obtain ⟨x, hx⟩ := LIFT.out y; rw [hx]; exact K8 x
    have J9 : ∀ y : Later w4, Calls Tryz.prog 30 #[.int .i64 t, .int .i64 u] y.w fun e w' => e = .returned (.string yt) ∧ Below y.w.heap.size y.w w' := fun y => by obtain ⟨x, hx⟩ := LIFT.out y; rw [hx]; exact K9 x
    have J10h : Hid (fine = true → ∀ y : Later w4, Calls Tryz.prog 29 #[.int .i64 p, .int .i64 q] y.w fun e w' => e = .returned (.string rs) ∧ Below y.w.heap.size y.w w') := fun hf y => by obtain ⟨x, hx⟩ := LIFT.out y; rw [hx]; exact KVh.out hf x
    clear K8 K9 HROW KVh
    simp only [Act.put, List.setIfInBounds_toArray, List.set_cons_succ, List.set_cons_zero]
    refine any_rest (C := fun w' => ∃ y : Later w4, w' = y.w) 51 37 (by decide) (Eq.trans (by kernel_rfl) ns18) (Eq.trans (by kernel_rfl) (rest18 v (.int .i64 c3) (.string kn) (.int .i64 num) (.int .i64 fr) (.int .i64 tt))) ⟨⟨w4, Below.refl _ _⟩, rfl⟩ ?_
    simp only [List.drop_succ_cons, List.drop_zero]
    cases fine
    · clear J10h
      repeat (go_big_quiet_step (first | (go_at_call 27; exact calls_later (J7 _)) | (go_at_call 29; exact calls_later (J8 _)) | (go_at_call 30; exact calls_later (J9 _))))
      refine wpQuiet_nil ?_
      intro _ hw'
      obtain ⟨y5, rfl⟩ := hw'
      obtain ⟨x5, hx5⟩ := LIFT.out y5
      rw [hx5]
      go_wp2_with fail
      go_meet
      exact ⟨rfl, hideP (HBl.out x5), hideP (R18.out.below x5.below), hideP (E18.out.below x5.below)⟩
    · have J10 := J10h.out rfl
      clear J10h
      repeat (go_big_quiet_step (first | (go_at_call 27; exact calls_later (J7 _)) | (go_at_call_of 29 t; exact calls_later (J8 _)) | (go_at_call 30; exact calls_later (J9 _)) | (go_at_call_of 29 p; exact calls_later (J10 _))))
      refine wpQuiet_nil ?_
      intro _ hw'
      obtain ⟨y5, rfl⟩ := hw'
      obtain ⟨x5, hx5⟩ := LIFT.out y5
      rw [hx5]
      go_wp2_with fail
      go_meet
      exact ⟨rfl, hideP (HBl.out x5), hideP (R18.out.below x5.below), hideP (E18.out.below x5.below)⟩
  case rest =>
  obtain ⟨rfl, C1, D1, E1⟩ := hcut
  clear K1 K2 K3 K4 K5 K6 K8 K9 KVh KL2 u0 u1 u2 u3 HBl B18 R18 E18 O18
  cases ok
  · clear KZh HSP HCY
    obtain ⟨q0, q1, q2, q3⟩ := E1.out.cells
    go_wp2_with fail
    clear q0 q1 q2 q3
    refine (risingInts v L _ (by omega) HUP.out D1.out).mono ?_
    rintro e W' ⟨rfl, hb⟩
    have C2 := hideP (bel_on C1.out hb)
    have E2 := hideP (E1.out.below hb)
    clear hb C1 D1 E1
    obtain ⟨q0, q1, q2, q3⟩ := E2.out.cells
    go_wp2_with fail
    refine (implEras _).mono ?_
    rintro e Wz ⟨vz, rfl, hr, hb⟩
    obtain ⟨g9, cap9, rfl, hg9, H9⟩ := hr.row.at
    have H9h := hideP H9
    have BZ := hideP (bel_on C2.out hb)
    clear hb hr H9
    go_wp2
    go_loopw [40] (fun i wr => ∃ m : Nat, m ≤ 9 ∧ i = .int .i64 (m : Int) ∧ Below Wz.heap.size Wz wr) (fun i _ => 9 - (intOf i).toNat)
    case atStart => exact ⟨0, Nat.zero_le _, rfl, Below.refl _ _⟩
    case round =>
      obtain ⟨m, hm, rfl, hB⟩ := hrel
      have HB := hideP hB
      clear hB
      by_cases hlt : m < 9
      · obtain ⟨d0, d1, d2, d3⟩ := H9h.out wr HB.out m hlt
        have N1 := nine_ok m hlt
        have N2 := nine_find m hlt
        have hsz := eraAt_size0 ⟨m, hlt⟩
        dsimp only at hsz
        have M0 : Hid (∀ W', Below wr.heap.size wr W' → W'.cell? ⟨g9, m * 4, none⟩ = some (.string (eraAt m).name)) := fun W' hb => (H9h.out W' (bel_on HB.out hb) m hlt).1
        have KO1 : ∀ W, Calls Tryz.prog 21 #[.agg #[.string (eraAt m).name, .int .i64 (eraAt m).st, .int .i64 (eraAt m).add, .int .i64 (eraAt m).cyc]] W fun e w' => e = .returned (.bool true) ∧ Below W.heap.size W w' := fun W => by
          have q := implEraOk (eraAt m).name (eraAt m).st (eraAt m).add (eraAt m).cyc W (by unfold maxLen; omega)
          rw [N1] at q
          exact q
        have KF1 : ∀ W, Calls Tryz.prog 23 #[.string (eraAt m).name] W fun e w' => e = .returned (.int .i64 (m : Int)) ∧ Below W.heap.size W w' := fun W => by
          have q := implFindEra (eraAt m).name W
          rw [N2] at q
          exact q
        clear N1 N2
        generalize eraAt m = er at *
        obtain ⟨ns, nst, nad, ncy⟩ := er
        dsimp only at d0 d1 d2 d3 KO1 KF1 M0
        go_wp2_with fail
        refine (KO1 _).mono ?_
        rintro e V1 ⟨rfl, hb⟩
        have m0 := M0.out V1 hb
        have HB1 := hideP (bel_on HB.out hb)
        clear hb d0 d1 d2 d3
        go_wp2_with fail
        refine (KF1 _).mono ?_
        rintro e V2 ⟨rfl, hb⟩
        have HB2 := hideP (bel_on HB1.out hb)
        clear hb m0
        go_wp2
        exact ⟨⟨m + 1, by omega, by go_num, HB2.out⟩, by simp [intOf]; omega⟩
      · go_wp2
        go_ret
        exact ⟨rfl, bel_on BZ.out HB.out⟩
  · rcases (show cy1 = 0 ∨ 0 < cy1 ∨ cy1 < 0 by omega) with hc | hc | hc
    · have hsp := HSP.out rfl hc
      have KZ := KZh.out
      clear KZh HSP HCY
      generalize (eraSpan c s1 st1 ad1 cy1 k).1 = one at *
      generalize (eraSpan c s1 st1 ad1 cy1 k).2 = two at *
      obtain ⟨sp1, sp2⟩ := hsp
      subst hc
      obtain ⟨q0, q1, q2, q3⟩ := E1.out.cells
      go_wp2_with fail
      clear q0 q1 q2 q3
      refine (risingInts v L _ (by omega) HUP.out D1.out).mono ?_
      rintro e W' ⟨rfl, hb⟩
      have C2 := hideP (bel_on C1.out hb)
      have E2 := hideP (E1.out.below hb)
      clear hb C1 D1 E1
      obtain ⟨q0, q1, q2, q3⟩ := E2.out.cells
      go_wp2_with fail
      refine (KZ _ (HT.out _ C2.out)).mono ?_
      rintro e W'' ⟨rfl, hb⟩
      have C4 := hideP (bel_on C2.out hb)
      clear hb q0 q1 q2 q3 C2 E2 KZ
      have hd1 : decide (n < one) = false := decide_eq_false (by omega)
      have hd2 : decide (two < n) = false := decide_eq_false (by omega)
      go_wp2_with fail
      refine (implEras _).mono ?_
      rintro e Wz ⟨vz, rfl, hr, hb⟩
      obtain ⟨g9, cap9, rfl, hg9, H9⟩ := hr.row.at
      have H9h := hideP H9
      have BZ := hideP (bel_on C4.out hb)
      clear hb hr H9
      go_wp2
      go_loopw [40] (fun i wr => ∃ m : Nat, m ≤ 9 ∧ i = .int .i64 (m : Int) ∧ Below Wz.heap.size Wz wr) (fun i _ => 9 - (intOf i).toNat)
      case atStart => exact ⟨0, Nat.zero_le _, rfl, Below.refl _ _⟩
      case round =>
        obtain ⟨m, hm, rfl, hB⟩ := hrel
        have HB := hideP hB
        clear hB
        by_cases hlt : m < 9
        · obtain ⟨d0, d1, d2, d3⟩ := H9h.out wr HB.out m hlt
          have N1 := nine_ok m hlt
          have N2 := nine_find m hlt
          have hsz := eraAt_size0 ⟨m, hlt⟩
          dsimp only at hsz
          have M0 : Hid (∀ W', Below wr.heap.size wr W' → W'.cell? ⟨g9, m * 4, none⟩ = some (.string (eraAt m).name)) := fun W' hb => (H9h.out W' (bel_on HB.out hb) m hlt).1
          have KO1 : ∀ W, Calls Tryz.prog 21 #[.agg #[.string (eraAt m).name, .int .i64 (eraAt m).st, .int .i64 (eraAt m).add, .int .i64 (eraAt m).cyc]] W fun e w' => e = .returned (.bool true) ∧ Below W.heap.size W w' := fun W => by
            have q := implEraOk (eraAt m).name (eraAt m).st (eraAt m).add (eraAt m).cyc W (by unfold maxLen; omega)
            rw [N1] at q
            exact q
          have KF1 : ∀ W, Calls Tryz.prog 23 #[.string (eraAt m).name] W fun e w' => e = .returned (.int .i64 (m : Int)) ∧ Below W.heap.size W w' := fun W => by
            have q := implFindEra (eraAt m).name W
            rw [N2] at q
            exact q
          clear N1 N2
          generalize eraAt m = er at *
          obtain ⟨ns, nst, nad, ncy⟩ := er
          dsimp only at d0 d1 d2 d3 KO1 KF1 M0
          go_wp2_with fail
          refine (KO1 _).mono ?_
          rintro e V1 ⟨rfl, hb⟩
          have m0 := M0.out V1 hb
          have HB1 := hideP (bel_on HB.out hb)
          clear hb d0 d1 d2 d3
          go_wp2_with fail
          refine (KF1 _).mono ?_
          rintro e V2 ⟨rfl, hb⟩
          have HB2 := hideP (bel_on HB1.out hb)
          clear hb m0
          go_wp2
          exact ⟨⟨m + 1, by omega, by go_num, HB2.out⟩, by simp [intOf]; omega⟩
        · go_wp2
          go_ret
          exact ⟨rfl, bel_on BZ.out HB.out⟩
    · obtain ⟨k1, k2⟩ := HCY.out rfl hc
      have hd0 : (cy1 == 0) = false := by simp; omega
      have hd1 : decide (k < 1) = false := decide_eq_false (by omega)
      have hd2 : decide (cy1 < k) = false := decide_eq_false (by omega)
      clear KZh HSP HCY
      obtain ⟨q0, q1, q2, q3⟩ := E1.out.cells
      go_wp2_with fail
      clear q0 q1 q2 q3
      refine (risingInts v L _ (by omega) HUP.out D1.out).mono ?_
      rintro e W' ⟨rfl, hb⟩
      have C2 := hideP (bel_on C1.out hb)
      have E2 := hideP (E1.out.below hb)
      clear hb C1 D1 E1
      obtain ⟨q0, q1, q2, q3⟩ := E2.out.cells
      go_wp2_with fail
      refine (implEras _).mono ?_
      rintro e Wz ⟨vz, rfl, hr, hb⟩
      obtain ⟨g9, cap9, rfl, hg9, H9⟩ := hr.row.at
      have H9h := hideP H9
      have BZ := hideP (bel_on C2.out hb)
      clear hb hr H9
      go_wp2
      go_loopw [40] (fun i wr => ∃ m : Nat, m ≤ 9 ∧ i = .int .i64 (m : Int) ∧ Below Wz.heap.size Wz wr) (fun i _ => 9 - (intOf i).toNat)
      case atStart => exact ⟨0, Nat.zero_le _, rfl, Below.refl _ _⟩
      case round =>
        obtain ⟨m, hm, rfl, hB⟩ := hrel
        have HB := hideP hB
        clear hB
        by_cases hlt : m < 9
        · obtain ⟨d0, d1, d2, d3⟩ := H9h.out wr HB.out m hlt
          have N1 := nine_ok m hlt
          have N2 := nine_find m hlt
          have hsz := eraAt_size0 ⟨m, hlt⟩
          dsimp only at hsz
          have M0 : Hid (∀ W', Below wr.heap.size wr W' → W'.cell? ⟨g9, m * 4, none⟩ = some (.string (eraAt m).name)) := fun W' hb => (H9h.out W' (bel_on HB.out hb) m hlt).1
          have KO1 : ∀ W, Calls Tryz.prog 21 #[.agg #[.string (eraAt m).name, .int .i64 (eraAt m).st, .int .i64 (eraAt m).add, .int .i64 (eraAt m).cyc]] W fun e w' => e = .returned (.bool true) ∧ Below W.heap.size W w' := fun W => by
            have q := implEraOk (eraAt m).name (eraAt m).st (eraAt m).add (eraAt m).cyc W (by unfold maxLen; omega)
            rw [N1] at q
            exact q
          have KF1 : ∀ W, Calls Tryz.prog 23 #[.string (eraAt m).name] W fun e w' => e = .returned (.int .i64 (m : Int)) ∧ Below W.heap.size W w' := fun W => by
            have q := implFindEra (eraAt m).name W
            rw [N2] at q
            exact q
          clear N1 N2
          generalize eraAt m = er at *
          obtain ⟨ns, nst, nad, ncy⟩ := er
          dsimp only at d0 d1 d2 d3 KO1 KF1 M0
          go_wp2_with fail
          refine (KO1 _).mono ?_
          rintro e V1 ⟨rfl, hb⟩
          have m0 := M0.out V1 hb
          have HB1 := hideP (bel_on HB.out hb)
          clear hb d0 d1 d2 d3
          go_wp2_with fail
          refine (KF1 _).mono ?_
          rintro e V2 ⟨rfl, hb⟩
          have HB2 := hideP (bel_on HB1.out hb)
          clear hb m0
          go_wp2
          exact ⟨⟨m + 1, by omega, by go_num, HB2.out⟩, by simp [intOf]; omega⟩
        · go_wp2
          go_ret
          exact ⟨rfl, bel_on BZ.out HB.out⟩
    · have hd0 : (cy1 == 0) = false := by simp; omega
      have hd1 : decide (0 < cy1) = false := decide_eq_false (by omega)
      clear KZh HSP HCY
      obtain ⟨q0, q1, q2, q3⟩ := E1.out.cells
      go_wp2_with fail
      clear q0 q1 q2 q3
      refine (risingInts v L _ (by omega) HUP.out D1.out).mono ?_
      rintro e W' ⟨rfl, hb⟩
      have C2 := hideP (bel_on C1.out hb)
      have E2 := hideP (E1.out.below hb)
      clear hb C1 D1 E1
      obtain ⟨q0, q1, q2, q3⟩ := E2.out.cells
      go_wp2_with fail
      refine (implEras _).mono ?_
      rintro e Wz ⟨vz, rfl, hr, hb⟩
      obtain ⟨g9, cap9, rfl, hg9, H9⟩ := hr.row.at
      have H9h := hideP H9
      have BZ := hideP (bel_on C2.out hb)
      clear hb hr H9
      go_wp2
      go_loopw [40] (fun i wr => ∃ m : Nat, m ≤ 9 ∧ i = .int .i64 (m : Int) ∧ Below Wz.heap.size Wz wr) (fun i _ => 9 - (intOf i).toNat)
      case atStart => exact ⟨0, Nat.zero_le _, rfl, Below.refl _ _⟩
      case round =>
        obtain ⟨m, hm, rfl, hB⟩ := hrel
        have HB := hideP hB
        clear hB
        by_cases hlt : m < 9
        · obtain ⟨d0, d1, d2, d3⟩ := H9h.out wr HB.out m hlt
          have N1 := nine_ok m hlt
          have N2 := nine_find m hlt
          have hsz := eraAt_size0 ⟨m, hlt⟩
          dsimp only at hsz
          have M0 : Hid (∀ W', Below wr.heap.size wr W' → W'.cell? ⟨g9, m * 4, none⟩ = some (.string (eraAt m).name)) := fun W' hb => (H9h.out W' (bel_on HB.out hb) m hlt).1
          have KO1 : ∀ W, Calls Tryz.prog 21 #[.agg #[.string (eraAt m).name, .int .i64 (eraAt m).st, .int .i64 (eraAt m).add, .int .i64 (eraAt m).cyc]] W fun e w' => e = .returned (.bool true) ∧ Below W.heap.size W w' := fun W => by
            have q := implEraOk (eraAt m).name (eraAt m).st (eraAt m).add (eraAt m).cyc W (by unfold maxLen; omega)
            rw [N1] at q
            exact q
          have KF1 : ∀ W, Calls Tryz.prog 23 #[.string (eraAt m).name] W fun e w' => e = .returned (.int .i64 (m : Int)) ∧ Below W.heap.size W w' := fun W => by
            have q := implFindEra (eraAt m).name W
            rw [N2] at q
            exact q
          clear N1 N2
          generalize eraAt m = er at *
          obtain ⟨ns, nst, nad, ncy⟩ := er
          dsimp only at d0 d1 d2 d3 KO1 KF1 M0
          go_wp2_with fail
          refine (KO1 _).mono ?_
          rintro e V1 ⟨rfl, hb⟩
          have m0 := M0.out V1 hb
          have HB1 := hideP (bel_on HB.out hb)
          clear hb d0 d1 d2 d3
          go_wp2_with fail
          refine (KF1 _).mono ?_
          rintro e V2 ⟨rfl, hb⟩
          have HB2 := hideP (bel_on HB1.out hb)
          clear hb m0
          go_wp2
          exact ⟨⟨m + 1, by omega, by go_num, HB2.out⟩, by simp [intOf]; omega⟩
        · go_wp2
          go_ret
          exact ⟨rfl, bel_on BZ.out HB.out⟩
end Go.Proofs.YtifekkehbaegiaaGreatDoor.ctr
