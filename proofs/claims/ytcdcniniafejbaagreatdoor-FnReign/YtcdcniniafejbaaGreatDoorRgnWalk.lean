/- The walk of the law FnReign: for every code of bytes it returns true and turns nothing that was there, where the listed tables hold what they list. -/
import Derived.Test.YtcdcniniafejbaaGreatDoorRgC
import Derived.Test.YtcdcniniafejbaaGreatDoorRgA
import Derived.Deep.DeepCutAuto
namespace Go.Proofs.YtcdcniniafejbaaGreatDoor.ctr
open Go.RowKit Go.ChangeShapes

theorem bel_on {V P w1 : World} (h : Below V.heap.size V P) (hb : Below P.heap.size P w1) : Below V.heap.size V w1 := h.trans (hb.mono h.size)
/-- A reign's block. -/
def EB (W : World) (E : Nat) (ev : Array Value) : Prop := Blk W E ev 29
theorem EB.below {W W' : World} {E : Nat} {ev : Array Value} (h : EB W E ev) (hb : Below W.heap.size W W') : EB W' E ev := Blk.below h hb (Blk.lt h)
theorem EB.cells {W : World} {E : Nat} {s : ByteArray} {f t : Int} (h : EB W E #[.string s, .int .i64 f, .int .i64 t]) : W.cell? ⟨E, 0, none⟩ = some (.string s) ∧ W.cell? ⟨E, 1, none⟩ = some (.int .i64 f) ∧ W.cell? ⟨E, 2, none⟩ = some (.int .i64 t) :=
  ⟨Blk.cell h 0 rfl, Blk.cell h 1 rfl, Blk.cell h 2 rfl⟩
theorem dated_bound {c n : Int} (h : datedP c n) : -1000 ≤ n ∧ n ≤ 1200000 := by
  by_cases g : (c = 0 ∨ c = 1) ∧ 1 ≤ yearOf c n ∧ yearOf c n ≤ 3000 ∧ -1000 ≤ n ∧ n ≤ 1200000
  · exact g.2.2.2
  · unfold datedP dateOf at h
    rw [if_neg g] at h
    cases h
theorem ry_day_bound {c s ru f t n : Int} (h : reignYear c s ru f t n ≠ 0) : -1000 ≤ n ∧ n ≤ 1200000 := dated_bound (ry_some h).1.2.2.2.2
set_option maxHeartbeats 1000000 in
theorem risingInts (v : Value) (xs : List Int) (w : World) (hx : xs.length ≤ 2000000) (hu : ∀ j, j + 1 < xs.length → xs.getD j 0 < xs.getD (j + 1) 0) (h1 : IntRow w v xs) :
    Calls Tryz.prog 31 #[v] w fun e w' => e = .returned (.bool true) ∧ Below w.heap.size w w' := by
  obtain ⟨a1, c1, rfl, H1⟩ := h1
  have K1 : Hid _ := H1
  have HU := hideP hu
  clear H1 hu
  go_enter Tryz.func31, Tryz.ntmps31
  go_wp2
  go_loopw [3] (fun i wr => ∃ k : Nat, (k = 0 ∨ k < xs.length) ∧ i = .int .i64 ((k : Int) + 1) ∧ ∃ m, wr = w.drewN m) (fun i _ => xs.length - (intOf i).toNat)
  case atStart => exact ⟨0, .inl rfl, rfl, 0, rfl⟩
  case round =>
    obtain ⟨k, hk, rfl, m, rfl⟩ := hrel
    by_cases hlt : k + 1 < xs.length
    · obtain ⟨g1, rfl, _, e1⟩ := K1.out k (by omega)
      obtain ⟨g2, hg, _, e2⟩ := K1.out (k + 1) hlt
      obtain rfl : g1 = g2 := by simpa using hg
      have hlt' := HU.out k hlt
      clear hg
      generalize xs.getD k 0 = x at e1 hlt'
      generalize xs.getD (k + 1) 0 = y at e2 hlt'
      have hd : decide (y ≤ x) = false := decide_eq_false (by omega)
      have hki : (k : Int) + 1 < (xs.length : Int) := by omega
      go_wp2
      go_quiet (fail)
      go_wp2
      exact ⟨⟨k + 1, .inr (by omega), by apply congrArg (Value.int .i64); omega, _, rfl⟩, by simp [intOf]; omega⟩
    · have hki : ¬ (k : Int) + 1 < (xs.length : Int) := by omega
      go_wp2
      go_ret
      exact ⟨rfl, Below_drewN (Below.refl _ _) m⟩
theorem run_up {x : Int} {m : Nat} : ∀ j, j + 1 < (run x m).length → (run x m).getD j 0 < (run x m).getD (j + 1) 0 := fun j hj => by
  rw [run_len] at hj
  rw [run_at (show j < m by omega), run_at hj]
  omega
theorem flat_mem {xs : List (Int × Int)} {k : Nat} (h : k < xs.length) : xs.getD k (0, 0) ∈ xs := by
  rw [List.getD, List.getElem?_eq_getElem h]
  exact List.getElem_mem h

set_option maxRecDepth 100000 in
set_option maxHeartbeats 20000000 in
theorem reignWalk (a0 : Option Addr) (len0 cap0 : Nat) (z0 : List Int) (w : World) (w0 : kit.IsRow .u8 w a0 len0 cap0 z0) (tS : Shp w) (tT : Tab w) (q0 : Addr) (tQ : Sent w q0) :
    Calls Tryz.prog 3 #[.slice a0 len0 cap0] w fun e w' => e = .returned (.bool true) ∧ Below w.heap.size w w' := by
  obtain ⟨hcode, hlen⟩ := code_of w0
  have HT : Hid (∀ W', Below w.heap.size w W' → Tab W') := fun W' hb => tT.later hb
  have HS : Hid (∀ W', Below w.heap.size w W' → Shp W') := fun W' hb => Shp.later tS hb
  have HQ : Hid (∀ W', Below w.heap.size w W' → Sent W' q0) := fun W' hb => tQ.later hb
  have KC : Hid (∀ W', Below w.heap.size w W' → CodeAt W'.heap.size W' a0 len0) := fun W' hb => CodeAt.up hcode hb
  clear tS tT tQ hcode w0
  by_cases hbig : (1048576 : Int) < (len0 : Int)
  · have hbd : decide ((1048576 : Int) < (len0 : Int)) = true := by simp; omega
    go_enter Tryz.func3, Tryz.ntmps3
    go_wp2_with fail
    refine (big_ _ _ _ _).mono ?_
    rintro e w' ⟨rfl, rfl⟩
    go_wp2_with fail
    go_ret
    exact ⟨rfl, Below.refl _ _⟩
  have hbd : decide ((1048576 : Int) < (len0 : Int)) = false := by simp; omega
  have B0 : Hid (Below w.heap.size w w) := Below.refl _ _
  go_enter Tryz.func3, Tryz.ntmps3
  go_wp2_with fail
  refine (big_ _ _ _ _).mono ?_
  rintro e w' ⟨rfl, hw'⟩
  rw [hw']
  clear hw' w' 
  go_wp2_with fail
  refine (drawReignsOk _ a0 len0 cap0 hlen (KC.out _ B0.out)).mono ?_
  rintro e W1 ⟨v0, l0, rfl, hr, hb⟩
  have B1 := hideP (bel_on B0.out hb)
  have R1 := hideP (hr.1.1)
  clear hb B0
  clear hr
  go_wp2_with fail
  refine (drawReignAt _ a0 len0 cap0 hlen (KC.out _ B1.out)).mono ?_
  rintro e W2 ⟨v1, l1, n1, rfl, hr, hb⟩
  have B2 := hideP (bel_on B1.out hb)
  have R2 := hideP (R1.out.below hb)
  have S2 := hideP (hr.1.1)
  clear hb B1 R1
  clear hr
  go_wp2_with fail
  refine (drawReignYear _ a0 len0 cap0 hlen (KC.out _ B2.out)).mono ?_
  rintro e W3 ⟨c1, s1, r1, nm1, f1, t1, d1, rfl, hb⟩
  have B3 := hideP (bel_on B2.out hb)
  have R3 := hideP (R2.out.below hb)
  have S3 := hideP (S2.out.below hb)
  clear hb B2 R2 S2
  obtain ⟨k, hk⟩ : ∃ k, reignYear c1 s1 r1 f1 t1 d1 = k := ⟨_, rfl⟩
  have KY1 : ∀ W, Tab W → Calls Tryz.prog 9 #[.int .i64 c1, .int .i64 s1, .int .i64 r1, .agg #[.string nm1, .int .i64 f1, .int .i64 t1], .int .i64 d1] W fun e w' => e = .returned (.int .i64 k) ∧ Below W.heap.size W w' := fun W h => by rw [← hk]; exact implReignYear c1 s1 r1 nm1 f1 t1 d1 W h
  have KY2 : Hid (∀ W, Calls Tryz.prog 25 #[.int .i64 c1, .int .i64 s1, .int .i64 r1, .agg #[.string nm1, .int .i64 f1, .int .i64 t1], .int .i64 d1] W fun e w' => e = .returned (.int .i64 k) ∧ Below W.heap.size W w') := fun W => by rw [← hk]; exact specReignYear c1 s1 r1 nm1 f1 t1 d1 W
  have KY3 : Hid (k ≠ 0 → ∀ W, Tab W → Calls Tryz.prog 9 #[.int .i64 c1, .int .i64 s1, .int .i64 r1, .agg #[.string nm1, .int .i64 f1, .int .i64 t1], .int .i64 f1] W fun e w' => e = .returned (.int .i64 1) ∧ Below W.heap.size W w') := fun h W hT => by
    have q := implReignYear c1 s1 r1 nm1 f1 t1 f1 W hT
    rw [ry_first (n := d1) (by rw [hk]; exact h)] at q
    exact q
  have KY4 : Hid (k ≠ 0 → d1 ≠ f1 → ∃ k2, k - 1 ≤ k2 ∧ ∀ W, Tab W → Calls Tryz.prog 9 #[.int .i64 c1, .int .i64 s1, .int .i64 r1, .agg #[.string nm1, .int .i64 f1, .int .i64 t1], .int .i64 (d1 - 1)] W fun e w' => e = .returned (.int .i64 k2) ∧ Below W.heap.size W w') := fun h hd =>
    ⟨reignYear c1 s1 r1 f1 t1 (d1 - 1), (by rw [← hk]; exact ry_step (by rw [hk]; exact h) hd), fun W hT => implReignYear c1 s1 r1 nm1 f1 t1 (d1 - 1) W hT⟩
  have HKB : Hid (0 ≤ k ∧ k ≤ 3000 ∧ (k ≠ 0 → -1000 ≤ d1 ∧ d1 ≤ 1200000)) := by
    have q := ry_bound (c := c1) (s := s1) (ru := r1) (f := f1) (t := t1) (n := d1)
    rw [hk] at q
    exact ⟨q.1, q.2, fun h => ry_day_bound (by rw [hk]; exact h)⟩
  clear hk
  go_wp2_with fail
  obtain ⟨W4, hV⟩ : ∃ V, V = W3.alloc (.cells #[.string nm1, .int .i64 f1, .int .i64 t1] 29) := ⟨_, rfl⟩
  have hb : Below W3.heap.size W3 W4 := by rw [hV]; exact (Below.refl _ _).alloc (Nat.le_refl _) _
  have EN : Hid (EB W4 W3.heap.size #[.string nm1, .int .i64 f1, .int .i64 t1]) := by unfold Hid; rw [hV]; exact Blk.new _ _ _
  rw [← hV]
  clear hV
  have B4 := hideP (bel_on B3.out hb)
  have R4 := hideP (R3.out.below hb)
  have S4 := hideP (S3.out.below hb)
  have E4 := hideP (EN.out)
  clear hb B3 R3 S3
  clear EN
  obtain ⟨q1, q2, q3⟩ := E4.out.cells
  go_wp2_with fail
  clear q1 q2 q3
  refine (KY1 _ (HT.out _ B4.out)).mono ?_
  rintro e W5 ⟨rfl, hb⟩
  have B5 := hideP (bel_on B4.out hb)
  have R5 := hideP (R4.out.below hb)
  have S5 := hideP (S4.out.below hb)
  have E5 := hideP (E4.out.below hb)
  clear hb B4 R4 S4 E4
  clear KY1
  go_wp2_with fail
  refine (drawReignDays _ a0 len0 cap0 hlen (KC.out _ B5.out)).mono ?_
  rintro e W6 ⟨c2, s2, r2, nm2, f2, t2, d2, rfl, hb⟩
  have B6 := hideP (bel_on B5.out hb)
  have R6 := hideP (R5.out.below hb)
  have S6 := hideP (S5.out.below hb)
  have E6 := hideP (E5.out.below hb)
  clear hb B5 R5 S5 E5
  obtain ⟨x, m, hrun, hm⟩ := rd_run c2 s2 r2 f2 t2 d2
  have KL1 : ∀ W, Tab W → Calls Tryz.prog 11 #[.int .i64 c2, .int .i64 s2, .int .i64 r2, .agg #[.string nm2, .int .i64 f2, .int .i64 t2], .int .i64 d2] W fun e w' => ∃ v, e = .returned v ∧ MovRow W w' v (run x m) ∧ Below W.heap.size W w' := fun W h => by rw [← hrun]; exact implReignDays c2 s2 r2 nm2 f2 t2 d2 W h
  have KL2 : Hid (∀ W, Calls Tryz.prog 27 #[.int .i64 c2, .int .i64 s2, .int .i64 r2, .agg #[.string nm2, .int .i64 f2, .int .i64 t2], .int .i64 d2] W fun e w' => ∃ v, e = .returned v ∧ MovRow W w' v (run x m) ∧ Below W.heap.size W w') := fun W => by rw [← hrun]; exact specReignDays c2 s2 r2 nm2 f2 t2 d2 W
  clear hrun
  go_wp2_with fail
  obtain ⟨W7, hV⟩ : ∃ V, V = W6.alloc (.cells #[.string nm2, .int .i64 f2, .int .i64 t2] 29) := ⟨_, rfl⟩
  have hb : Below W6.heap.size W6 W7 := by rw [hV]; exact (Below.refl _ _).alloc (Nat.le_refl _) _
  have FN : Hid (EB W7 W6.heap.size #[.string nm2, .int .i64 f2, .int .i64 t2]) := by unfold Hid; rw [hV]; exact Blk.new _ _ _
  rw [← hV]
  clear hV
  have B7 := hideP (bel_on B6.out hb)
  have R7 := hideP (R6.out.below hb)
  have S7 := hideP (S6.out.below hb)
  have E7 := hideP (E6.out.below hb)
  have F7 := hideP (FN.out)
  clear hb B6 R6 S6 E6
  clear FN
  obtain ⟨q1, q2, q3⟩ := F7.out.cells
  go_wp2_with fail
  clear q1 q2 q3
  refine (KL1 _ (HT.out _ B7.out)).mono ?_
  rintro e W8 ⟨dv, rfl, hr, hb⟩
  have B8 := hideP (bel_on B7.out hb)
  have R8 := hideP (R7.out.below hb)
  have S8 := hideP (S7.out.below hb)
  have E8 := hideP (E7.out.below hb)
  have F8 := hideP (F7.out.below hb)
  have D8 := hideP (hr.row)
  clear hb B7 R7 S7 E7 F7
  clear hr KL1
  go_wp2_with fail
  refine (drawReignText _ a0 len0 cap0 hlen (KC.out _ B8.out)).mono ?_
  rintro e W9 ⟨c3, s3, r3, v3, l3, n3, rfl, hr, hb⟩
  have B9 := hideP (bel_on B8.out hb)
  have R9 := hideP (R8.out.below hb)
  have S9 := hideP (S8.out.below hb)
  have E9 := hideP (E8.out.below hb)
  have F9 := hideP (F8.out.below hb)
  have D9 := hideP (D8.out.below hb)
  have T9 := hideP (hr.1.1)
  clear hb B8 R8 S8 E8 F8 D8
  have HN3 := hideP hr.1.2.2
  clear hr
  have HTS := hideP (rt_size (c := c3) (s := s3) (ru := r3) (n := n3) HN3.out)
  have HTB := hideP (text_back (c := c3) (s := s3) (ru := r3) (n := n3) HN3.out)
  have KT1 : ∀ W, RRow W v3 l3 → Tab W → Sent W q0 → Shp W → Calls Tryz.prog 13 #[.int .i64 c3, .int .i64 s3, .int .i64 r3, v3, .int .i64 n3] W fun e w' => e = .returned (.string (reignText c3 s3 r3 l3 n3)) ∧ Below W.heap.size W w' := fun W h1 h2 h3 h4 => implReignText c3 s3 r3 v3 l3 n3 q0 W h1 h2 h3 h4
  have KT2 : Hid (∀ W, RRow W v3 l3 → Calls Tryz.prog 28 #[.int .i64 c3, .int .i64 s3, .int .i64 r3, v3, .int .i64 n3] W fun e w' => e = .returned (.string (reignText c3 s3 r3 l3 n3)) ∧ Below W.heap.size W w') := fun W h1 => specReignText c3 s3 r3 v3 l3 n3 W h1
  generalize reignText c3 s3 r3 l3 n3 = tx at *
  go_wp2_with fail
  refine (KT1 _ T9.out (HT.out _ B9.out) (HQ.out _ B9.out) (HS.out _ B9.out)).mono ?_
  rintro e W10 ⟨rfl, hb⟩
  have B10 := hideP (bel_on B9.out hb)
  have R10 := hideP (R9.out.below hb)
  have S10 := hideP (S9.out.below hb)
  have E10 := hideP (E9.out.below hb)
  have F10 := hideP (F9.out.below hb)
  have D10 := hideP (D9.out.below hb)
  have T10 := hideP (T9.out.below hb)
  clear hb B9 R9 S9 E9 F9 D9 T9
  clear KT1
  go_wp2_with fail
  refine (drawReadReign _ a0 len0 cap0 hlen (KC.out _ B10.out)).mono ?_
  rintro e W11 ⟨v4, l4, u, rfl, hu, hr, hb⟩
  have B11 := hideP (bel_on B10.out hb)
  have R11 := hideP (R10.out.below hb)
  have S11 := hideP (S10.out.below hb)
  have E11 := hideP (E10.out.below hb)
  have F11 := hideP (F10.out.below hb)
  have D11 := hideP (D10.out.below hb)
  have T11 := hideP (T10.out.below hb)
  have P11 := hideP (hr.1.1)
  clear hb B10 R10 S10 E10 F10 D10 T10
  have HN4 := hideP hr.1.2.2
  clear hr
  have hu2 : u.size ≤ 1048576 := by omega
  have KR1 : ∀ W, RRow W v4 l4 → Shp W → Calls Tryz.prog 15 #[v4, .string u] W fun e w' => e = .returned (.tuple #[.int .i64 (readR l4 u).1, .int .i64 (readR l4 u).2]) ∧ Below W.heap.size W w' := fun W h1 h2 => implReadReign v4 l4 u W h1 HN4.out hu2 h2
  have KR2 : ∀ W, RRow W v4 l4 → Calls Tryz.prog 16 #[v4, .string u] W fun e w' => e = .returned (.tuple #[.int .i64 (readR l4 u).1, .int .i64 (readR l4 u).2]) ∧ Below W.heap.size W w' := fun W h1 => specReadReign v4 l4 u W h1 hu2
  generalize (readR l4 u).1 = rx at *
  generalize (readR l4 u).2 = rz at *
  go_wp2_with fail
  refine (KR1 _ P11.out (HS.out _ B11.out)).mono ?_
  rintro e W12 ⟨rfl, hb⟩
  have B12 := hideP (bel_on B11.out hb)
  have R12 := hideP (R11.out.below hb)
  have S12 := hideP (S11.out.below hb)
  have E12 := hideP (E11.out.below hb)
  have F12 := hideP (F11.out.below hb)
  have D12 := hideP (D11.out.below hb)
  have T12 := hideP (T11.out.below hb)
  have P12 := hideP (P11.out.below hb)
  clear hb B11 R11 S11 E11 F11 D11 T11 P11
  go_wp2_with fail
  refine (KR2 _ P12.out).mono ?_
  rintro e W13 ⟨rfl, hb⟩
  have B13 := hideP (bel_on B12.out hb)
  have R13 := hideP (R12.out.below hb)
  have S13 := hideP (S12.out.below hb)
  have E13 := hideP (E12.out.below hb)
  have F13 := hideP (F12.out.below hb)
  have D13 := hideP (D12.out.below hb)
  have T13 := hideP (T12.out.below hb)
  have P13 := hideP (P12.out.below hb)
  clear hb B12 R12 S12 E12 F12 D12 T12 P12
  clear KR1 KR2 HN4 hu hu2 P13
  go_wp2_with fail
  refine (drawGaps _ a0 len0 cap0 hlen (KC.out _ B13.out)).mono ?_
  rintro e W14 ⟨v5, l5, g0, g1, rfl, hr, hb⟩
  have B14 := hideP (bel_on B13.out hb)
  have R14 := hideP (R13.out.below hb)
  have S14 := hideP (S13.out.below hb)
  have E14 := hideP (E13.out.below hb)
  have F14 := hideP (F13.out.below hb)
  have D14 := hideP (D13.out.below hb)
  have T14 := hideP (T13.out.below hb)
  have V14 := hideP (hr.1.1)
  clear hb B13 R13 S13 E13 F13 D13 T13
  clear hr
  have hgl := gap_len l5 g0 g1
  have HGF : Hid (∀ j, j < (gaps l5 g0 g1).length → ((gaps l5 g0 g1).getD j (0, 0)).1 ≤ ((gaps l5 g0 g1).getD j (0, 0)).2 ∧ atR l5 ((gaps l5 g0 g1).getD j (0, 0)).1 = -1 ∧ atR l5 ((gaps l5 g0 g1).getD j (0, 0)).2 = -1) := fun j hj => gaps_fact (flat_mem hj)
  have KG1 : ∀ W, RRow W v5 l5 → Tab W → Sent W q0 → Calls Tryz.prog 18 #[v5, .int .i64 g0, .int .i64 g1] W fun e w' => ∃ o, e = .returned o ∧ PMov W w' o (gaps l5 g0 g1) ∧ Below W.heap.size W w' := fun W h1 h2 h3 => implGaps v5 l5 g0 g1 q0 W h1 h2 h3
  have KG2 : ∀ W, RRow W v5 l5 → Calls Tryz.prog 19 #[v5, .int .i64 g0, .int .i64 g1] W fun e w' => ∃ o, e = .returned o ∧ PMov W w' o (gaps l5 g0 g1) ∧ Below W.heap.size W w' := fun W h1 => specGaps v5 l5 g0 g1 W h1
  generalize gaps l5 g0 g1 = gs at *
  go_wp2_with fail
  refine (KG1 _ V14.out (HT.out _ B14.out) (HQ.out _ B14.out)).mono ?_
  rintro e W15 ⟨gv, rfl, hr, hb⟩
  have B15 := hideP (bel_on B14.out hb)
  have R15 := hideP (R14.out.below hb)
  have S15 := hideP (S14.out.below hb)
  have E15 := hideP (E14.out.below hb)
  have F15 := hideP (F14.out.below hb)
  have D15 := hideP (D14.out.below hb)
  have T15 := hideP (T14.out.below hb)
  have V15 := hideP (V14.out.below hb)
  have G15 := hideP (hr.row)
  clear hb B14 R14 S14 E14 F14 D14 T14 V14
  clear hr
  go_wp2_with fail
  refine (KG2 _ V15.out).mono ?_
  rintro e W16 ⟨gw, rfl, hr, hb⟩
  have B16 := hideP (bel_on B15.out hb)
  have R16 := hideP (R15.out.below hb)
  have S16 := hideP (S15.out.below hb)
  have E16 := hideP (E15.out.below hb)
  have F16 := hideP (F15.out.below hb)
  have D16 := hideP (D15.out.below hb)
  have T16 := hideP (T15.out.below hb)
  have V16 := hideP (V15.out.below hb)
  have G16 := hideP (G15.out.below hb)
  have H16 := hideP (hr.row)
  clear hb B15 R15 S15 E15 F15 D15 T15 V15 G15
  clear hr KG1 KG2
  go_wp2_with fail
  refine (drawLastYear _ a0 len0 cap0 hlen (KC.out _ B16.out)).mono ?_
  rintro e W17 ⟨c6, s6, r6, nm6, f6, t6, rfl, hb⟩
  have B17 := hideP (bel_on B16.out hb)
  have R17 := hideP (R16.out.below hb)
  have S17 := hideP (S16.out.below hb)
  have E17 := hideP (E16.out.below hb)
  have F17 := hideP (F16.out.below hb)
  have D17 := hideP (D16.out.below hb)
  have T17 := hideP (T16.out.below hb)
  have V17 := hideP (V16.out.below hb)
  have G17 := hideP (G16.out.below hb)
  have H17 := hideP (H16.out.below hb)
  clear hb B16 R16 S16 E16 F16 D16 T16 V16 G16 H16
  go_wp2_with fail
  obtain ⟨W18, hV⟩ : ∃ V, V = W17.alloc (.cells #[.string nm6, .int .i64 f6, .int .i64 t6] 29) := ⟨_, rfl⟩
  have hb : Below W17.heap.size W17 W18 := by rw [hV]; exact (Below.refl _ _).alloc (Nat.le_refl _) _
  have UN : Hid (EB W18 W17.heap.size #[.string nm6, .int .i64 f6, .int .i64 t6]) := by unfold Hid; rw [hV]; exact Blk.new _ _ _
  rw [← hV]
  clear hV
  have B18 := hideP (bel_on B17.out hb)
  have R18 := hideP (R17.out.below hb)
  have S18 := hideP (S17.out.below hb)
  have E18 := hideP (E17.out.below hb)
  have F18 := hideP (F17.out.below hb)
  have D18 := hideP (D17.out.below hb)
  have T18 := hideP (T17.out.below hb)
  have V18 := hideP (V17.out.below hb)
  have G18 := hideP (G17.out.below hb)
  have H18 := hideP (H17.out.below hb)
  have U18 := hideP (UN.out)
  clear hb B17 R17 S17 E17 F17 D17 T17 V17 G17 H17
  clear UN
  obtain ⟨ga, gc, rfl, HG0⟩ := G18.out
  obtain ⟨ha, hc, rfl, HH0⟩ := H18.out
  clear HG0 HH0
  have HBl : Hid (∀ x : Later W18, Below w.heap.size w x.w) := fun x => bel_on B18.out x.below
  have e0 : ∀ x : Later W18, x.w.cell? ⟨W3.heap.size, 0, none⟩ = some (.string nm1) := fun x => Blk.cell (E18.out.below x.below) 0 rfl
  have e1 : ∀ x : Later W18, x.w.cell? ⟨W3.heap.size, 1, none⟩ = some (.int .i64 f1) := fun x => Blk.cell (E18.out.below x.below) 1 rfl
  have e2 : ∀ x : Later W18, x.w.cell? ⟨W3.heap.size, 2, none⟩ = some (.int .i64 t1) := fun x => Blk.cell (E18.out.below x.below) 2 rfl
  have f0 : ∀ x : Later W18, x.w.cell? ⟨W6.heap.size, 0, none⟩ = some (.string nm2) := fun x => Blk.cell (F18.out.below x.below) 0 rfl
  have f1c : ∀ x : Later W18, x.w.cell? ⟨W6.heap.size, 1, none⟩ = some (.int .i64 f2) := fun x => Blk.cell (F18.out.below x.below) 1 rfl
  have f2c : ∀ x : Later W18, x.w.cell? ⟨W6.heap.size, 2, none⟩ = some (.int .i64 t2) := fun x => Blk.cell (F18.out.below x.below) 2 rfl
  have u0 : ∀ x : Later W18, x.w.cell? ⟨W17.heap.size, 0, none⟩ = some (.string nm6) := fun x => Blk.cell (U18.out.below x.below) 0 rfl
  have u1 : ∀ x : Later W18, x.w.cell? ⟨W17.heap.size, 1, none⟩ = some (.int .i64 f6) := fun x => Blk.cell (U18.out.below x.below) 1 rfl
  have u2 : ∀ x : Later W18, x.w.cell? ⟨W17.heap.size, 2, none⟩ = some (.int .i64 t6) := fun x => Blk.cell (U18.out.below x.below) 2 rfl
  have K1 : ∀ x : Later W18, Calls Tryz.prog 21 #[v0] x.w fun e w' => e = .returned (.bool (reignsOk l0)) ∧ Below x.w.heap.size x.w w' := fun x => implReignsOk v0 l0 q0 x.w (R18.out.below x.below) (HT.out _ (HBl.out x)) (HQ.out _ (HBl.out x))
  have K2 : ∀ x : Later W18, Calls Tryz.prog 22 #[v0] x.w fun e w' => e = .returned (.bool (reignsOk l0)) ∧ Below x.w.heap.size x.w w' := fun x => specReignsOk v0 l0 x.w (R18.out.below x.below)
  have K3 : ∀ x : Later W18, Calls Tryz.prog 23 #[v1, .int .i64 n1] x.w fun e w' => e = .returned (.int .i64 (atR l1 n1)) ∧ Below x.w.heap.size x.w w' := fun x => implReignAt v1 l1 n1 x.w (S18.out.below x.below)
  have K4 : ∀ x : Later W18, Calls Tryz.prog 24 #[v1, .int .i64 n1] x.w fun e w' => e = .returned (.int .i64 (atR l1 n1)) ∧ Below x.w.heap.size x.w w' := fun x => specReignAt v1 l1 n1 x.w (S18.out.below x.below)
  have K5 : ∀ x : Later W18, Calls Tryz.prog 25 #[.int .i64 c1, .int .i64 s1, .int .i64 r1, .agg #[.string nm1, .int .i64 f1, .int .i64 t1], .int .i64 d1] x.w fun e w' => e = .returned (.int .i64 k) ∧ Below x.w.heap.size x.w w' := fun x => KY2.out x.w
  have K6 : ∀ x : Later W18, Calls Tryz.prog 28 #[.int .i64 c3, .int .i64 s3, .int .i64 r3, v3, .int .i64 n3] x.w fun e w' => e = .returned (.string tx) ∧ Below x.w.heap.size x.w w' := fun x => KT2.out x.w (T18.out.below x.below)
  have K7 : ∀ x : Later W18, Calls Tryz.prog 29 #[.int .i64 c6, .int .i64 s6, .int .i64 r6, .agg #[.string nm6, .int .i64 f6, .int .i64 t6]] x.w fun e w' => e = .returned (.int .i64 (reignYear c6 s6 r6 f6 t6 t6)) ∧ Below x.w.heap.size x.w w' := fun x => implLastYear c6 s6 r6 nm6 f6 t6 x.w (HT.out _ (HBl.out x))
  have K8 : ∀ x : Later W18, Calls Tryz.prog 30 #[.int .i64 c6, .int .i64 s6, .int .i64 r6, .agg #[.string nm6, .int .i64 f6, .int .i64 t6]] x.w fun e w' => e = .returned (.int .i64 (reignYear c6 s6 r6 f6 t6 t6)) ∧ Below x.w.heap.size x.w w' := fun x => specLastYear c6 s6 r6 nm6 f6 t6 x.w
  generalize reignsOk l0 = ob at *
  generalize atR l1 n1 = an at *
  generalize reignYear c6 s6 r6 f6 t6 t6 = ly at *
  clear KY2 KT2
  go_upto_region 18 with fail
  go_cut [205] (fun s205 wx => s205 = .bool false ∧ Hid (Below w.heap.size w wx) ∧ Hid (IntRow wx dv (run x m)) ∧ Hid (EB wx W3.heap.size #[.string nm1, .int .i64 f1, .int .i64 t1]) ∧ Hid (RRow wx v3 l3) ∧ Hid (RRow wx v5 l5) ∧ Hid (PRow wx (.slice ga gs.length gc) gs) ∧ Hid (PRow wx (.slice ha gs.length hc) gs))
  case first =>
    as_aux_lemma =>
    obtain ⟨x0, hx0⟩ : ∃ x0 : Later W18, W18.drew = x0.w := ⟨⟨W18.drew, (Below.refl _ _).drew⟩, rfl⟩
    simp only [List.append]
    refine wp_region_any (by kernel_rfl) ?_
    change wpAny _ _ _ _ (50 + 25) _ _ _
    refine any_prefix (C := fun w' => ∃ x : Later W18, w' = x.w) 25 50 (by decide) (Eq.trans (by kernel_rfl) ns18) (Eq.trans (by kernel_rfl) lex18) (Eq.trans (by kernel_rfl) link18) (Eq.trans (by kernel_rfl) wait18) (by kernel_rfl) ⟨x0, hx0⟩ ?_
    simp only [List.take_succ_cons, List.take_zero]
    clear hx0 x0
    repeat (go_big_quiet_step (first | (go_at_call 21; exact calls_later (K1 _)) | (go_at_call 22; exact calls_later (K2 _)) | (go_at_call 23; exact calls_later (K3 _)) | (go_at_call 24; exact calls_later (K4 _)) | (go_at_call 25; exact calls_later (K5 _)) | fail))
    refine wpQuiet_nil ?_
    intro _ hw'
    obtain ⟨x3, rfl⟩ := hw'
    clear K1 K2 K3 K4 K5 e0 e1 e2
    refine any_moves (g := 24) (G := 155) (ds := [156, 157, 158, 159, 161]) (Eq.trans (by kernel_rfl) ns18) (by kernel_rfl) (by kernel_rfl) (fun _ _ _ _ _ h => h) (mv5 dv (.int .i64 c2) (.int .i64 s2) (.int .i64 r2) (.int .i64 d2)) 45 50 _ _ _ rfl (Eq.trans (by kernel_rfl) (mvs18 dv (.int .i64 c2) (.int .i64 s2) (.int .i64 r2) (.int .i64 d2))) rfl ⟨rfl, rfl, rfl, rfl, rfl, trivial⟩ ?_
    simp only [mv5, putM, Act.put, List.setIfInBounds_toArray, List.set_cons_succ, List.set_cons_zero]
    have z0 := f0 x3
    have z1 := f1c x3
    have z2 := f2c x3
    refine any_one (i := 29) (Eq.trans (by kernel_rfl) (rd18 dv (.int .i64 c2) (.int .i64 s2) (.int .i64 r2) (.int .i64 d2))) (op_run (v := .agg #[.string nm2, .int .i64 f2, .int .i64 t2]) rfl rfl (by rfl) (by simp [execOp, go_sem, z0, z1, z2]) ?_)
    simp only [Act.put, List.setIfInBounds_toArray, List.set_cons_succ, List.set_cons_zero]
    refine any_one (i := 31) (Eq.trans (by kernel_rfl) (rc18 dv (.int .i64 c2) (.int .i64 s2) (.int .i64 r2) (.int .i64 d2))) (op_call (args := #[.int .i64 c2, .int .i64 s2, .int .i64 r2, .agg #[.string nm2, .int .i64 f2, .int .i64 t2], .int .i64 d2]) (T := fun u w' => IntRow w' u (run x m) ∧ Below x3.w.heap.size x3.w w') rfl rfl rfl (by rfl) (by simp only [List.map_toArray, List.map_cons, List.map_nil]; rfl) (enters_of Tryz.func27 (by kernel_rfl) rfl) ((KL2.out x3.w).mono fun e w' ⟨v', he, hr, hb⟩ => ⟨v', he, hr.row, hb⟩) ?_)
    rintro v2 w4 ⟨hrow, hb4⟩
    have HROW := hideP hrow
    have LIFT : Hid (∀ y : Later w4, ∃ x : Later W18, y.w = x.w) := fun y => ⟨⟨y.w, bel_on (bel_on x3.below hb4) y.below⟩, rfl⟩
    clear hrow hb4 z0 z1 z2
    have J7 : ∀ y : Later w4, Calls Tryz.prog 26 #[dv, v2] y.w fun e w' => e = .returned (.bool true) ∧ Below y.w.heap.size y.w w' := fun y => by
      have hr := HROW.out.below y.below
      obtain ⟨x', hx⟩ := LIFT.out y
      rw [hx] at hr ⊢
      exact sameInts dv v2 (run x m) x'.w (by rw [run_len]; omega) (D18.out.below x'.below) hr
    have J6 : ∀ y : Later w4, Calls Tryz.prog 28 #[.int .i64 c3, .int .i64 s3, .int .i64 r3, v3, .int .i64 n3] y.w fun e w' => e = .returned (.string tx) ∧ Below y.w.heap.size y.w w' := fun y => by obtain ⟨x, hx⟩ := LIFT.out y; rw [hx]; exact K6 x
    have J8 : ∀ y : Later w4, Calls Tryz.prog 29 #[.int .i64 c6, .int .i64 s6, .int .i64 r6, .agg #[.string nm6, .int .i64 f6, .int .i64 t6]] y.w fun e w' => e = .returned (.int .i64 ly) ∧ Below y.w.heap.size y.w w' := fun y => by obtain ⟨x, hx⟩ := LIFT.out y; rw [hx]; exact K7 x
    have J9 : ∀ y : Later w4, Calls Tryz.prog 30 #[.int .i64 c6, .int .i64 s6, .int .i64 r6, .agg #[.string nm6, .int .i64 f6, .int .i64 t6]] y.w fun e w' => e = .returned (.int .i64 ly) ∧ Below y.w.heap.size y.w w' := fun y => by obtain ⟨x, hx⟩ := LIFT.out y; rw [hx]; exact K8 x
    have y0 : ∀ y : Later w4, y.w.cell? ⟨W17.heap.size, 0, none⟩ = some (.string nm6) := fun y => by obtain ⟨x, hx⟩ := LIFT.out y; rw [hx]; exact u0 x
    have y1 : ∀ y : Later w4, y.w.cell? ⟨W17.heap.size, 1, none⟩ = some (.int .i64 f6) := fun y => by obtain ⟨x, hx⟩ := LIFT.out y; rw [hx]; exact u1 x
    have y2 : ∀ y : Later w4, y.w.cell? ⟨W17.heap.size, 2, none⟩ = some (.int .i64 t6) := fun y => by obtain ⟨x, hx⟩ := LIFT.out y; rw [hx]; exact u2 x
    clear K6 K7 K8 HROW u0 u1 u2 f0 f1c f2c
    simp only [Act.put, List.setIfInBounds_toArray, List.set_cons_succ, List.set_cons_zero]
    refine any_rest (C := fun w' => ∃ y : Later w4, w' = y.w) 32 43 (by decide) (Eq.trans (by kernel_rfl) ns18) (Eq.trans (by kernel_rfl) (rest18 dv (.int .i64 c2) (.int .i64 s2) (.int .i64 r2) (.int .i64 d2))) ⟨⟨w4, Below.refl _ _⟩, rfl⟩ ?_
    simp only [List.drop_succ_cons, List.drop_zero]
    repeat (go_big_quiet_step (first | (go_at_call 26; exact calls_later (J7 _)) | (go_at_call 28; exact calls_later (J6 _)) | (go_at_call 29; exact calls_later (J8 _)) | (go_at_call 30; exact calls_later (J9 _)) | fail))
    refine wpQuiet_nil ?_
    intro _ hw'
    obtain ⟨y5, rfl⟩ := hw'
    obtain ⟨x5, hx5⟩ := LIFT.out y5
    rw [hx5]
    go_wp2_with fail
    go_meet
    exact ⟨rfl, hideP (HBl.out x5), hideP (D18.out.below x5.below), hideP (E18.out.below x5.below), hideP (T18.out.below x5.below), hideP (V18.out.below x5.below), hideP (G18.out.below x5.below), hideP (H18.out.below x5.below)⟩
  case rest =>
  as_aux_lemma =>
  obtain ⟨rfl, C1, D1, E1, T1, V1, G1, H1⟩ := hcut
  clear K1 K2 K3 K4 K5 K6 K7 K8 e0 e1 e2 f0 f1c f2c u0 u1 u2 HBl KL2 B18 R18 S18 E18 F18 D18 T18 V18 G18 H18 U18
  go_wp2
  go_loopw [39] (fun i wr => ∃ j : Nat, j ≤ gs.length ∧ i = .int .i64 (j : Int) ∧ Below wc.heap.size wc wr) (fun i _ => gs.length - (intOf i).toNat)
  case atStart => exact ⟨0, Nat.zero_le _, rfl, Below.refl _ _⟩
  case round =>
  obtain ⟨j, hj, rfl, hB⟩ := hrel
  have HB := hideP hB
  clear hB
  by_cases hlt : j < gs.length
  · obtain ⟨_, _, ee, HG⟩ := G1.out
    cases ee
    obtain ⟨_, _, ee, HH⟩ := H1.out
    cases ee
    obtain ⟨b1, rfl, hb1, x0⟩ := HG (j * 2) (by omega)
    obtain ⟨_, ee, _, x1⟩ := HG (j * 2 + 1) (by omega)
    cases ee
    obtain ⟨b2, rfl, hb2, y0⟩ := HH (j * 2) (by omega)
    obtain ⟨_, ee, _, y1⟩ := HH (j * 2 + 1) (by omega)
    cases ee
    obtain ⟨p1, p2, p3⟩ := HGF.out j hlt
    rw [flat_at0 gs j hlt] at x0 y0
    rw [flat_at1 gs j hlt] at x1 y1
    have A1 : ∀ x : Later wc, Calls Tryz.prog 23 #[v5, .int .i64 (gs.getD j (0, 0)).1] x.w fun e w' => e = .returned (.int .i64 (-1)) ∧ Below x.w.heap.size x.w w' := fun x => by rw [← p2]; exact implReignAt v5 l5 _ x.w (V1.out.below x.below)
    have A2 : ∀ x : Later wc, Calls Tryz.prog 23 #[v5, .int .i64 (gs.getD j (0, 0)).2] x.w fun e w' => e = .returned (.int .i64 (-1)) ∧ Below x.w.heap.size x.w w' := fun x => by rw [← p3]; exact implReignAt v5 l5 _ x.w (V1.out.below x.below)
    have a0 : ∀ x : Later wc, x.w.cell? ⟨b1, j * 2, none⟩ = _ := fun x => Later.at x0 x
    have a1 : ∀ x : Later wc, x.w.cell? ⟨b1, j * 2 + 1, none⟩ = _ := fun x => Later.at x1 x
    have c0 : ∀ x : Later wc, x.w.cell? ⟨b2, j * 2, none⟩ = _ := fun x => Later.at y0 x
    have c1' : ∀ x : Later wc, x.w.cell? ⟨b2, j * 2 + 1, none⟩ = _ := fun x => Later.at y1 x
    clear x0 x1 y0 y1 p2 p3 HG HH
    generalize (gs.getD j (0, 0)).1 = pa at *
    generalize (gs.getD j (0, 0)).2 = pb at *
    have hd : decide (pb < pa) = false := decide_eq_false (by omega)
    go_wp2_with fail
    refine wp_region_later (W := wc) HB.out (by kernel_rfl) (Eq.trans (by kernel_rfl) lexB23) ?_
    repeat (go_big_quiet_step (first | (go_at_call_of 23 pa; exact calls_later (A1 _)) | (go_at_call_of 23 pb; exact calls_later (A2 _)) | fail))
    refine wpQuiet_nil ?_
    intro _ hw'
    obtain ⟨y, rfl⟩ := hw'
    go_wp2
    exact ⟨⟨j + 1, by omega, by go_num, y.below⟩, by simp [intOf]; omega⟩
  have hji : ¬ (j : Int) < (gs.length : Int) := by omega
  have C2 := hideP (bel_on C1.out HB.out)
  have D2 := hideP (D1.out.below HB.out)
  have E2 := hideP (E1.out.below HB.out)
  have T2 := hideP (T1.out.below HB.out)
  clear C1 D1 E1 T1 V1 G1 H1 HB HGF
  obtain ⟨da, dc, rfl, HD⟩ := D2.out
  have JR : ∀ y : Later wr, Calls Tryz.prog 31 #[.slice da (run x m).length dc] y.w fun e w' => e = .returned (.bool true) ∧ Below y.w.heap.size y.w w' := fun y => risingInts _ (run x m) y.w (by rw [run_len]; omega) run_up (D2.out.below y.below)
  rw [run_len] at JR
  have HLB : Hid (∀ y : Later wr, Below w.heap.size w y.w) := fun y => bel_on C2.out y.below
  simp only [run_len]
  go_upto_region 25 with fail
  go_cut [277] (fun s277 wy => s277 = .bool false ∧ Hid (Below w.heap.size w wy) ∧ Hid (EB wy W3.heap.size #[.string nm1, .int .i64 f1, .int .i64 t1]) ∧ Hid (RRow wy v3 l3))
  case first =>
    as_aux_lemma =>
    by_cases hm0 : m = 0
    · subst hm0
      clear HD
      refine wp_region_later (W := wr) (Below.refl _ _) (by kernel_rfl) (Eq.trans (by kernel_rfl) lexB25) ?_
      repeat (go_big_quiet_step (first | (go_at_call 31; exact calls_later (JR _)) | fail))
      refine wpQuiet_nil ?_
      intro _ hw'
      obtain ⟨y, rfl⟩ := hw'
      go_wp2_with fail
      go_meet
      exact ⟨rfl, hideP (HLB.out y), hideP (E2.out.below y.below), hideP (T2.out.below y.below)⟩
    · obtain ⟨m', rfl⟩ : ∃ m', m = m' + 1 := ⟨m - 1, by omega⟩
      obtain ⟨b1, rfl, _, x0⟩ := HD 0 (by rw [run_len]; omega)
      obtain ⟨_, ee, _, x1⟩ := HD m' (by rw [run_len]; omega)
      cases ee
      rw [run_at (by omega)] at x0 x1
      have a0 : ∀ y : Later wr, y.w.cell? ⟨b1, 0, none⟩ = _ := fun y => Later.at x0 y
      have a1 : ∀ y : Later wr, y.w.cell? ⟨b1, m', none⟩ = _ := fun y => Later.at x1 y
      clear x0 x1 HD
      refine wp_region_later (W := wr) (Below.refl _ _) (by kernel_rfl) (Eq.trans (by kernel_rfl) lexB25) ?_
      repeat (go_big_quiet_step (first | (go_at_call 31; exact calls_later (JR _)) | fail))
      refine wpQuiet_nil ?_
      intro _ hw'
      obtain ⟨y, rfl⟩ := hw'
      go_wp2_with fail
      go_meet
      exact ⟨by simp [show x + (m' : Int) - x = (m' : Int) by omega], hideP (HLB.out y), hideP (E2.out.below y.below), hideP (T2.out.below y.below)⟩
  case rest =>
  as_aux_lemma =>
  obtain ⟨rfl, C3, E3, T3⟩ := hcut
  clear JR HLB D2 C2 E2 T2 HD
  have hts := HTS.out
  by_cases hz : tx.size = 0
  · have hE := empty_yes hz
    clear HTB hz
    by_cases hk0 : k = 0
    · subst hk0
      go_wp2
      go_ret
      exact ⟨rfl, C3.out⟩
    have hkz : (k == 0) = false := by simp [hk0]
    have hk1 : 1 ≤ k := by have := HKB.out.1; omega
    have hk9 := HKB.out.2.1
    obtain ⟨hd0, hd9⟩ := HKB.out.2.2 hk0
    have KF := KY3.out hk0
    have KZh := hideP (KY4.out hk0)
    clear KY3 KY4 HKB
    obtain ⟨q1, q2, q3⟩ := E3.out.cells
    go_wp2_with fail
    refine (KF _ (HT.out _ C3.out)).mono ?_
    rintro e Wd ⟨rfl, hb⟩
    have C8 := hideP (bel_on C3.out hb)
    have E8 := hideP (E3.out.below hb)
    clear hb q1 q2 q3 KF
    obtain ⟨q1, q2, q3⟩ := E8.out.cells
    by_cases hd : d1 = f1
    · have hdz : (d1 == f1) = true := by simp [hd]
      clear KZh
      go_wp2
      go_ret
      exact ⟨rfl, C8.out⟩
    have hdz : (d1 == f1) = false := by simp [hd]
    obtain ⟨k2, hk2, KZ⟩ := KZh.out hd
    have hge : decide (k - 1 ≤ k2) = true := decide_eq_true hk2
    clear KZh
    go_wp2_with fail
    refine (KZ _ (HT.out _ C8.out)).mono ?_
    rintro e We ⟨rfl, hb⟩
    have C9 := hideP (bel_on C8.out hb)
    clear hb q1 q2 q3 KZ
    go_wp2
    go_ret
    exact ⟨rfl, C9.out⟩
  have hE := empty_no hz
  obtain ⟨kk, hkk, hat, hrd⟩ := HTB.out (fun e => hz (by rw [e]; rfl))
  clear HTB hz
  have KR : Calls Tryz.prog 15 #[v3, .string tx] wc fun e w' => e = .returned (.tuple #[.int .i64 (kk : Int), .int .i64 (reignYear c3 s3 r3 (rgA l3 kk).fr (rgA l3 kk).to n3)]) ∧ Below wc.heap.size wc w' := by
    have q := implReadReign v3 l3 tx wc T3.out HN3.out (by omega) (HS.out _ C3.out)
    rw [hrd] at q
    exact q
  have KA : ∀ W, RRow W v3 l3 → Calls Tryz.prog 23 #[v3, .int .i64 n3] W fun e w' => e = .returned (.int .i64 (kk : Int)) ∧ Below W.heap.size W w' := fun W h => by
    have q := implReignAt v3 l3 n3 W h
    rw [hat] at q
    exact q
  have KX : ∀ W, Tab W → Calls Tryz.prog 9 #[.int .i64 c3, .int .i64 s3, .int .i64 r3, .agg #[.string (rgA l3 kk).name, .int .i64 (rgA l3 kk).fr, .int .i64 (rgA l3 kk).to], .int .i64 n3] W fun e w' => e = .returned (.int .i64 (reignYear c3 s3 r3 (rgA l3 kk).fr (rgA l3 kk).to n3)) ∧ Below W.heap.size W w' := fun W h => implReignYear c3 s3 r3 (rgA l3 kk).name (rgA l3 kk).fr (rgA l3 kk).to n3 W h
  have HXR : Hid (∀ W, RRow W v3 l3 → ∃ g cp, v3 = .slice (some ⟨g, 0, none⟩) l3.length cp ∧ l3.length ≤ cp ∧ cp ≤ maxLen ∧ RAt W g kk (rgA l3 kk)) := fun W h => by
    obtain ⟨ad, cp, e, h1, h2, _, h⟩ := h
    obtain ⟨g, rfl, _, hx⟩ := h kk hkk
    exact ⟨g, cp, e, h1, h2, hx⟩
  clear hat hrd HN3
  generalize reignYear c3 s3 r3 (rgA l3 kk).fr (rgA l3 kk).to n3 = yr at *
  generalize rgA l3 kk = rr at *
  obtain ⟨rn, rf, rt⟩ := rr
  dsimp only at KX HXR
  go_wp2_with fail
  refine KR.mono ?_
  rintro e Wa ⟨rfl, hb⟩
  have C4 := hideP (bel_on C3.out hb)
  have E4 := hideP (E3.out.below hb)
  have T4 := hideP (T3.out.below hb)
  clear hb KR C3 E3 T3
  go_wp2_with fail
  refine (KA _ T4.out).mono ?_
  rintro e Wb ⟨rfl, hb⟩
  have C5 := hideP (bel_on C4.out hb)
  have E5 := hideP (E4.out.below hb)
  have T5 := hideP (T4.out.below hb)
  clear hb KA C4 E4 T4
  obtain ⟨bg, cp, rfl, hcp, hcm, x0, x1, x2⟩ := HXR.out Wb T5.out
  dsimp only at x0 x1 x2
  unfold maxLen at hcm
  clear HXR T5
  go_wp2_with fail
  refine (KX _ (HT.out _ C5.out)).mono ?_
  rintro e Wc ⟨rfl, hb⟩
  have C6 := hideP (bel_on C5.out hb)
  have E6 := hideP (E5.out.below hb)
  clear hb KX C5 E5 x0 x1 x2
  by_cases hk0 : k = 0
  · subst hk0
    go_wp2
    go_ret
    exact ⟨rfl, C6.out⟩
  have hkz : (k == 0) = false := by simp [hk0]
  have hk1 : 1 ≤ k := by have := HKB.out.1; omega
  have hk9 := HKB.out.2.1
  obtain ⟨hd0, hd9⟩ := HKB.out.2.2 hk0
  have KF := KY3.out hk0
  have KZh := hideP (KY4.out hk0)
  clear KY3 KY4 HKB
  obtain ⟨q1, q2, q3⟩ := E6.out.cells
  go_wp2_with fail
  refine (KF _ (HT.out _ C6.out)).mono ?_
  rintro e Wd ⟨rfl, hb⟩
  have C8 := hideP (bel_on C6.out hb)
  have E8 := hideP (E6.out.below hb)
  clear hb q1 q2 q3 KF
  obtain ⟨q1, q2, q3⟩ := E8.out.cells
  by_cases hd : d1 = f1
  · have hdz : (d1 == f1) = true := by simp [hd]
    clear KZh
    go_wp2
    go_ret
    exact ⟨rfl, C8.out⟩
  have hdz : (d1 == f1) = false := by simp [hd]
  obtain ⟨k2, hk2, KZ⟩ := KZh.out hd
  have hge : decide (k - 1 ≤ k2) = true := decide_eq_true hk2
  clear KZh
  go_wp2_with fail
  refine (KZ _ (HT.out _ C8.out)).mono ?_
  rintro e We ⟨rfl, hb⟩
  have C9 := hideP (bel_on C8.out hb)
  clear hb q1 q2 q3 KZ
  go_wp2
  go_ret
  exact ⟨rfl, C9.out⟩
end Go.Proofs.YtcdcniniafejbaaGreatDoor.ctr
