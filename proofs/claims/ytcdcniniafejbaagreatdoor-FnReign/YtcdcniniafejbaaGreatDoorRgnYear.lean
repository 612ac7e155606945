/- Contracts of both ReignYear and LastYear and of what they call (l08ByDay; returnDay, yearByDay, yearByStyle): each answers its plain function, where the table of months holds its numbers. -/
import Derived.Test.YtcdcniniafejbaaGreatDoorRgnPlain
import Derived.Test.YtcdcniniafejbaaGreatDoorRgnBoth
import Derived.Test.YtcdcniniafejbaaGreatDoorRgnAt
import Derived.Test.YtcdcniniafejbaaGreatDoorStyFun
namespace Go.Proofs.YtcdcniniafejbaaGreatDoor.ctr
open Go.RowKit

theorem blk2 (w : World) (o : Obj) (cs : Array Value) (t : TypeId) : Blk ((w.alloc o).alloc (.cells cs t)) (w.heap.size + 1) cs t := by
  have := Blk.new (w.alloc o) cs t
  rw [World.size_alloc] at this
  exact this
theorem below2 (w : World) (o o' : Obj) : Below w.heap.size w ((w.alloc o).alloc o') := ((Below.refl _ _).alloc (Nat.le_refl _) _).alloc (by rw [World.size_alloc]; omega) _
/-- What is missing in a year is 29 February alone. -/
theorem ret_march {c y Y0 m d : Int} (hc : c = 0 ∨ c = 1) (y1 : 1 ≤ y) (y2 : y ≤ 3000) (m1 : 1 ≤ m) (m2 : m ≤ 12) (d1 : 1 ≤ d) (d2 : d ≤ monthDays c Y0 m) (h : ¬ dateP c y m d) : dateP c y 3 1 ∧ lineD c y m d = lineD c y 3 1 := by
  have hn := md_near hc Y0 y m
  have hq : monthDays c y m < d := by
    by_cases g : d ≤ monthDays c y m
    · exact absurd ⟨hc, y1, y2, d1, g⟩ h
    · omega
  obtain rfl : m = 2 := by
    by_cases e : m = 2
    · exact e
    · have := hn.2 e; omega
  refine ⟨⟨hc, y1, y2, by omega, by rw [md3 hc]; omega⟩, ?_⟩
  have ha := before_at (c := c) (y := y) (show 1 ≤ (2 : Int) by omega)
  have e2 : (2 : Int).toNat = 2 := rfl
  have e1 : (2 - 1 : Int).toNat = 1 := rfl
  have e3 : (3 - 1 : Int).toNat = 2 := rfl
  rw [e2, e1] at ha
  unfold lineD
  rw [e1, e3]
  omega

set_option maxHeartbeats 2000000 in
theorem implReturn (c Y0 m d y : Int) (w : World) (hT : Tab w) (hc : c = 0 ∨ c = 1) (y1 : 1 ≤ y) (y2 : y ≤ 3000) (m1 : 1 ≤ m) (m2 : m ≤ 12) (d1 : 1 ≤ d) (d2 : d ≤ monthDays c Y0 m) : Calls Tryz.prog 73 #[.agg #[.int .i64 c, .int .i64 Y0, .int .i64 m, .int .i64 d], .int .i64 y] w fun e w' => e = .returned (.int .i64 (lineD c y m d)) ∧ Below w.heap.size w w' := by
  obtain ⟨W1, hW1⟩ : ∃ W1, W1 = (w.alloc (.cells #[.int .i64 c, .int .i64 Y0, .int .i64 m, .int .i64 d] 87)).alloc (.cells #[.int .i64 c, .int .i64 y, .int .i64 m, .int .i64 d] 87) := ⟨_, rfl⟩
  have hB : Blk W1 (w.heap.size + 1) #[.int .i64 c, .int .i64 y, .int .i64 m, .int .i64 d] 87 := by rw [hW1]; exact blk2 _ _ _ _
  have hb1 : Below w.heap.size w W1 := by rw [hW1]; exact below2 _ _ _
  have HW1 := hideP hW1
  have HB := hideP hB
  have HB1 := hideP hb1
  have c0 : ∀ x : Later W1, x.w.cell? ⟨w.heap.size + 1, 0, none⟩ = some (.int .i64 c) := fun x => (hB.later x).cell 0 rfl
  have c1 : ∀ x : Later W1, x.w.cell? ⟨w.heap.size + 1, 1, none⟩ = some (.int .i64 y) := fun x => (hB.later x).cell 1 rfl
  have c2 : ∀ x : Later W1, x.w.cell? ⟨w.heap.size + 1, 2, none⟩ = some (.int .i64 m) := fun x => (hB.later x).cell 2 rfl
  have c3 : ∀ x : Later W1, x.w.cell? ⟨w.heap.size + 1, 3, none⟩ = some (.int .i64 d) := fun x => (hB.later x).cell 3 rfl
  have f2 : ∀ x : Later W1, x.w.frozen? ⟨w.heap.size + 1, 2, none⟩ = false := fun x => (hB.later x).thaw 2
  have f3 : ∀ x : Later W1, x.w.frozen? ⟨w.heap.size + 1, 3, none⟩ = false := fun x => (hB.later x).thaw 3
  have KO : ∀ x : Later W1, Calls Tryz.prog 103 #[.agg #[.int .i64 c, .int .i64 y, .int .i64 m, .int .i64 d]] x.w fun e w' => e = .returned (.bool (dateOk c y m d)) ∧ Below x.w.heap.size x.w w' := fun x => implDateOk c y m d x.w (hT.later (hb1.trans (x.below.mono hb1.size)))
  have KD : Hid (∀ a b W, Below w.heap.size w W → Calls Tryz.prog 104 #[.agg #[.int .i64 c, .int .i64 y, .int .i64 a, .int .i64 b]] W fun e w' => e = .returned (.int .i64 (dayOf c y a b)) ∧ Below W.heap.size W w') := fun a b W hb => implDayOf c y a b W (hT.later hb)
  clear hW1 hB hb1 hT
  by_cases hp : dateP c y m d
  · simp only [dateOk_true hp] at KO
    have HR := hideP (lineD_dayOf hp)
    clear hp hc
    go_enter Tryz.func73, Tryz.ntmps73
    go_wp2_with fail
    rw [← HW1.out]
    refine (KO ⟨W1, Below.refl _ _⟩).mono ?_
    rintro e w1 ⟨rfl, hb⟩
    obtain ⟨x1, rfl⟩ := Later.of hb
    clear hb
    go_wp2_with fail
    have hx : Hid (Below w.heap.size w x1.w) := HB1.out.trans (x1.below.mono HB1.out.size)
    refine (KD.out _ _ _ hx.out).mono ?_
    rintro e w2 ⟨rfl, hb⟩
    have hw2 : Hid (Below w.heap.size w w2) := hx.out.trans (hb.mono hx.out.size)
    clear hb
    go_wp2
    go_ret
    exact ⟨ret_int HR.out, hw2.out⟩
  · simp only [dateOk_false hp] at KO
    obtain ⟨hp3, he⟩ := ret_march hc y1 y2 m1 m2 d1 d2 hp
    have HR : Hid (dayOf c y 3 1 = lineD c y m d) := by unfold Hid; rw [he]; exact lineD_dayOf hp3
    clear hp hp3 he hc
    go_enter Tryz.func73, Tryz.ntmps73
    go_wp2_with fail
    rw [← HW1.out]
    refine (KO ⟨W1, Below.refl _ _⟩).mono ?_
    rintro e w1 ⟨rfl, hb⟩
    obtain ⟨x1, rfl⟩ := Later.of hb
    clear hb
    go_wp2_with fail
    obtain ⟨W3, e3⟩ : ∃ W3, W3 = (x1.w.setCell ⟨w.heap.size + 1, 2, none⟩ (.int .i64 3)).setCell ⟨w.heap.size + 1, 3, none⟩ (.int .i64 1) := ⟨_, rfl⟩
    have D3 : Blk W3 (w.heap.size + 1) #[.int .i64 c, .int .i64 y, .int .i64 3, .int .i64 1] 87 := by rw [e3]; exact ((HB.out.later x1).set 2 _).set 3 _
    have B3 : Hid (Below w.heap.size w W3) := by
      unfold Hid
      rw [e3]
      exact below_store (below_store (HB1.out.trans (x1.below.mono HB1.out.size)) _ (by omega)) _ (by omega)
    rw [← e3]
    clear e3 c0 c1 c2 c3 f2 f3
    have c0 := D3.cell 0 rfl
    have c1 := D3.cell 1 rfl
    have c2 := D3.cell 2 rfl
    have c3 := D3.cell 3 rfl
    clear D3
    go_wp2_with fail
    refine (KD.out _ _ _ B3.out).mono ?_
    rintro e w2 ⟨rfl, hb⟩
    have hw2 : Hid (Below w.heap.size w w2) := B3.out.trans (hb.mono B3.out.size)
    clear hb
    go_wp2
    go_ret
    exact ⟨ret_int HR.out, hw2.out⟩

set_option maxHeartbeats 2000000 in
theorem specByDay {c f n Y0 m d Y M D : Int} (w : World) (hf : dateOf c f = (c, Y0, m, d, true)) (hn : dateOf c n = (c, Y, M, D, true)) (hfn : f ≤ n) : Calls Tryz.prog 61 #[.int .i64 c, .agg #[.int .i64 c, .int .i64 Y0, .int .i64 m, .int .i64 d], .int .i64 n] w fun e w' => e = .returned (.int .i64 (byDay c f n)) ∧ Below w.heap.size w w' := by
  obtain ⟨hc, y1, y2, m1, m2, d1, _, d3, _, _, _⟩ := date_parts hf
  obtain ⟨W1, hW1⟩ : ∃ W1, W1 = w.alloc (.cells #[.int .i64 c, .int .i64 Y0, .int .i64 m, .int .i64 d] 87) := ⟨_, rfl⟩
  have c1 : ∀ x : Later W1, x.w.cell? ⟨w.heap.size, 1, none⟩ = some (.int .i64 Y0) := Later.new hW1 1 rfl
  have c2 : ∀ x : Later W1, x.w.cell? ⟨w.heap.size, 2, none⟩ = some (.int .i64 m) := Later.new hW1 2 rfl
  have c3 : ∀ x : Later W1, x.w.cell? ⟨w.heap.size, 3, none⟩ = some (.int .i64 d) := Later.new hW1 3 rfl
  have HB : Hid (∀ x : Later W1, Below w.heap.size w x.w) := fun x => below_of_alloc hW1 x.below
  have HW1 := hideP hW1
  have hb := byDay_bound hf hn hfn
  have hb2 : Y0 + byDay c f n ≤ 3001 := by
    have := (date_parts hn).2.2.1
    rw [byDay_eq hf hn]
    split <;> omega
  have HI := hideP (fun k hk => byDay_iff hf hn hfn k hk)
  have KL : Hid (∀ y, -5 ≤ y → y ≤ 4000 → ∀ x : Later W1, Calls Tryz.prog 94 #[.int .i64 c, .int .i64 y, .int .i64 m, .int .i64 d] x.w fun e w' => e = .returned (.int .i64 (lineD c y m d)) ∧ Below x.w.heap.size x.w w') := fun y h1 h2 x => specDay c y m d x.w hc h1 h2 (by omega) (by omega) (by omega)
  clear hW1 hf hn hc
  generalize byDay c f n = R at *
  go_enter Tryz.func61, Tryz.ntmps61
  go_wp2_with fail
  rw [← HW1.out]
  go_loopw [7] (fun i wr => ∃ k : Int, 1 ≤ k ∧ k ≤ R ∧ i = .int .i64 k ∧ Below W1.heap.size W1 wr) (fun i _ => (R - intOf i).toNat)
  case atStart => exact ⟨1, by omega, by omega, rfl, Below.refl _ _⟩
  case round =>
    obtain ⟨k, k1, k2, rfl, hB⟩ := hrel
    obtain ⟨x0, rfl⟩ := Later.of hB
    clear hB
    have hI := HI.out k k1
    have K := KL.out (Y0 + k) (by omega) (by omega)
    generalize lineD c (Y0 + k) m d = L at *
    by_cases hlt : k < R
    · have hle : L ≤ n := hI.2 hlt
      clear hI
      go_wp2_with fail
      refine (K x0).mono ?_
      rintro e w1 ⟨rfl, hb1⟩
      obtain ⟨x1, rfl⟩ := x0.next hb1
      clear hb1
      go_wp2
      exact ⟨⟨k + 1, by omega, by omega, rfl, x1.below⟩, by simp [intOf]; omega⟩
    · have hle : ¬ L ≤ n := fun h => hlt (hI.1 h)
      have HkR := hideP (show k = R by omega)
      clear hI
      go_wp2_with fail
      refine (K x0).mono ?_
      rintro e w1 ⟨rfl, hb1⟩
      obtain ⟨x1, rfl⟩ := x0.next hb1
      clear hb1
      go_wp2
      go_ret
      exact ⟨ret_int HkR.out, HB.out x1⟩

/-- What the two ways of counting answer, where the day is not ahead of the first one. -/
noncomputable def yd (c f n : Int) : Int := if (dateOf c f).2.2.2.2 = true ∧ (dateOf c n).2.2.2.2 = true then byDay c f n else 0
theorem yd_no1 {c f n : Int} (h : dateOf c f = (0, 0, 0, 0, false)) : yd c f n = 0 := by unfold yd; rw [if_neg (by rw [h]; simp)]
theorem yd_no2 {c f n : Int} (h : dateOf c n = (0, 0, 0, 0, false)) : yd c f n = 0 := by unfold yd; rw [if_neg (by rw [h]; simp)]
theorem yd_yes {c f n Y0 m d Y M D : Int} (hf : dateOf c f = (c, Y0, m, d, true)) (hn : dateOf c n = (c, Y, M, D, true)) : yd c f n = byDay c f n := by unfold yd; rw [if_pos ⟨by rw [hf], by rw [hn]⟩]

set_option maxHeartbeats 2000000 in
theorem implByDay (c f n : Int) (w : World) (hT : Tab w) : Calls Tryz.prog 39 #[.int .i64 c, .int .i64 f, .int .i64 n] w fun e w' => e = .returned (.int .i64 (yd c f n)) ∧ Below w.heap.size w w' := by
  have KF : ∀ W, Below w.heap.size w W → Calls Tryz.prog 72 #[.int .i64 c, .int .i64 f] W fun e w' => e = .returned (dateR c f) ∧ Below W.heap.size W w' := fun W hb => implDateOf c f W (hT.later hb)
  have KN : ∀ W, Below w.heap.size w W → Calls Tryz.prog 72 #[.int .i64 c, .int .i64 n] W fun e w' => e = .returned (dateR c n) ∧ Below W.heap.size W w' := fun W hb => implDateOf c n W (hT.later hb)
  have KR : Hid (∀ (Y0 m d y : Int), (c = 0 ∨ c = 1) → 1 ≤ y → y ≤ 3000 → 1 ≤ m → m ≤ 12 → 1 ≤ d → d ≤ monthDays c Y0 m → ∀ W, Below w.heap.size w W → Calls Tryz.prog 73 #[.agg #[.int .i64 c, .int .i64 Y0, .int .i64 m, .int .i64 d], .int .i64 y] W fun e w' => e = .returned (.int .i64 (lineD c y m d)) ∧ Below W.heap.size W w') := fun Y0 m d y hc y1 y2 m1 m2 d1 d2 W hb => implReturn c Y0 m d y W (hT.later hb) hc y1 y2 m1 m2 d1 d2
  clear hT
  rcases date_cases c f with hf | ⟨Y0, m, d, hf, _⟩
  · have HR := hideP (yd_no1 (n := n) hf)
    simp only [dateR_no hf] at KF
    obtain ⟨z0, z1, z2, z3, b, hz⟩ : ∃ z0 z1 z2 z3 b, dateR c n = .tuple #[.agg #[.int .i64 z0, .int .i64 z1, .int .i64 z2, .int .i64 z3], .bool b] := ⟨_, _, _, _, _, rfl⟩
    simp only [hz] at KN
    clear hf hz KR
    go_enter Tryz.func39, Tryz.ntmps39
    go_wp2_with fail
    refine (KF _ (Below.refl _ _)).mono ?_
    rintro e w1 ⟨rfl, hb⟩
    have B1 := hideP hb
    clear hb
    go_wp2_with fail
    refine (KN _ (B1.out.alloc B1.out.size _)).mono ?_
    rintro e w2 ⟨rfl, hb⟩
    have B2 : Hid (Below w.heap.size w w2) := B1.out.trans ((below_alloc hb).mono B1.out.size)
    clear hb
    go_wp2
    go_ret
    exact ⟨ret_int HR.out.symm, B2.out.alloc B2.out.size _⟩
  simp only [dateR_yes hf] at KF
  rcases date_cases c n with hn | ⟨Y, M, D, hn, _⟩
  · have HR := hideP (yd_no2 (f := f) hn)
    simp only [dateR_no hn] at KN
    clear hf hn KR
    go_enter Tryz.func39, Tryz.ntmps39
    go_wp2_with fail
    refine (KF _ (Below.refl _ _)).mono ?_
    rintro e w1 ⟨rfl, hb⟩
    have B1 := hideP hb
    clear hb
    go_wp2_with fail
    refine (KN _ (B1.out.alloc B1.out.size _)).mono ?_
    rintro e w2 ⟨rfl, hb⟩
    have B2 : Hid (Below w.heap.size w w2) := B1.out.trans ((below_alloc hb).mono B1.out.size)
    clear hb
    go_wp2
    go_ret
    exact ⟨ret_int HR.out.symm, B2.out.alloc B2.out.size _⟩
  simp only [dateR_yes hn] at KN
  obtain ⟨hc, y1, y2, m1, m2, d1, d2, d3, _, _, _⟩ := date_parts hf
  obtain ⟨_, z1, z2, _, _, _, _, _, _, _, _⟩ := date_parts hn
  have HR := hideP ((yd_yes hf hn).trans (byDay_eq hf hn))
  have KT := KR.out Y0 m d Y hc z1 z2 m1 m2 d1 d2
  clear hf hn KR hc d2
  generalize lineD c Y m d = L at *
  go_enter Tryz.func39, Tryz.ntmps39
  go_wp2_with fail
  refine (KF _ (Below.refl _ _)).mono ?_
  rintro e w1 ⟨rfl, hb⟩
  have B1 := hideP hb
  clear hb
  go_wp2_with fail
  refine (KN _ (B1.out.alloc B1.out.size _)).mono ?_
  rintro e w2 ⟨rfl, hb⟩
  obtain ⟨W1, hW1⟩ : ∃ W1, W1 = w1.alloc (.cells #[.int .i64 c, .int .i64 Y0, .int .i64 m, .int .i64 d] 87) := ⟨_, rfl⟩
  rw [← hW1] at hb
  have A1 : Blk W1 w1.heap.size #[.int .i64 c, .int .i64 Y0, .int .i64 m, .int .i64 d] 87 := by rw [hW1]; exact Blk.new _ _ _
  have A2 : Blk (w2.alloc (.cells #[.int .i64 c, .int .i64 Y, .int .i64 M, .int .i64 D] 87)) w1.heap.size #[.int .i64 c, .int .i64 Y0, .int .i64 m, .int .i64 d] 87 := (A1.below hb A1.lt).alloc _
  have A3 : Blk (w2.alloc (.cells #[.int .i64 c, .int .i64 Y, .int .i64 M, .int .i64 D] 87)) w2.heap.size #[.int .i64 c, .int .i64 Y, .int .i64 M, .int .i64 D] 87 := Blk.new _ _ _
  have B2 : Hid (Below w.heap.size w (w2.alloc (.cells #[.int .i64 c, .int .i64 Y, .int .i64 M, .int .i64 D] 87))) := by
    unfold Hid
    have hq : Below w.heap.size w w2 := by
      rw [hW1] at hb
      exact B1.out.trans ((below_alloc hb).mono B1.out.size)
    exact hq.alloc hq.size _
  have c0 := A2.cell 0 rfl
  have c1 := A2.cell 1 rfl
  have c2 := A2.cell 2 rfl
  have c3 := A2.cell 3 rfl
  have e1 := A3.cell 1 rfl
  clear hb hW1 A1 A2 A3
  by_cases hL : L ≤ n
  · have HR2 : Hid (yd c f n = Y - Y0 + 1) := by unfold Hid; rw [HR.out, if_pos hL]
    go_wp2_with fail
    refine (KT _ B2.out).mono ?_
    rintro e w3 ⟨rfl, hb⟩
    have B3 : Hid (Below w.heap.size w w3) := B2.out.trans (hb.mono B2.out.size)
    clear hb c0 c1 c2 c3 e1
    go_wp2
    go_ret
    exact ⟨ret_int HR2.out.symm, B3.out⟩
  · have HR2 : Hid (yd c f n = Y - Y0) := by unfold Hid; rw [HR.out, if_neg hL]; omega
    go_wp2_with fail
    refine (KT _ B2.out).mono ?_
    rintro e w3 ⟨rfl, hb⟩
    have B3 : Hid (Below w.heap.size w w3) := B2.out.trans (hb.mono B2.out.size)
    clear hb c0 c1 c2 c3 e1
    go_wp2
    go_ret
    exact ⟨ret_int HR2.out.symm, B3.out⟩

set_option maxHeartbeats 2000000 in
theorem implByStyle (c s f n : Int) (w : World) (hT : Tab w) : Calls Tryz.prog 40 #[.int .i64 c, .int .i64 s, .int .i64 f, .int .i64 n] w fun e w' => e = .returned (.int .i64 (byStyle c s f n)) ∧ Below w.heap.size w w' := by
  have KF : ∀ x : Later w, Calls Tryz.prog 74 #[.int .i64 c, .int .i64 s, .int .i64 f] x.w fun e w' => e = .returned (styR c s f) ∧ Below x.w.heap.size x.w w' := fun x => implStyleYear c s f x.w (hT.later x.below)
  have KN : ∀ x : Later w, Calls Tryz.prog 74 #[.int .i64 c, .int .i64 s, .int .i64 n] x.w fun e w' => e = .returned (styR c s n) ∧ Below x.w.heap.size x.w w' := fun x => implStyleYear c s n x.w (hT.later x.below)
  clear hT
  rcases sty_all c s f with hf | ⟨x, hf⟩
  · have HR := hideP (bs_no1 (n := n) hf)
    simp only [styR_no hf] at KF
    obtain ⟨z, b, hz⟩ : ∃ z b, styR c s n = .tuple #[.int .i64 z, .bool b] := ⟨_, _, rfl⟩
    simp only [hz] at KN
    clear hf hz
    go_enter Tryz.func40, Tryz.ntmps40
    go_wp2_with fail
    refine (KF ⟨w, Below.refl _ _⟩).mono ?_
    rintro e w1 ⟨rfl, hb⟩
    obtain ⟨x1, rfl⟩ := Later.of hb
    clear hb
    go_wp2_with fail
    refine (KN x1).mono ?_
    rintro e w2 ⟨rfl, hb⟩
    obtain ⟨x2, rfl⟩ := x1.next hb
    clear hb
    go_wp2
    go_ret
    exact ⟨ret_int HR.out.symm, x2.below⟩
  simp only [styR_yes hf] at KF
  rcases sty_all c s n with hn | ⟨y, hn⟩
  · have HR := hideP (bs_no2 (f := f) hn)
    simp only [styR_no hn] at KN
    clear hf hn
    go_enter Tryz.func40, Tryz.ntmps40
    go_wp2_with fail
    refine (KF ⟨w, Below.refl _ _⟩).mono ?_
    rintro e w1 ⟨rfl, hb⟩
    obtain ⟨x1, rfl⟩ := Later.of hb
    clear hb
    go_wp2_with fail
    refine (KN x1).mono ?_
    rintro e w2 ⟨rfl, hb⟩
    obtain ⟨x2, rfl⟩ := x1.next hb
    clear hb
    go_wp2
    go_ret
    exact ⟨ret_int HR.out.symm, x2.below⟩
  simp only [styR_yes hn] at KN
  have HR := hideP (bs_yes hf hn)
  obtain ⟨_, _, _, g1, g2, _⟩ := sty_parts hf
  obtain ⟨_, _, _, h1, h2, _⟩ := sty_parts hn
  clear hf hn
  go_enter Tryz.func40, Tryz.ntmps40
  go_wp2_with fail
  refine (KF ⟨w, Below.refl _ _⟩).mono ?_
  rintro e w1 ⟨rfl, hb⟩
  obtain ⟨x1, rfl⟩ := Later.of hb
  clear hb
  go_wp2_with fail
  refine (KN x1).mono ?_
  rintro e w2 ⟨rfl, hb⟩
  obtain ⟨x2, rfl⟩ := x1.next hb
  clear hb
  go_wp2
  go_ret
  exact ⟨ret_int HR.out.symm, x2.below⟩
end Go.Proofs.YtcdcniniafejbaaGreatDoor.ctr
