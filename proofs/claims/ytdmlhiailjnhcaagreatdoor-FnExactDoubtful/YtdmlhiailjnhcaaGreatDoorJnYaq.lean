/- Contract of the model's DayOfRoman: it answers its plain function. Contract of the model's l05Is and of its MonthName, and plain laws of the texts. What a When is, and what is right; contracts of the program's kindOf, WhenOk and of what they call, and of the model's WhenOk. -/
import Derived.Test.YtdmlhiailjnhcaaGreatDoorJnYad
import Derived.Test.YtdmlhiailjnhcaaGreatDoorRomSpecY
import Derived.Test.YtdmlhiailjnhcaaGreatDoorRomDayY
import Derived.Test.YtdmlhiailjnhcaaGreatDoorJnYaf
import Derived.Test.YtdmlhiailjnhcaaGreatDoorJnYam
import Derived.Test.YtdmlhiailjnhcaaGreatDoorJnYag
namespace Go.Proofs.YtdmlhiailjnhcaaGreatDoor.ctr
open Go.RowKit
def yrP (c y : Int) : Prop := (c = 0 ∨ c = 1) ∧ 1 ≤ y ∧ y ≤ 3000
instance (c y : Int) : Decidable (yrP c y) := by unfold yrP; infer_instance
def yrB (c y : Int) : Bool := decide (yrP c y)
theorem specYr (c y : Int) (w : World) : Calls Tryz.prog 134 #[.int .i64 c, .int .i64 y] w fun e w' => e = .returned (.bool (yrB c y)) ∧ w' = w := by
 by_cases hc : c = 0 ∨ c = 1
 · have hC : calB c = true := calB_iff.2 hc
   have hY : yrB c y = inB y 1 3000 := by
    unfold yrB inB
    by_cases h1 : 1 ≤ y <;> by_cases h2 : y ≤ 3000 <;> simp [yrP, hc, h1, h2]
   rw [hY]
   clear hc hY
   cases hI : inB y 1 3000
   all_goals
    go_enter Tryz.func134, Tryz.ntmps134
    go_wp2_with fail
    refine (specCal _ _).mono ?_
    rintro e w1 ⟨rfl, rfl⟩
    rw [hC]
    go_wp2_with fail
    refine (l01In _ _ _ _).mono ?_
    rintro e w1 ⟨rfl, rfl⟩
    rw [hI]
    go_wp2
    go_ret
    exact ⟨rfl, rfl⟩
 · have hC : calB c = false := calB_no hc
   have hY : yrB c y = false := decide_eq_false (fun h => hc h.1)
   rw [hY]
   clear hc hY
   go_enter Tryz.func134, Tryz.ntmps134
   go_wp2_with fail
   refine (specCal _ _).mono ?_
   rintro e w1 ⟨rfl, rfl⟩
   rw [hC]
   go_wp2
   go_ret
   exact ⟨rfl, rfl⟩
theorem isDay_month {c y m d : Int} {r : Rom} (h : isDay c y r m d) : m = r.month ∨ m % 12 + 1 = r.month := by
 obtain ⟨hd, rfl⟩ := h
 unfold romanOf
 rw [if_pos hd]
 unfold romanIn
 split
 · exact .inl rfl
 · split
   · exact .inl rfl
   · split
     · exact .inl rfl
     · exact .inr rfl
structure ESt (w : World) (cn mk mo : Int) (tw : Bool) (W : World) : Prop where
 below : Below w.heap.size w W
 rom : Blk W w.heap.size #[.int .i64 cn, .int .i64 mk, .int .i64 mo, .bool tw] 29
 res : Blk W (w.heap.size + 1) #[.int .i64 0, .int .i64 0, .int .i64 0, .int .i64 0] 99
theorem ESt.later {w : World} {cn mk mo : Int} {tw : Bool} {W W' : World} (h : ESt w cn mk mo tw W) (hb : Below W.heap.size W W') : ESt w cn mk mo tw W' :=
 ⟨h.below.trans (hb.mono h.below.size), h.rom.below hb h.rom.lt, h.res.below hb h.res.lt⟩
set_option maxRecDepth 100000 in
set_option maxHeartbeats 4000000 in
theorem specDayOfRoman (c y : Int) (r : Rom) (w : World) : CR 223 #[.int .i64 c, .int .i64 y, romV r] w (dayV (dayOfRoman c y r)) := by
 obtain ⟨cn, mk, mo, tw⟩ := r
 obtain ⟨W0, hW0, hD, hR, hBl⟩ := two_box w #[.int .i64 cn, .int .i64 mk, .int .i64 mo, .bool tw] #[.int .i64 0, .int .i64 0, .int .i64 0, .int .i64 0] 29 99
 obtain ⟨x0, hx0⟩ := Later.of (Below.refl W0.heap.size W0)
 have S0 : Hid (ESt w cn mk mo tw W0) := by rw [hx0]; exact ⟨hBl x0, hD x0, hR x0⟩
 have HW0 := hideP hW0
 clear hW0 hBl hD hR hx0 x0
 have KY : ∀ W, Calls Tryz.prog 134 #[.int .i64 c, .int .i64 y] W fun e w' => e = .returned (.bool (yrB c y)) ∧ w' = W := specYr c y
 obtain ⟨R, hRd⟩ : ∃ R, R = dayOfRoman c y ⟨cn, mk, mo, tw⟩ := ⟨_, rfl⟩
 have HR := hideP hRd
 rw [← hRd]
 clear hRd
 by_cases hy : yrP c y
 case neg =>
  have HV : Hid (R = (0, 0, 0, 0)) := HR.out.trans (romDay_no fun m d h => hy ⟨h.1.1, h.1.2.1, h.1.2.2.1⟩)
  rw [show yrB c y = false from decide_eq_false hy] at KY
  clear hy HR
  go_enter Tryz.func223, Tryz.ntmps223
  go_wp2_with fail
  rw [← HW0.out]
  go_loopw [7] (fun i wr => i = .int .i64 1 ∧ wr = W0) (fun _ _ => 0)
  case atStart => exact ⟨rfl, rfl⟩
  case round =>
   obtain ⟨rfl, rfl⟩ := hrel
   have q0 := S0.out.res.cell 0 rfl
   have q1 := S0.out.res.cell 1 rfl
   have q2 := S0.out.res.cell 2 rfl
   have q3 := S0.out.res.cell 3 rfl
   have f0 := S0.out.res.thaw 0
   have f1 := S0.out.res.thaw 1
   have f2 := S0.out.res.thaw 2
   have f3 := S0.out.res.thaw 3
   go_wp2_with fail
   refine (KY _).mono ?_
   rintro e w1 ⟨rfl, rfl⟩
   go_wp2_with fail
   rw [put4_eq]
   have Z := put4_blk (v0 := .int .i64 0) (v1 := .int .i64 0) (v2 := .int .i64 0) (v3 := .int .i64 0) S0.out.res
   have z0 := Z.cell 0 rfl
   have z1 := Z.cell 1 rfl
   have z2 := Z.cell 2 rfl
   have z3 := Z.cell 3 rfl
   exact bodyPost_ret (by simp [results, Tryz.results223, go_sem, z0, z1, z2, z3]; try rfl) rfl ⟨by rw [HV.out], put4_below S0.out.below (by omega)⟩
 rw [show yrB c y = true from decide_eq_true hy] at KY
 have HY := hideP hy
 clear hy
 go_enter Tryz.func223, Tryz.ntmps223
 go_wp2_with fail
 rw [← HW0.out]
 go_loopw [7] (fun i wr => ∃ j : Nat, j ≤ 12 ∧ i = .int .i64 ((j : Int) + 1) ∧ ESt w cn mk mo tw wr ∧ Hid (∀ m d, m < (j : Int) + 1 → ¬ isDay c y ⟨cn, mk, mo, tw⟩ m d)) (fun i _ => 14 - (intOf i).toNat)
 case atStart => exact ⟨0, by omega, rfl, S0.out, fun m d hm h => by have := (dateP_month h.1).1; omega⟩
 case round =>
  obtain ⟨j, hj, rfl, hS, HJ⟩ := hrel
  obtain ⟨V, hV⟩ : ∃ V, V = wr := ⟨_, rfl⟩
  rw [← hV] at hS ⊢
  clear hV wr
  have S := hideP hS
  clear hS S0
  by_cases hlt : j < 12
  case neg =>
   have hj12 : j = 12 := by omega
   subst hj12
   have HV : Hid (R = (0, 0, 0, 0)) := HR.out.trans (romDay_no fun m d h => HJ.out m d (by have := (dateP_month h.1).2; omega) h)
   have q0 := S.out.res.cell 0 rfl
   have q1 := S.out.res.cell 1 rfl
   have q2 := S.out.res.cell 2 rfl
   have q3 := S.out.res.cell 3 rfl
   have f0 := S.out.res.thaw 0
   have f1 := S.out.res.thaw 1
   have f2 := S.out.res.thaw 2
   have f3 := S.out.res.thaw 3
   go_wp2_with fail
   rw [put4_eq]
   have Z := put4_blk (v0 := .int .i64 0) (v1 := .int .i64 0) (v2 := .int .i64 0) (v3 := .int .i64 0) S.out.res
   have z0 := Z.cell 0 rfl
   have z1 := Z.cell 1 rfl
   have z2 := Z.cell 2 rfl
   have z3 := Z.cell 3 rfl
   exact bodyPost_ret (by simp [results, Tryz.results223, go_sem, z0, z1, z2, z3]; try rfl) rfl ⟨by rw [HV.out], put4_below S.out.below (by omega)⟩
  have u2 := S.out.rom.cell 2 rfl
  obtain ⟨m, hm⟩ : ∃ m : Int, m = (j : Int) + 1 := ⟨_, rfl⟩
  rw [← hm] at HJ ⊢
  have hm1 : 1 ≤ m := by omega
  have hm2 : m ≤ 12 := by omega
  have HM := hideP hm
  clear hm
  by_cases hin : m = mo ∨ m % 12 + 1 = mo
  case neg =>
   have e1 : (m == mo) = false := by simp; exact fun h => hin (.inl h)
   have e2 : (m % 12 + 1 == mo) = false := by simp; exact fun h => hin (.inr h)
   have e1' : (m != mo) = true := by simp [bne, e1]
   have e2' : (m % 12 + 1 != mo) = true := by simp [bne, e2]
   have HJ' : Hid (∀ m' d, m' < ((j + 1 : Nat) : Int) + 1 → ¬ isDay c y ⟨cn, mk, mo, tw⟩ m' d) := fun m' d hm' h => by
    by_cases e : m' = m
    · rw [e] at h
      exact hin (isDay_month h)
    · exact HJ.out m' d (by have := HM.out; omega) h
   clear hin HJ
   go_wp2_with fail
   refine (KY _).mono ?_
   rintro e w1 ⟨rfl, hw1⟩
   rw [hw1]
   clear hw1 w1
   go_wp2
   exact ⟨⟨j + 1, by omega, by rw [HM.out]; go_num, S.out, HJ'.out⟩, by rw [HM.out]; simp [intOf]; omega⟩
  by_cases hmm : m = mo
  focus
    have e1' : (m != mo) = false := by simp [bne, hmm]
  rotate_left
  focus
    have e1' : (m != mo) = true := by simp [bne, hmm]
    have e2' : (m % 12 + 1 != mo) = false := by simp [bne]; exact hin.resolve_left hmm
  rotate_left
  all_goals
   clear hmm hin
   go_wp2_with fail
   refine (KY _).mono ?_
   rintro e w1 ⟨rfl, hw1⟩
   rw [hw1]
   clear hw1 w1
   go_wp2_with fail
   go_loopw [8] (fun i wr => ∃ n : Nat, n ≤ 31 ∧ i = .int .i64 ((n : Int) + 1) ∧ ESt w cn mk mo tw wr ∧ Hid (∀ d, d < (n : Int) + 1 → ¬ isDay c y ⟨cn, mk, mo, tw⟩ m d)) (fun i _ => 33 - (intOf i).toNat)
   case atStart => exact ⟨0, by omega, rfl, S.out, fun d hd h => by have := (dateP_day h.1).1; omega⟩
   case round =>
    obtain ⟨n, hn, rfl, hS1, HN⟩ := hrel
    have S1 := hideP hS1
    clear hS1 u2
    obtain ⟨k, hk⟩ : ∃ k : Int, k = (n : Int) + 1 := ⟨_, rfl⟩
    rw [← hk] at HN ⊢
    have hk1 : 1 ≤ k := by omega
    have hk2 : k ≤ 32 := by omega
    have HK := hideP hk
    clear hk
    have KM := specMonthDays c y m
    have hmd := monthDays_le c y m
    by_cases hle : k ≤ monthDays c y m
    case neg =>
     have HJ' : Hid (∀ m' d, m' < ((j + 1 : Nat) : Int) + 1 → ¬ isDay c y ⟨cn, mk, mo, tw⟩ m' d) := fun m' d hm' h => by
      by_cases e : m' = m
      · rw [e] at h
        exact HN.out d (by have := h.1.2.2.2.2; omega) h
      · exact HJ.out m' d (by have := HM.out; omega) h
     have g1 : decide (k ≤ monthDays c y m) = false := decide_eq_false hle
     clear HN HJ
     generalize monthDays c y m = md at *
     go_wp2_with fail
     refine (KM _).mono ?_
     rintro e w1 ⟨rfl, hb⟩
     have S2 := hideP (S1.out.later hb)
     clear hb
     go_wp2
     exact ⟨⟨j + 1, by omega, by rw [HM.out]; go_num, S2.out, HJ'.out⟩, by rw [HM.out]; simp [intOf]; omega⟩
    have hdp : dateP c y m k := ⟨HY.out.1, HY.out.2.1, HY.out.2.2, hk1, hle⟩
    have g1 : decide (k ≤ monthDays c y m) = true := decide_eq_true hle
    have hk31 : k ≤ 31 := by omega
    have HDP := hideP hdp
    clear hdp
    generalize monthDays c y m = md at *
    go_wp2_with fail
    refine (KM _).mono ?_
    rintro e W2 ⟨rfl, hb⟩
    have S2 := hideP (S1.out.later hb)
    clear hb
    go_wp2_with fail
    obtain ⟨W3, hW3⟩ : ∃ W3, W3 = W2.alloc (dateO c y m k) := ⟨_, rfl⟩
    have S3 : Hid (ESt w cn mk mo tw W3) := by rw [hW3]; exact S2.out.later ((Below.refl _ _).alloc (Nat.le_refl _) _)
    have D3 : Hid (Blk W3 W2.heap.size #[.int .i64 c, .int .i64 y, .int .i64 m, .int .i64 k] 99) := by rw [hW3]; exact Blk.new _ _ _
    rw [← hW3]
    clear hW3 S2 S1 KM g1
    have u0 : ∀ z : Later W3, z.w.cell? ⟨w.heap.size, 0, none⟩ = some (.int .i64 cn) := fun z => (S3.out.later z.below).rom.cell 0 rfl
    have u1 : ∀ z : Later W3, z.w.cell? ⟨w.heap.size, 1, none⟩ = some (.int .i64 mk) := fun z => (S3.out.later z.below).rom.cell 1 rfl
    have u2 : ∀ z : Later W3, z.w.cell? ⟨w.heap.size, 2, none⟩ = some (.int .i64 mo) := fun z => (S3.out.later z.below).rom.cell 2 rfl
    have u3 : ∀ z : Later W3, z.w.cell? ⟨w.heap.size, 3, none⟩ = some (.bool tw) := fun z => (S3.out.later z.below).rom.cell 3 rfl
    obtain ⟨v0, v1, v2, v3⟩ := cells4 D3.out.later
    have KR : ∀ z : Later W3, CR 66 #[.agg #[.int .i64 c, .int .i64 y, .int .i64 m, .int .i64 k]] z.w (romV (romanOf c y m k)) := fun z => specRomanOf c y m k z.w
    by_cases hr : romanOf c y m k = ⟨cn, mk, mo, tw⟩
    · have HV := hideP (HR.out.trans (romDay_yes (show isDay c y ⟨cn, mk, mo, tw⟩ m k from ⟨HDP.out, hr⟩)))
      rw [hr] at KR
      clear hr HN HJ HDP
      refine wp_region_later (W := W3) (Below.refl _ _) (by kernel_rfl) (by kernel_rfl) ?_
      repeat (go_big_quiet_step (first | (go_at_call 66; exact calls_later (KR _))))
      refine wpQuiet_nil ?_
      intro _ hw'
      obtain ⟨x5, rfl⟩ := hw'
      have s0 := v0 x5
      have s1 := v1 x5
      have s2 := v2 x5
      have s3 := v3 x5
      have q0 := (S3.out.later x5.below).res.cell 0 rfl
      have q1 := (S3.out.later x5.below).res.cell 1 rfl
      have q2 := (S3.out.later x5.below).res.cell 2 rfl
      have q3 := (S3.out.later x5.below).res.cell 3 rfl
      have f0 := (S3.out.later x5.below).res.thaw 0
      have f1 := (S3.out.later x5.below).res.thaw 1
      have f2 := (S3.out.later x5.below).res.thaw 2
      have f3 := (S3.out.later x5.below).res.thaw 3
      go_wp2_with fail
      rw [put4_eq]
      have Z := put4_blk (v0 := .int .i64 c) (v1 := .int .i64 y) (v2 := .int .i64 m) (v3 := .int .i64 k) (S3.out.later x5.below).res
      have z0 := Z.cell 0 rfl
      have z1 := Z.cell 1 rfl
      have z2 := Z.cell 2 rfl
      have z3 := Z.cell 3 rfl
      exact bodyPost_ret (by simp [results, Tryz.results223, go_sem, z0, z1, z2, z3]; try rfl) rfl ⟨by rw [HV.out], put4_below (S3.out.later x5.below).below (by omega)⟩
    have HN' : Hid (∀ d, d < ((n + 1 : Nat) : Int) + 1 → ¬ isDay c y ⟨cn, mk, mo, tw⟩ m d) := fun d hd h => by
     by_cases e : d = k
     · rw [e] at h
       exact hr h.2
     · exact HN.out d (by have := HK.out; omega) h
    generalize romanOf c y m k = ro at *
    obtain ⟨a0, a1, a2, a3⟩ := ro
    have hne : (a0 == cn) = false ∨ (a1 == mk) = false ∨ (a2 == mo) = false ∨ (a3 == tw) = false := by
     by_cases e0 : a0 = cn
     · by_cases e1 : a1 = mk
       · by_cases e2 : a2 = mo
         · by_cases e3 : a3 = tw
           · exact absurd (by rw [e0, e1, e2, e3]) hr
           · exact .inr (.inr (.inr (by simp [e3])))
         · exact .inr (.inr (.inl (by simp [e2])))
       · exact .inr (.inl (by simp [e1]))
     · exact .inl (by simp [e0])
    clear hr HDP HN HJ
    rcases hne with he | he | he | he
    all_goals
     skip
     refine wp_region_later (W := W3) (Below.refl _ _) (by kernel_rfl) (by kernel_rfl) ?_
     repeat (go_big_quiet_step (first | (go_at_call 66; exact calls_later (KR _))))
     refine wpQuiet_nil ?_
     intro _ hw'
     obtain ⟨x5, rfl⟩ := hw'
     go_wp2
     exact ⟨⟨n + 1, by have := HK.out; omega, by rw [HK.out]; go_num, S3.out.later x5.below, HN'.out⟩, by rw [HK.out]; simp [intOf]; omega⟩
end Go.Proofs.YtdmlhiailjnhcaaGreatDoor.ctr
namespace Go.Proofs.YtdmlhiailjnhcaaGreatDoor.ctr
open Go.RowKit
theorem day_ok (c y : Int) (r : Rom) : dateOk (dayOfRoman c y r).1 (dayOfRoman c y r).2.1 (dayOfRoman c y r).2.2.1 (dayOfRoman c y r).2.2.2 = dayR c y r := by
 cases h : dayR c y r
 · have e : dayOfRoman c y r = (0, 0, 0, 0) := by unfold dayOfRoman; rw [h]; rfl
   rw [e]
   decide
 · have e : dayOfRoman c y r = (c, y, invM r, invD c y r) := by unfold dayOfRoman; rw [if_pos h]
   rw [e]
   exact dateOk_true (dayR_is h).1
theorem dayR_one {r : Rom} (h : dayR 0 1 r = true) : romB r = true := romB_of (dayR_is h)
set_option maxRecDepth 100000 in
set_option maxHeartbeats 2000000 in
theorem specIs (r : Rom) (w : World) : CR 174 #[romV r] w (.bool (romB r)) := by
 obtain ⟨cn, mk, mo, tw⟩ := r
 obtain ⟨W0, hW0, c0, c1, c2, c3, hBl⟩ := rom_box w cn mk mo tw
 have K1 : ∀ W, CR 223 #[.int .i64 0, .int .i64 1, .agg #[.int .i64 cn, .int .i64 mk, .int .i64 mo, .bool tw]] W (dayV (dayOfRoman 0 1 ⟨cn, mk, mo, tw⟩)) := specDayOfRoman 0 1 ⟨cn, mk, mo, tw⟩
 have K4 : ∀ W, CR 223 #[.int .i64 0, .int .i64 4, .agg #[.int .i64 cn, .int .i64 mk, .int .i64 mo, .bool tw]] W (dayV (dayOfRoman 0 4 ⟨cn, mk, mo, tw⟩)) := specDayOfRoman 0 4 ⟨cn, mk, mo, tw⟩
 have o1 := day_ok 0 1 ⟨cn, mk, mo, tw⟩
 have o4 := day_ok 0 4 ⟨cn, mk, mo, tw⟩
 have h14 := dayR_one (r := ⟨cn, mk, mo, tw⟩)
 obtain ⟨B, hB⟩ : ∃ B, B = romB ⟨cn, mk, mo, tw⟩ := ⟨_, rfl⟩
 rw [show dayR 0 4 ⟨cn, mk, mo, tw⟩ = B from hB.symm] at o4
 rw [← hB] at h14 ⊢
 have HW0 := hideP hW0
 have HBl := hideP hBl
 clear hB hW0 hBl
 generalize dayR 0 1 ⟨cn, mk, mo, tw⟩ = b1 at *
 generalize dayOfRoman 0 1 ⟨cn, mk, mo, tw⟩ = q1 at *
 generalize dayOfRoman 0 4 ⟨cn, mk, mo, tw⟩ = q4 at *
 obtain ⟨p0, p1, p2, p3⟩ := q1
 obtain ⟨s0, s1, s2, s3⟩ := q4
 have D1 : ∀ W, CR 115 #[.agg #[.int .i64 p0, .int .i64 p1, .int .i64 p2, .int .i64 p3]] W (.bool b1) := fun W => by rw [← o1]; exact specDateOk p0 p1 p2 p3 W
 have D4 : ∀ W, CR 115 #[.agg #[.int .i64 s0, .int .i64 s1, .int .i64 s2, .int .i64 s3]] W (.bool B) := fun W => by rw [← o4]; exact specDateOk s0 s1 s2 s3 W
 clear o1 o4
 go_enter Tryz.func174, Tryz.ntmps174
 go_wp2_with fail
 rw [← HW0.out]
 refine latO (K1 _) fun x1 => ?_
 go_wp2_with fail
 refine lat (D1 _) fun x2 => ?_
 cases b1
 · go_wp2_with fail
   refine lat (K4 _) fun x3 => ?_
   go_wp2_with fail
   refine lat (D4 _) fun x4 => ?_
   go_wp2
   go_ret
   exact ⟨rfl, HBl.out x4⟩
 · have HT := hideP (h14 rfl)
   clear h14
   go_wp2
   go_ret
   exact ⟨ret_bool HT.out.symm, HBl.out x2⟩
end Go.Proofs.YtdmlhiailjnhcaaGreatDoor.ctr
namespace Go.Proofs.YtdmlhiailjnhcaaGreatDoor.ctr
open Go.RowKit
structure Whn where
 kind : Int
 mon : Int
 day : Int
 rom : Rom
 feast : ByteArray
 plus : Int
abbrev whnC (s : Whn) : Array Value := #[.int .i64 s.kind, .int .i64 s.mon, .int .i64 s.day, .int .i64 s.rom.count, .int .i64 s.rom.mark, .int .i64 s.rom.month, .bool s.rom.twice, .string s.feast, .int .i64 s.plus]
abbrev whnV (s : Whn) : Value := .agg (whnC s)
abbrev rom0 : Rom := ⟨0, 0, 0, false⟩
theorem box_any (w : World) (cs : Array Value) (t : TypeId) : ∃ W0, W0 = w.alloc (.cells cs t) ∧ (∀ x : Later W0, Blk x.w w.heap.size cs t) ∧ (∀ x : Later W0, Below w.heap.size w x.w) :=
 ⟨_, rfl, fun x => (Blk.new _ _ _).later x, fun x => below_alloc x.below⟩
def feaOf (s : ByteArray) : Fea := if findFeast s < 0 then fea0 else feaAt (findFeast s).toNat
theorem feaAt_yes : ∀ i : Fin 20, feaOk (feaAt i.val).name (feaAt i.val).mv (feaAt i.val).off (feaAt i.val).m (feaAt i.val).d = true := by decide +kernel
theorem feaAt_len : ∀ i : Fin 20, (feaAt i.val).name.size ≤ 16 := feaAt_size0
theorem fea0_no : feaOk fea0.name fea0.mv fea0.off fea0.m fea0.d = false := by decide +kernel
theorem feaOf_len (s : ByteArray) : (feaOf s).name.size ≤ 16 := by
 unfold feaOf
 split
 · decide
 · have := find_b s
   exact feaAt_len ⟨(findFeast s).toNat, by omega⟩
theorem feaOf_ok (s : ByteArray) : feaOk (feaOf s).name (feaOf s).mv (feaOf s).off (feaOf s).m (feaOf s).d = decide (0 ≤ findFeast s) := by
 unfold feaOf
 by_cases h : findFeast s < 0
 · rw [if_pos h, fea0_no, decide_eq_false (by omega)]
 · rw [if_neg h, decide_eq_true (by omega)]
   have := find_b s
   exact feaAt_yes ⟨(findFeast s).toNat, by omega⟩
set_option maxHeartbeats 4000000 in
theorem implFeastNamed (s : ByteArray) (w : World) : CR 175 #[.string s] w (.agg #[.string (feaOf s).name, .bool (feaOf s).mv, .int .i64 (feaOf s).off, .int .i64 (feaOf s).m, .int .i64 (feaOf s).d]) := by
 obtain ⟨W0, hW0, hC, hBl⟩ := box_any w #[.string ⟨#[]⟩, .bool false, .int .i64 0, .int .i64 0, .int .i64 0] 107
 have u0 : ∀ x : Later W0, x.w.cell? ⟨w.heap.size, 0, none⟩ = some (.string ⟨#[]⟩) := fun x => (hC x).cell 0 rfl
 have f0 : ∀ x : Later W0, x.w.frozen? ⟨w.heap.size, 0, none⟩ = false := fun x => (hC x).thaw 0
 have u1 : ∀ x : Later W0, x.w.cell? ⟨w.heap.size, 1, none⟩ = some (.bool false) := fun x => (hC x).cell 1 rfl
 have f1 : ∀ x : Later W0, x.w.frozen? ⟨w.heap.size, 1, none⟩ = false := fun x => (hC x).thaw 1
 have u2 : ∀ x : Later W0, x.w.cell? ⟨w.heap.size, 2, none⟩ = some (.int .i64 0) := fun x => (hC x).cell 2 rfl
 have f2 : ∀ x : Later W0, x.w.frozen? ⟨w.heap.size, 2, none⟩ = false := fun x => (hC x).thaw 2
 have u3 : ∀ x : Later W0, x.w.cell? ⟨w.heap.size, 3, none⟩ = some (.int .i64 0) := fun x => (hC x).cell 3 rfl
 have f3 : ∀ x : Later W0, x.w.frozen? ⟨w.heap.size, 3, none⟩ = false := fun x => (hC x).thaw 3
 have u4 : ∀ x : Later W0, x.w.cell? ⟨w.heap.size, 4, none⟩ = some (.int .i64 0) := fun x => (hC x).cell 4 rfl
 have f4 : ∀ x : Later W0, x.w.frozen? ⟨w.heap.size, 4, none⟩ = false := fun x => (hC x).thaw 4
 have HW0 := hideP hW0
 have HC := hideP hC
 have HBl := hideP hBl
 have KF : ∀ W, CR 213 #[.string s] W (.int .i64 (findFeast s)) := fun W => implFind s W
 have hb := find_b s
 clear hW0 hC hBl
 by_cases hn : findFeast s < 0
 · rw [show feaOf s = fea0 by unfold feaOf; rw [if_pos hn]]
   generalize findFeast s = z at *
   go_enter Tryz.func175, Tryz.ntmps175
   go_wp2_with fail
   rw [← HW0.out]
   refine (KF _).mono ?_
   rintro e w1 ⟨rfl, hb1⟩
   obtain ⟨x1, rfl⟩ := Later.of hb1
   clear hb1
   go_wp2
   exact ret5 (HC.out x1) (HBl.out x1) (by omega) rfl (fun _ q0 q1 q2 q3 q4 B9 => ⟨by simp [results, Tryz.results175, go_sem, q0, q1, q2, q3, q4]; first | done | rfl | exact ⟨rfl, rfl, rfl, rfl, rfl⟩, rfl, B9⟩)
 · rw [show feaOf s = feaAt (findFeast s).toNat by unfold feaOf; rw [if_neg hn]]
   obtain ⟨k, hk⟩ := Int.eq_ofNat_of_zero_le (show 0 ≤ findFeast s by omega)
   rw [hk] at KF
   rw [hk, Int.toNat_natCast]
   have hk20 : k < 20 := by omega
   clear hb hn hk
   go_enter Tryz.func175, Tryz.ntmps175
   go_wp2_with fail
   rw [← HW0.out]
   refine (KF _).mono ?_
   rintro e w1 ⟨rfl, hb1⟩
   obtain ⟨x1, rfl⟩ := Later.of hb1
   clear hb1
   go_wp2_with fail
   refine (implFeasts _).mono ?_
   rintro e w2 ⟨v, rfl, ho, hb2⟩
   obtain ⟨x2, rfl⟩ := x1.next hb2
   obtain ⟨g, cap, rfl, hg, hcell⟩ := ho.row
   have e0 : x2.w.cell? ⟨g, k * 5, none⟩ = some (.string (feaAt k).name) := by rw [show k * 5 = k * 5 + 0 from rfl, hcell k hk20 0 (by omega)]; rfl
   have e1 : x2.w.cell? ⟨g, k * 5 + 1, none⟩ = some (.bool (feaAt k).mv) := by rw [hcell k hk20 1 (by omega)]; rfl
   have e2 : x2.w.cell? ⟨g, k * 5 + 2, none⟩ = some (.int .i64 (feaAt k).off) := by rw [hcell k hk20 2 (by omega)]; rfl
   have e3 : x2.w.cell? ⟨g, k * 5 + 3, none⟩ = some (.int .i64 (feaAt k).m) := by rw [hcell k hk20 3 (by omega)]; rfl
   have e4 : x2.w.cell? ⟨g, k * 5 + 4, none⟩ = some (.int .i64 (feaAt k).d) := by rw [hcell k hk20 4 (by omega)]; rfl
   clear hb2 ho hcell
   go_wp2
   exact ret5 (HC.out x2) (HBl.out x2) (by omega) rfl (fun _ q0 q1 q2 q3 q4 B9 => ⟨by simp [results, Tryz.results175, go_sem, q0, q1, q2, q3, q4]; first | done | rfl | exact ⟨rfl, rfl, rfl, rfl, rfl⟩, rfl, B9⟩)
set_option maxHeartbeats 2000000 in
theorem implDayRight (m d : Int) (w : World) : CR 342 #[.agg #[.int .i64 m, .int .i64 d]] w (.bool (decide (1 ≤ m ∧ m ≤ 12 ∧ 1 ≤ d ∧ d ≤ 31))) := by
 obtain ⟨W0, hW0, hC, hBl⟩ := box_any w #[.int .i64 m, .int .i64 d] 191
 obtain ⟨c0, c1⟩ := cells2 hC
 obtain ⟨x0, hx0⟩ : ∃ x0 : Later W0, W0 = x0.w := ⟨⟨W0, Below.refl _ _⟩, rfl⟩
 have HW0 := hideP (hW0.symm.trans hx0)
 have HBl := hideP (hBl x0)
 clear hW0 hC hBl hx0
 by_cases h1 : 1 ≤ m
 case neg =>
  rw [decide_eq_false (by omega)]
  go_enter Tryz.func342, Tryz.ntmps342
  go_wp2_with fail
  rw [HW0.out]
  go_wp2
  go_ret
  exact ⟨rfl, HBl.out⟩
 by_cases h2 : m ≤ 12
 case neg =>
  rw [decide_eq_false (by omega)]
  go_enter Tryz.func342, Tryz.ntmps342
  go_wp2_with fail
  rw [HW0.out]
  go_wp2
  go_ret
  exact ⟨rfl, HBl.out⟩
 by_cases h3 : 1 ≤ d
 case neg =>
  rw [decide_eq_false (by omega)]
  go_enter Tryz.func342, Tryz.ntmps342
  go_wp2_with fail
  rw [HW0.out]
  go_wp2
  go_ret
  exact ⟨rfl, HBl.out⟩
 by_cases h4 : d ≤ 31
 case neg =>
  rw [decide_eq_false (by omega)]
  go_enter Tryz.func342, Tryz.ntmps342
  go_wp2_with fail
  rw [HW0.out]
  go_wp2
  go_ret
  exact ⟨rfl, HBl.out⟩
 rw [decide_eq_true (by omega)]
 go_enter Tryz.func342, Tryz.ntmps342
 go_wp2_with fail
 rw [HW0.out]
 go_wp2
 go_ret
 exact ⟨rfl, HBl.out⟩
theorem implRomanOk (r : Rom) (w : World) (hT : Tab w) : CR 240 #[romV r] w (.bool (romB r)) := by
 obtain ⟨cn, mk, mo, tw⟩ := r
 obtain ⟨W0, hW0, c0, c1, c2, c3, hBl⟩ := rom_box w cn mk mo tw
 have K4 : ∀ W, Tab W → CR 262 #[.int .i64 0, .int .i64 4, .agg #[.int .i64 cn, .int .i64 mk, .int .i64 mo, .bool tw]] W (dayV (dayOfRoman 0 4 ⟨cn, mk, mo, tw⟩)) := fun W h => implDayOfRoman 0 4 ⟨cn, mk, mo, tw⟩ W h
 have o4 := day_ok 0 4 ⟨cn, mk, mo, tw⟩
 obtain ⟨B, hB⟩ : ∃ B, B = romB ⟨cn, mk, mo, tw⟩ := ⟨_, rfl⟩
 rw [show dayR 0 4 ⟨cn, mk, mo, tw⟩ = B from hB.symm] at o4
 rw [← hB]
 have HW0 := hideP hW0
 have HBl := hideP hBl
 have HT : Hid (∀ x : Later W0, Tab x.w) := fun x => hT.later (hBl x)
 obtain ⟨x0, hx0⟩ := Later.of (Below.refl W0.heap.size W0)
 have HX0 := hideP hx0
 clear hB hW0 hBl hT hx0
 generalize dayOfRoman 0 4 ⟨cn, mk, mo, tw⟩ = q4 at *
 obtain ⟨s0, s1, s2, s3⟩ := q4
 have D4 : ∀ W, Tab W → CR 163 #[.agg #[.int .i64 s0, .int .i64 s1, .int .i64 s2, .int .i64 s3]] W (.bool B) := fun W h => by rw [← o4]; exact implDateOk s0 s1 s2 s3 W h
 clear o4
 go_enter Tryz.func240, Tryz.ntmps240
 go_wp2_with fail
 rw [← HW0.out, HX0.out]
 refine lat (K4 _ (HT.out x0)) fun x1 => ?_
 go_wp2_with fail
 refine lat (D4 _ (HT.out x1)) fun x2 => ?_
 go_wp2
 go_ret
 exact ⟨rfl, HBl.out x2⟩
set_option maxHeartbeats 2000000 in
theorem implRomRight (a b c : Int) (t : Bool) (w : World) (hT : Tab w) : CR 345 #[.agg #[.int .i64 a, .int .i64 b, .int .i64 c, .bool t]] w (.bool (romB ⟨a, b, c, t⟩)) := by
 obtain ⟨W0, hW0, hC, hBl⟩ := box_any w #[.int .i64 a, .int .i64 b, .int .i64 c, .bool t] 193
 obtain ⟨c0, c1, c2, c3⟩ := cells4 hC
 obtain ⟨x0, hx0⟩ : ∃ x0 : Later W0, W0 = x0.w := ⟨⟨W0, Below.refl _ _⟩, rfl⟩
 have HW0 := hideP (hW0.symm.trans hx0)
 have HBl := hideP hBl
 have K : ∀ x : Later W0, CR 240 #[.agg #[.int .i64 a, .int .i64 b, .int .i64 c, .bool t]] x.w (.bool (romB ⟨a, b, c, t⟩)) := fun x => implRomanOk ⟨a, b, c, t⟩ x.w (hT.later (hBl x))
 generalize romB ⟨a, b, c, t⟩ = B at *
 clear hW0 hC hBl hx0 hT
 go_enter Tryz.func345, Tryz.ntmps345
 go_wp2_with fail
 rw [HW0.out]
 refine lat (K x0) fun x1 => ?_
 go_wp2
 go_ret
 exact ⟨rfl, HBl.out x1⟩
set_option maxHeartbeats 2000000 in
theorem implFeaRight (s : ByteArray) (mv : Bool) (o m d p : Int) (w : World) (hs : s.size ≤ maxLen) (hT : Tab w) : CR 348 #[.agg #[.string s, .bool mv, .int .i64 o, .int .i64 m, .int .i64 d, .int .i64 p]] w (.bool (feaOk s mv o m d && (decide (0 ≤ p) && decide (p ≤ 99)))) := by
 obtain ⟨W0, hW0, hC, hBl⟩ := box_any w #[.string s, .bool mv, .int .i64 o, .int .i64 m, .int .i64 d, .int .i64 p] 196
 obtain ⟨c0, c1, c2, c3, c4, c5⟩ := cells6 hC
 obtain ⟨x0, hx0⟩ : ∃ x0 : Later W0, W0 = x0.w := ⟨⟨W0, Below.refl _ _⟩, rfl⟩
 have HW0 := hideP (hW0.symm.trans hx0)
 have HBl := hideP hBl
 have K : ∀ x : Later W0, CR 275 #[.agg #[.string s, .bool mv, .int .i64 o, .int .i64 m, .int .i64 d]] x.w (.bool (feaOk s mv o m d)) := fun x => implFeaOk s mv o m d x.w hs (hT.later (hBl x))
 generalize feaOk s mv o m d = B at *
 clear hW0 hC hBl hx0 hT
 rcases Int.lt_or_le p 0 with h1 | h1
 all_goals rcases Int.lt_or_le 99 p with h2 | h2
 all_goals try (exfalso; omega)
 all_goals
  cases B
  all_goals
   go_enter Tryz.func348, Tryz.ntmps348
   go_wp2_with fail
   rw [HW0.out]
   refine lat (K x0) fun x1 => ?_
   go_wp2
   go_ret
   refine ⟨?_, HBl.out x1⟩
   simp only [Bool.false_and, Bool.true_and]
   try (first | rw [decide_eq_true (show 0 ≤ p by omega)] | rw [decide_eq_false (show ¬ 0 ≤ p by omega)])
   try (first | rw [decide_eq_true (show p ≤ 99 by omega)] | rw [decide_eq_false (show ¬ p ≤ 99 by omega)])
   try rfl
end Go.Proofs.YtdmlhiailjnhcaaGreatDoor.ctr
