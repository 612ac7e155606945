/- Contract of the model's DayOfRoman: it answers its plain function. Contracts of the model's l01Many, l01Digit and PutRoman: PutRoman answers the plain function putRoman at every int; nothing is written. Contracts of the model's l01Worth and GetRoman: GetRoman answers the plain function getRoman at every text of at most 1048576 bytes; nothing is written. -/
import Derived.Test.YtdgolaaheakfoaaGreatDoorJnSbg
import Derived.Test.YtdgolaaheakfoaaGreatDoorJnSbh
import Derived.Test.YtdgolaaheakfoaaGreatDoorJnSaa
import Derived.Handy
namespace Go.Proofs.YtdgolaaheakfoaaGreatDoor.ctr
open Go.RowKit
def yrP (c y : Int) : Prop := (c = 0 ∨ c = 1) ∧ 1 ≤ y ∧ y ≤ 3000
instance (c y : Int) : Decidable (yrP c y) := by unfold yrP; infer_instance
def yrB (c y : Int) : Bool := decide (yrP c y)
theorem specYr (c y : Int) (w : World) : Calls Tryz.prog 147 #[.int .i64 c, .int .i64 y] w fun e w' => e = .returned (.bool (yrB c y)) ∧ w' = w := by
  by_cases hc : c = 0 ∨ c = 1
  · have hC : calB c = true := calB_iff.2 hc
    have hY : yrB c y = inB y 1 3000 := by
      unfold yrB inB
      by_cases h1 : 1 ≤ y <;> by_cases h2 : y ≤ 3000 <;> simp [yrP, hc, h1, h2]
    rw [hY]
    clear hc hY
    cases hI : inB y 1 3000
    all_goals
      go_enter Tryz.func147, Tryz.ntmps147
      go_wp2_with fail
      refine (specCal _ _).mono ?_
      rintro e w1 ⟨rfl, rfl⟩
      rw [hC]
      go_wp2_with fail
      refine (l01In _ _ _ _).mono ?_
      rintro e w1 ⟨rfl, rfl⟩
      rw [hI]
      go_wp2
      go_ret
      exact ⟨rfl, rfl⟩
  · have hC : calB c = false := calB_no hc
    have hY : yrB c y = false := decide_eq_false (fun h => hc h.1)
    rw [hY]
    clear hc hY
    go_enter Tryz.func147, Tryz.ntmps147
    go_wp2_with fail
    refine (specCal _ _).mono ?_
    rintro e w1 ⟨rfl, rfl⟩
    rw [hC]
    go_wp2
    go_ret
    exact ⟨rfl, rfl⟩
theorem isDay_month {c y m d : Int} {r : Rom} (h : isDay c y r m d) : m = r.month ∨ m % 12 + 1 = r.month := by
  obtain ⟨hd, rfl⟩ := h
  unfold romanOf
  rw [if_pos hd]
  unfold romanIn
  split
  · exact .inl rfl
  · split
    · exact .inl rfl
    · split
      · exact .inl rfl
      · exact .inr rfl
structure ESt (w : World) (cn mk mo : Int) (tw : Bool) (W : World) : Prop where
  below : Below w.heap.size w W
  rom : Blk W w.heap.size #[.int .i64 cn, .int .i64 mk, .int .i64 mo, .bool tw] 42
  res : Blk W (w.heap.size + 1) #[.int .i64 0, .int .i64 0, .int .i64 0, .int .i64 0] 92
theorem ESt.later {w : World} {cn mk mo : Int} {tw : Bool} {W W' : World} (h : ESt w cn mk mo tw W) (hb : Below W.heap.size W W') : ESt w cn mk mo tw W' :=
  ⟨h.below.trans (hb.mono h.below.size), h.rom.below hb h.rom.lt, h.res.below hb h.res.lt⟩
set_option maxRecDepth 100000 in
set_option maxHeartbeats 4000000 in
theorem specDayOfRoman (c y : Int) (r : Rom) (w : World) : Calls Tryz.prog 143 #[.int .i64 c, .int .i64 y, romV r] w fun e w' => e = .returned (dayV (dayOfRoman c y r)) ∧ Below w.heap.size w w' := by
  obtain ⟨cn, mk, mo, tw⟩ := r
  obtain ⟨W0, hW0, hD, hR, hBl⟩ := two_box w #[.int .i64 cn, .int .i64 mk, .int .i64 mo, .bool tw] #[.int .i64 0, .int .i64 0, .int .i64 0, .int .i64 0] 42 92
  obtain ⟨x0, hx0⟩ := Later.of (Below.refl W0.heap.size W0)
  have S0 : Hid (ESt w cn mk mo tw W0) := by rw [hx0]; exact ⟨hBl x0, hD x0, hR x0⟩
  have HW0 := hideP hW0
  clear hW0 hBl hD hR hx0 x0
  have KY : ∀ W, Calls Tryz.prog 147 #[.int .i64 c, .int .i64 y] W fun e w' => e = .returned (.bool (yrB c y)) ∧ w' = W := specYr c y
  obtain ⟨R, hRd⟩ : ∃ R, R = dayOfRoman c y ⟨cn, mk, mo, tw⟩ := ⟨_, rfl⟩
  have HR := hideP hRd
  rw [← hRd]
  clear hRd
  by_cases hy : yrP c y
  case neg =>
    have HV : Hid (R = (0, 0, 0, 0)) := HR.out.trans (romDay_no fun m d h => hy ⟨h.1.1, h.1.2.1, h.1.2.2.1⟩)
    rw [show yrB c y = false from decide_eq_false hy] at KY
    clear hy HR
    go_enter Tryz.func143, Tryz.ntmps143
    go_wp2_with fail
    rw [← HW0.out]
    go_loopw [7] (fun i wr => i = .int .i64 1 ∧ wr = W0) (fun _ _ => 0)
    case atStart => exact ⟨rfl, rfl⟩
    case round =>
      obtain ⟨rfl, rfl⟩ := hrel
      have q0 := S0.out.res.cell 0 rfl
      have q1 := S0.out.res.cell 1 rfl
      have q2 := S0.out.res.cell 2 rfl
      have q3 := S0.out.res.cell 3 rfl
      have f0 := S0.out.res.thaw 0
      have f1 := S0.out.res.thaw 1
      have f2 := S0.out.res.thaw 2
      have f3 := S0.out.res.thaw 3
      go_wp2_with fail
      refine (KY _).mono ?_
      rintro e w1 ⟨rfl, rfl⟩
      go_wp2_with fail
      rw [put4_eq]
      have Z := put4_blk (v0 := .int .i64 0) (v1 := .int .i64 0) (v2 := .int .i64 0) (v3 := .int .i64 0) S0.out.res
      have z0 := Z.cell 0 rfl
      have z1 := Z.cell 1 rfl
      have z2 := Z.cell 2 rfl
      have z3 := Z.cell 3 rfl
      exact bodyPost_ret (by simp [results, Tryz.results143, go_sem, z0, z1, z2, z3]; try rfl) rfl ⟨by rw [HV.out], put4_below S0.out.below (by omega)⟩
  rw [show yrB c y = true from decide_eq_true hy] at KY
  have HY := hideP hy
  clear hy
  go_enter Tryz.func143, Tryz.ntmps143
  go_wp2_with fail
  rw [← HW0.out]
  go_loopw [7] (fun i wr => ∃ j : Nat, j ≤ 12 ∧ i = .int .i64 ((j : Int) + 1) ∧ ESt w cn mk mo tw wr ∧ Hid (∀ m d, m < (j : Int) + 1 → ¬ isDay c y ⟨cn, mk, mo, tw⟩ m d)) (fun i _ => 14 - (intOf i).toNat)
  case atStart => exact ⟨0, by omega, rfl, S0.out, fun m d hm h => by have := (dateP_month h.1).1; omega⟩
  case round =>
    obtain ⟨j, hj, rfl, hS, HJ⟩ := hrel
    obtain ⟨V, hV⟩ : ∃ V, V = wr := ⟨_, rfl⟩
    rw [← hV] at hS ⊢
    clear hV wr
    have S := hideP hS
    clear hS S0
    by_cases hlt : j < 12
    case neg =>
      have hj12 : j = 12 := by omega
      subst hj12
      have HV : Hid (R = (0, 0, 0, 0)) := HR.out.trans (romDay_no fun m d h => HJ.out m d (by have := (dateP_month h.1).2; omega) h)
      have q0 := S.out.res.cell 0 rfl
      have q1 := S.out.res.cell 1 rfl
      have q2 := S.out.res.cell 2 rfl
      have q3 := S.out.res.cell 3 rfl
      have f0 := S.out.res.thaw 0
      have f1 := S.out.res.thaw 1
      have f2 := S.out.res.thaw 2
      have f3 := S.out.res.thaw 3
      go_wp2_with fail
      rw [put4_eq]
      have Z := put4_blk (v0 := .int .i64 0) (v1 := .int .i64 0) (v2 := .int .i64 0) (v3 := .int .i64 0) S.out.res
      have z0 := Z.cell 0 rfl
      have z1 := Z.cell 1 rfl
      have z2 := Z.cell 2 rfl
      have z3 := Z.cell 3 rfl
      exact bodyPost_ret (by simp [results, Tryz.results143, go_sem, z0, z1, z2, z3]; try rfl) rfl ⟨by rw [HV.out], put4_below S.out.below (by omega)⟩
    have u2 := S.out.rom.cell 2 rfl
    obtain ⟨m, hm⟩ : ∃ m : Int, m = (j : Int) + 1 := ⟨_, rfl⟩
    rw [← hm] at HJ ⊢
    have hm1 : 1 ≤ m := by omega
    have hm2 : m ≤ 12 := by omega
    have HM := hideP hm
    clear hm
    by_cases hin : m = mo ∨ m % 12 + 1 = mo
    case neg =>
      have e1 : (m == mo) = false := by simp; exact fun h => hin (.inl h)
      have e2 : (m % 12 + 1 == mo) = false := by simp; exact fun h => hin (.inr h)
      have e1' : (m != mo) = true := by simp [bne, e1]
      have e2' : (m % 12 + 1 != mo) = true := by simp [bne, e2]
      have HJ' : Hid (∀ m' d, m' < ((j + 1 : Nat) : Int) + 1 → ¬ isDay c y ⟨cn, mk, mo, tw⟩ m' d) := fun m' d hm' h => by
        by_cases e : m' = m
        · rw [e] at h
          exact hin (isDay_month h)
        · exact HJ.out m' d (by have := HM.out; omega) h
      clear hin HJ
      go_wp2_with fail
      refine (KY _).mono ?_
      rintro e w1 ⟨rfl, hw1⟩
      rw [hw1]
      clear hw1 w1
      go_wp2
      exact ⟨⟨j + 1, by omega, by rw [HM.out]; go_num, S.out, HJ'.out⟩, by rw [HM.out]; simp [intOf]; omega⟩
    by_cases hmm : m = mo
    · have e1' : (m != mo) = false := by simp [bne, hmm]
      clear hmm hin
      go_wp2_with fail
      refine (KY _).mono ?_
      rintro e w1 ⟨rfl, hw1⟩
      rw [hw1]
      clear hw1 w1
      go_wp2_with fail
      go_loopw [8] (fun i wr => ∃ n : Nat, n ≤ 31 ∧ i = .int .i64 ((n : Int) + 1) ∧ ESt w cn mk mo tw wr ∧ Hid (∀ d, d < (n : Int) + 1 → ¬ isDay c y ⟨cn, mk, mo, tw⟩ m d)) (fun i _ => 33 - (intOf i).toNat)
      case atStart => exact ⟨0, by omega, rfl, S.out, fun d hd h => by have := (dateP_day h.1).1; omega⟩
      case round =>
        obtain ⟨n, hn, rfl, hS1, HN⟩ := hrel
        have S1 := hideP hS1
        clear hS1 u2
        obtain ⟨k, hk⟩ : ∃ k : Int, k = (n : Int) + 1 := ⟨_, rfl⟩
        rw [← hk] at HN ⊢
        have hk1 : 1 ≤ k := by omega
        have hk2 : k ≤ 32 := by omega
        have HK := hideP hk
        clear hk
        have KM := specMonthDays c y m
        have hmd := monthDays_le c y m
        by_cases hle : k ≤ monthDays c y m
        case neg =>
          have HJ' : Hid (∀ m' d, m' < ((j + 1 : Nat) : Int) + 1 → ¬ isDay c y ⟨cn, mk, mo, tw⟩ m' d) := fun m' d hm' h => by
            by_cases e : m' = m
            · rw [e] at h
              exact HN.out d (by have := h.1.2.2.2.2; omega) h
            · exact HJ.out m' d (by have := HM.out; omega) h
          have g1 : decide (k ≤ monthDays c y m) = false := decide_eq_false hle
          clear HN HJ
          generalize monthDays c y m = md at *
          go_wp2_with fail
          refine (KM _).mono ?_
          rintro e w1 ⟨rfl, hb⟩
          have S2 := hideP (S1.out.later hb)
          clear hb
          go_wp2
          exact ⟨⟨j + 1, by omega, by rw [HM.out]; go_num, S2.out, HJ'.out⟩, by rw [HM.out]; simp [intOf]; omega⟩
        have hdp : dateP c y m k := ⟨HY.out.1, HY.out.2.1, HY.out.2.2, hk1, hle⟩
        have g1 : decide (k ≤ monthDays c y m) = true := decide_eq_true hle
        have hk31 : k ≤ 31 := by omega
        have HDP := hideP hdp
        clear hdp
        generalize monthDays c y m = md at *
        go_wp2_with fail
        refine (KM _).mono ?_
        rintro e W2 ⟨rfl, hb⟩
        have S2 := hideP (S1.out.later hb)
        clear hb
        go_wp2_with fail
        obtain ⟨W3, hW3⟩ : ∃ W3, W3 = W2.alloc (dateO c y m k) := ⟨_, rfl⟩
        have S3 : Hid (ESt w cn mk mo tw W3) := by rw [hW3]; exact S2.out.later ((Below.refl _ _).alloc (Nat.le_refl _) _)
        have D3 : Hid (Blk W3 W2.heap.size #[.int .i64 c, .int .i64 y, .int .i64 m, .int .i64 k] 92) := by rw [hW3]; exact Blk.new _ _ _
        rw [← hW3]
        clear hW3 S2 S1 KM g1
        have u0 : ∀ z : Later W3, z.w.cell? ⟨w.heap.size, 0, none⟩ = some (.int .i64 cn) := fun z => (S3.out.later z.below).rom.cell 0 rfl
        have u1 : ∀ z : Later W3, z.w.cell? ⟨w.heap.size, 1, none⟩ = some (.int .i64 mk) := fun z => (S3.out.later z.below).rom.cell 1 rfl
        have u2 : ∀ z : Later W3, z.w.cell? ⟨w.heap.size, 2, none⟩ = some (.int .i64 mo) := fun z => (S3.out.later z.below).rom.cell 2 rfl
        have u3 : ∀ z : Later W3, z.w.cell? ⟨w.heap.size, 3, none⟩ = some (.bool tw) := fun z => (S3.out.later z.below).rom.cell 3 rfl
        have v0 : ∀ z : Later W3, z.w.cell? ⟨W2.heap.size, 0, none⟩ = some (.int .i64 c) := fun z => (D3.out.later z).cell 0 rfl
        have v1 : ∀ z : Later W3, z.w.cell? ⟨W2.heap.size, 1, none⟩ = some (.int .i64 y) := fun z => (D3.out.later z).cell 1 rfl
        have v2 : ∀ z : Later W3, z.w.cell? ⟨W2.heap.size, 2, none⟩ = some (.int .i64 m) := fun z => (D3.out.later z).cell 2 rfl
        have v3 : ∀ z : Later W3, z.w.cell? ⟨W2.heap.size, 3, none⟩ = some (.int .i64 k) := fun z => (D3.out.later z).cell 3 rfl
        have KR : ∀ z : Later W3, Calls Tryz.prog 118 #[.agg #[.int .i64 c, .int .i64 y, .int .i64 m, .int .i64 k]] z.w fun e w' => e = .returned (romV (romanOf c y m k)) ∧ Below z.w.heap.size z.w w' := fun z => specRomanOf c y m k z.w
        by_cases hr : romanOf c y m k = ⟨cn, mk, mo, tw⟩
        · have HV := hideP (HR.out.trans (romDay_yes (show isDay c y ⟨cn, mk, mo, tw⟩ m k from ⟨HDP.out, hr⟩)))
          rw [hr] at KR
          clear hr HN HJ HDP
          refine wp_region_later (W := W3) (Below.refl _ _) (by kernel_rfl) (by kernel_rfl) ?_
          repeat (go_big_quiet_step (first | (go_at_call 118; exact calls_later (KR _))))
          refine wpQuiet_nil ?_
          intro _ hw'
          obtain ⟨x5, rfl⟩ := hw'
          have s0 := v0 x5
          have s1 := v1 x5
          have s2 := v2 x5
          have s3 := v3 x5
          have q0 := (S3.out.later x5.below).res.cell 0 rfl
          have q1 := (S3.out.later x5.below).res.cell 1 rfl
          have q2 := (S3.out.later x5.below).res.cell 2 rfl
          have q3 := (S3.out.later x5.below).res.cell 3 rfl
          have f0 := (S3.out.later x5.below).res.thaw 0
          have f1 := (S3.out.later x5.below).res.thaw 1
          have f2 := (S3.out.later x5.below).res.thaw 2
          have f3 := (S3.out.later x5.below).res.thaw 3
          go_wp2_with fail
          rw [put4_eq]
          have Z := put4_blk (v0 := .int .i64 c) (v1 := .int .i64 y) (v2 := .int .i64 m) (v3 := .int .i64 k) (S3.out.later x5.below).res
          have z0 := Z.cell 0 rfl
          have z1 := Z.cell 1 rfl
          have z2 := Z.cell 2 rfl
          have z3 := Z.cell 3 rfl
          exact bodyPost_ret (by simp [results, Tryz.results143, go_sem, z0, z1, z2, z3]; try rfl) rfl ⟨by rw [HV.out], put4_below (S3.out.later x5.below).below (by omega)⟩
        have HN' : Hid (∀ d, d < ((n + 1 : Nat) : Int) + 1 → ¬ isDay c y ⟨cn, mk, mo, tw⟩ m d) := fun d hd h => by
          by_cases e : d = k
          · rw [e] at h
            exact hr h.2
          · exact HN.out d (by have := HK.out; omega) h
        generalize romanOf c y m k = ro at *
        obtain ⟨a0, a1, a2, a3⟩ := ro
        have hne : (a0 == cn) = false ∨ (a1 == mk) = false ∨ (a2 == mo) = false ∨ (a3 == tw) = false := by
          by_cases e0 : a0 = cn
          · by_cases e1 : a1 = mk
            · by_cases e2 : a2 = mo
              · by_cases e3 : a3 = tw
                · exact absurd (by rw [e0, e1, e2, e3]) hr
                · exact .inr (.inr (.inr (by simp [e3])))
              · exact .inr (.inr (.inl (by simp [e2])))
            · exact .inr (.inl (by simp [e1]))
          · exact .inl (by simp [e0])
        clear hr HDP HN HJ
        rcases hne with he | he | he | he
        · skip
          refine wp_region_later (W := W3) (Below.refl _ _) (by kernel_rfl) (by kernel_rfl) ?_
          repeat (go_big_quiet_step (first | (go_at_call 118; exact calls_later (KR _))))
          refine wpQuiet_nil ?_
          intro _ hw'
          obtain ⟨x5, rfl⟩ := hw'
          go_wp2
          exact ⟨⟨n + 1, by have := HK.out; omega, by rw [HK.out]; go_num, S3.out.later x5.below, HN'.out⟩, by rw [HK.out]; simp [intOf]; omega⟩
        · skip
          refine wp_region_later (W := W3) (Below.refl _ _) (by kernel_rfl) (by kernel_rfl) ?_
          repeat (go_big_quiet_step (first | (go_at_call 118; exact calls_later (KR _))))
          refine wpQuiet_nil ?_
          intro _ hw'
          obtain ⟨x5, rfl⟩ := hw'
          go_wp2
          exact ⟨⟨n + 1, by have := HK.out; omega, by rw [HK.out]; go_num, S3.out.later x5.below, HN'.out⟩, by rw [HK.out]; simp [intOf]; omega⟩
        · skip
          refine wp_region_later (W := W3) (Below.refl _ _) (by kernel_rfl) (by kernel_rfl) ?_
          repeat (go_big_quiet_step (first | (go_at_call 118; exact calls_later (KR _))))
          refine wpQuiet_nil ?_
          intro _ hw'
          obtain ⟨x5, rfl⟩ := hw'
          go_wp2
          exact ⟨⟨n + 1, by have := HK.out; omega, by rw [HK.out]; go_num, S3.out.later x5.below, HN'.out⟩, by rw [HK.out]; simp [intOf]; omega⟩
        · skip
          refine wp_region_later (W := W3) (Below.refl _ _) (by kernel_rfl) (by kernel_rfl) ?_
          repeat (go_big_quiet_step (first | (go_at_call 118; exact calls_later (KR _))))
          refine wpQuiet_nil ?_
          intro _ hw'
          obtain ⟨x5, rfl⟩ := hw'
          go_wp2
          exact ⟨⟨n + 1, by have := HK.out; omega, by rw [HK.out]; go_num, S3.out.later x5.below, HN'.out⟩, by rw [HK.out]; simp [intOf]; omega⟩
    have e1' : (m != mo) = true := by simp [bne, hmm]
    have e2' : (m % 12 + 1 != mo) = false := by simp [bne]; exact hin.resolve_left hmm
    clear hmm hin
    go_wp2_with fail
    refine (KY _).mono ?_
    rintro e w1 ⟨rfl, hw1⟩
    rw [hw1]
    clear hw1 w1
    go_wp2_with fail
    go_loopw [8] (fun i wr => ∃ n : Nat, n ≤ 31 ∧ i = .int .i64 ((n : Int) + 1) ∧ ESt w cn mk mo tw wr ∧ Hid (∀ d, d < (n : Int) + 1 → ¬ isDay c y ⟨cn, mk, mo, tw⟩ m d)) (fun i _ => 33 - (intOf i).toNat)
    case atStart => exact ⟨0, by omega, rfl, S.out, fun d hd h => by have := (dateP_day h.1).1; omega⟩
    case round =>
      obtain ⟨n, hn, rfl, hS1, HN⟩ := hrel
      have S1 := hideP hS1
      clear hS1 u2
      obtain ⟨k, hk⟩ : ∃ k : Int, k = (n : Int) + 1 := ⟨_, rfl⟩
      rw [← hk] at HN ⊢
      have hk1 : 1 ≤ k := by omega
      have hk2 : k ≤ 32 := by omega
      have HK := hideP hk
      clear hk
      have KM := specMonthDays c y m
      have hmd := monthDays_le c y m
      by_cases hle : k ≤ monthDays c y m
      case neg =>
        have HJ' : Hid (∀ m' d, m' < ((j + 1 : Nat) : Int) + 1 → ¬ isDay c y ⟨cn, mk, mo, tw⟩ m' d) := fun m' d hm' h => by
          by_cases e : m' = m
          · rw [e] at h
            exact HN.out d (by have := h.1.2.2.2.2; omega) h
          · exact HJ.out m' d (by have := HM.out; omega) h
        have g1 : decide (k ≤ monthDays c y m) = false := decide_eq_false hle
        clear HN HJ
        generalize monthDays c y m = md at *
        go_wp2_with fail
        refine (KM _).mono ?_
        rintro e w1 ⟨rfl, hb⟩
        have S2 := hideP (S1.out.later hb)
        clear hb
        go_wp2
        exact ⟨⟨j + 1, by omega, by rw [HM.out]; go_num, S2.out, HJ'.out⟩, by rw [HM.out]; simp [intOf]; omega⟩
      have hdp : dateP c y m k := ⟨HY.out.1, HY.out.2.1, HY.out.2.2, hk1, hle⟩
      have g1 : decide (k ≤ monthDays c y m) = true := decide_eq_true hle
      have hk31 : k ≤ 31 := by omega
      have HDP := hideP hdp
      clear hdp
      generalize monthDays c y m = md at *
      go_wp2_with fail
      refine (KM _).mono ?_
      rintro e W2 ⟨rfl, hb⟩
      have S2 := hideP (S1.out.later hb)
      clear hb
      go_wp2_with fail
      obtain ⟨W3, hW3⟩ : ∃ W3, W3 = W2.alloc (dateO c y m k) := ⟨_, rfl⟩
      have S3 : Hid (ESt w cn mk mo tw W3) := by rw [hW3]; exact S2.out.later ((Below.refl _ _).alloc (Nat.le_refl _) _)
      have D3 : Hid (Blk W3 W2.heap.size #[.int .i64 c, .int .i64 y, .int .i64 m, .int .i64 k] 92) := by rw [hW3]; exact Blk.new _ _ _
      rw [← hW3]
      clear hW3 S2 S1 KM g1
      have u0 : ∀ z : Later W3, z.w.cell? ⟨w.heap.size, 0, none⟩ = some (.int .i64 cn) := fun z => (S3.out.later z.below).rom.cell 0 rfl
      have u1 : ∀ z : Later W3, z.w.cell? ⟨w.heap.size, 1, none⟩ = some (.int .i64 mk) := fun z => (S3.out.later z.below).rom.cell 1 rfl
      have u2 : ∀ z : Later W3, z.w.cell? ⟨w.heap.size, 2, none⟩ = some (.int .i64 mo) := fun z => (S3.out.later z.below).rom.cell 2 rfl
      have u3 : ∀ z : Later W3, z.w.cell? ⟨w.heap.size, 3, none⟩ = some (.bool tw) := fun z => (S3.out.later z.below).rom.cell 3 rfl
      have v0 : ∀ z : Later W3, z.w.cell? ⟨W2.heap.size, 0, none⟩ = some (.int .i64 c) := fun z => (D3.out.later z).cell 0 rfl
      have v1 : ∀ z : Later W3, z.w.cell? ⟨W2.heap.size, 1, none⟩ = some (.int .i64 y) := fun z => (D3.out.later z).cell 1 rfl
      have v2 : ∀ z : Later W3, z.w.cell? ⟨W2.heap.size, 2, none⟩ = some (.int .i64 m) := fun z => (D3.out.later z).cell 2 rfl
      have v3 : ∀ z : Later W3, z.w.cell? ⟨W2.heap.size, 3, none⟩ = some (.int .i64 k) := fun z => (D3.out.later z).cell 3 rfl
      have KR : ∀ z : Later W3, Calls Tryz.prog 118 #[.agg #[.int .i64 c, .int .i64 y, .int .i64 m, .int .i64 k]] z.w fun e w' => e = .returned (romV (romanOf c y m k)) ∧ Below z.w.heap.size z.w w' := fun z => specRomanOf c y m k z.w
      by_cases hr : romanOf c y m k = ⟨cn, mk, mo, tw⟩
      · have HV := hideP (HR.out.trans (romDay_yes (show isDay c y ⟨cn, mk, mo, tw⟩ m k from ⟨HDP.out, hr⟩)))
        rw [hr] at KR
        clear hr HN HJ HDP
        refine wp_region_later (W := W3) (Below.refl _ _) (by kernel_rfl) (by kernel_rfl) ?_
        repeat (go_big_quiet_step (first | (go_at_call 118; exact calls_later (KR _))))
        refine wpQuiet_nil ?_
        intro _ hw'
        obtain ⟨x5, rfl⟩ := hw'
        have s0 := v0 x5
        have s1 := v1 x5
        have s2 := v2 x5
        have s3 := v3 x5
        have q0 := (S3.out.later x5.below).res.cell 0 rfl
        have q1 := (S3.out.later x5.below).res.cell 1 rfl
        have q2 := (S3.out.later x5.below).res.cell 2 rfl
        have q3 := (S3.out.later x5.below).res.cell 3 rfl
        have f0 := (S3.out.later x5.below).res.thaw 0
        have f1 := (S3.out.later x5.below).res.thaw 1
        have f2 := (S3.out.later x5.below).res.thaw 2
        have f3 := (S3.out.later x5.below).res.thaw 3
        go_wp2_with fail
        rw [put4_eq]
        have Z := put4_blk (v0 := .int .i64 c) (v1 := .int .i64 y) (v2 := .int .i64 m) (v3 := .int .i64 k) (S3.out.later x5.below).res
        have z0 := Z.cell 0 rfl
        have z1 := Z.cell 1 rfl
        have z2 := Z.cell 2 rfl
        have z3 := Z.cell 3 rfl
        exact bodyPost_ret (by simp [results, Tryz.results143, go_sem, z0, z1, z2, z3]; try rfl) rfl ⟨by rw [HV.out], put4_below (S3.out.later x5.below).below (by omega)⟩
      have HN' : Hid (∀ d, d < ((n + 1 : Nat) : Int) + 1 → ¬ isDay c y ⟨cn, mk, mo, tw⟩ m d) := fun d hd h => by
        by_cases e : d = k
        · rw [e] at h
          exact hr h.2
        · exact HN.out d (by have := HK.out; omega) h
      generalize romanOf c y m k = ro at *
      obtain ⟨a0, a1, a2, a3⟩ := ro
      have hne : (a0 == cn) = false ∨ (a1 == mk) = false ∨ (a2 == mo) = false ∨ (a3 == tw) = false := by
        by_cases e0 : a0 = cn
        · by_cases e1 : a1 = mk
          · by_cases e2 : a2 = mo
            · by_cases e3 : a3 = tw
              · exact absurd (by rw [e0, e1, e2, e3]) hr
              · exact .inr (.inr (.inr (by simp [e3])))
            · exact .inr (.inr (.inl (by simp [e2])))
          · exact .inr (.inl (by simp [e1]))
        · exact .inl (by simp [e0])
      clear hr HDP HN HJ
      rcases hne with he | he | he | he
      · skip
        refine wp_region_later (W := W3) (Below.refl _ _) (by kernel_rfl) (by kernel_rfl) ?_
        repeat (go_big_quiet_step (first | (go_at_call 118; exact calls_later (KR _))))
        refine wpQuiet_nil ?_
        intro _ hw'
        obtain ⟨x5, rfl⟩ := hw'
        go_wp2
        exact ⟨⟨n + 1, by have := HK.out; omega, by rw [HK.out]; go_num, S3.out.later x5.below, HN'.out⟩, by rw [HK.out]; simp [intOf]; omega⟩
      · skip
        refine wp_region_later (W := W3) (Below.refl _ _) (by kernel_rfl) (by kernel_rfl) ?_
        repeat (go_big_quiet_step (first | (go_at_call 118; exact calls_later (KR _))))
        refine wpQuiet_nil ?_
        intro _ hw'
        obtain ⟨x5, rfl⟩ := hw'
        go_wp2
        exact ⟨⟨n + 1, by have := HK.out; omega, by rw [HK.out]; go_num, S3.out.later x5.below, HN'.out⟩, by rw [HK.out]; simp [intOf]; omega⟩
      · skip
        refine wp_region_later (W := W3) (Below.refl _ _) (by kernel_rfl) (by kernel_rfl) ?_
        repeat (go_big_quiet_step (first | (go_at_call 118; exact calls_later (KR _))))
        refine wpQuiet_nil ?_
        intro _ hw'
        obtain ⟨x5, rfl⟩ := hw'
        go_wp2
        exact ⟨⟨n + 1, by have := HK.out; omega, by rw [HK.out]; go_num, S3.out.later x5.below, HN'.out⟩, by rw [HK.out]; simp [intOf]; omega⟩
      · skip
        refine wp_region_later (W := W3) (Below.refl _ _) (by kernel_rfl) (by kernel_rfl) ?_
        repeat (go_big_quiet_step (first | (go_at_call 118; exact calls_later (KR _))))
        refine wpQuiet_nil ?_
        intro _ hw'
        obtain ⟨x5, rfl⟩ := hw'
        go_wp2
        exact ⟨⟨n + 1, by have := HK.out; omega, by rw [HK.out]; go_num, S3.out.later x5.below, HN'.out⟩, by rw [HK.out]; simp [intOf]; omega⟩
end Go.Proofs.YtdgolaaheakfoaaGreatDoor.ctr
namespace Go.Proofs.YtdgolaaheakfoaaGreatDoor.ctr
open Go.RowKit
def digL (d : Nat) (a b c : UInt8) : List UInt8 :=
  match d with
  | 1 => [a] | 2 => [a, a] | 3 => [a, a, a] | 4 => [a, b] | 5 => [b] | 6 => [b, a] | 7 => [b, a, a] | 8 => [b, a, a, a] | 9 => [a, c] | _ => []
def manyL (c : UInt8) (n : Nat) : List UInt8 := List.replicate n c
def roman (n : Nat) : List UInt8 := manyL 77 (n / 1000) ++ digL (n / 100 % 10) 67 68 77 ++ digL (n / 10 % 10) 88 76 67 ++ digL (n % 10) 73 86 88
def putRoman (n : Int) : ByteArray := ⟨(if 1 ≤ n ∧ n ≤ 3999 then roman n.toNat else []).toArray⟩
end Go.Proofs.YtdgolaaheakfoaaGreatDoor.ctr
namespace Go.Proofs.YtdgolaaheakfoaaGreatDoor.ctr
open Go.RowKit
def worth (x : Int) : Int := if x = 73 then 1 else if x = 86 then 5 else if x = 88 then 10 else if x = 76 then 50 else if x = 67 then 100 else if x = 68 then 500 else if x = 77 then 1000 else 0
def byteAt (s : ByteArray) (k : Nat) : Int := ((s.data.toList.getD k 0).toNat : Int)
def stepAt (s : ByteArray) (k : Nat) : Int := if k + 1 < s.size ∧ worth (byteAt s k) < worth (byteAt s (k + 1)) then -worth (byteAt s k) else worth (byteAt s k)
def sumR (s : ByteArray) : Nat → Int
  | 0 => 0
  | k + 1 => sumR s k + stepAt s k
def getRoman (s : ByteArray) : Int := if putRoman (sumR s s.size) = s then sumR s s.size else 0
end Go.Proofs.YtdgolaaheakfoaaGreatDoor.ctr
