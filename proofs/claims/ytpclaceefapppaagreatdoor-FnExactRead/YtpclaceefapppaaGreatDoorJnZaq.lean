/- Contract of the model's DayOfRoman: it answers its plain function; and what else the law reaches. -/
import Derived.Test.YtpclaceefapppaaGreatDoorJnZad
import Derived.Test.YtpclaceefapppaaGreatDoorRomSpecZ
import Derived.Test.YtpclaceefapppaaGreatDoorRomDayZ
import Derived.Test.YtpclaceefapppaaGreatDoorJnZam
set_option maxRecDepth 100000
set_option maxHeartbeats 4000000
namespace Go.Proofs.YtpclaceefapppaaGreatDoor.ctr
open Go.RowKit
def yrP (c y : Int) : Prop := (c = 0 ∨ c = 1) ∧ 1 ≤ y ∧ y ≤ 3000
instance (c y : Int) : Decidable (yrP c y) := by unfold yrP; infer_instance
def yrB (c y : Int) : Bool := decide (yrP c y)
theorem specYr (c y : Int) (w : World) : CS 110 #[.int .i64 c, .int .i64 y] w (.bool (yrB c y)) := by
 by_cases hc : c = 0 ∨ c = 1
 · have hC : calB c = true := calB_iff.2 hc
   have hY : yrB c y = inB y 1 3000 := by
    unfold yrB inB
    by_cases h1 : 1 ≤ y <;> by_cases h2 : y ≤ 3000 <;> simp [yrP, hc, h1, h2]
   rw [hY]
   clear hc hY
   cases hI : inB y 1 3000
   all_goals
    go_enter Tryz.func110, Tryz.ntmps110
    go_wp2_with fail
    refine sameC (specCal _ _) ?_
    rw [hC]
    go_wp2_with fail
    refine sameC (l01In _ _ _ _) ?_
    rw [hI]
    go_wp2
    go_ret
    exact ⟨rfl, rfl⟩
 · have hC : calB c = false := calB_no hc
   have hY : yrB c y = false := decide_eq_false (fun h => hc h.1)
   rw [hY]
   clear hc hY
   go_enter Tryz.func110, Tryz.ntmps110
   go_wp2_with fail
   refine sameC (specCal _ _) ?_
   rw [hC]
   go_wp2
   go_ret
   exact ⟨rfl, rfl⟩
theorem isDay_month {c y m d : Int} {r : Rom} (h : isDay c y r m d) : m = r.month ∨ m % 12 + 1 = r.month := by
 obtain ⟨hd, rfl⟩ := h
 unfold romanOf
 rw [if_pos hd]
 unfold romanIn
 split
 · exact .inl rfl
 · split
   · exact .inl rfl
   · split
     · exact .inl rfl
     · exact .inr rfl
structure ESt (w : World) (cn mk mo : Int) (tw : Bool) (W : World) : Prop where
 below : Below w.heap.size w W
 rom : Blk W w.heap.size #[.int .i64 cn, .int .i64 mk, .int .i64 mo, .bool tw] 54
 res : Blk W (w.heap.size + 1) #[.int .i64 0, .int .i64 0, .int .i64 0, .int .i64 0] 161
theorem ESt.later {w : World} {cn mk mo : Int} {tw : Bool} {W W' : World} (h : ESt w cn mk mo tw W) (hb : Below W.heap.size W W') : ESt w cn mk mo tw W' :=
 ⟨h.below.trans (hb.mono h.below.size), h.rom.below hb h.rom.lt, h.res.below hb h.res.lt⟩
theorem specDayOfRoman (c y : Int) (r : Rom) (w : World) : CR 222 #[.int .i64 c, .int .i64 y, romV r] w (dayV (dayOfRoman c y r)) := by
 obtain ⟨cn, mk, mo, tw⟩ := r
 obtain ⟨W0, hW0, hD, hR, hBl⟩ := two_box w #[.int .i64 cn, .int .i64 mk, .int .i64 mo, .bool tw] #[.int .i64 0, .int .i64 0, .int .i64 0, .int .i64 0] 54 161
 obtain ⟨x0, hx0⟩ := Later.of (Below.refl W0.heap.size W0)
 have S0 : Hid (ESt w cn mk mo tw W0) := by rw [hx0]; exact ⟨hBl x0, hD x0, hR x0⟩
 have HW0 := hideP hW0
 clear hW0 hBl hD hR hx0 x0
 have KY : ∀ W, CS 110 #[.int .i64 c, .int .i64 y] W (.bool (yrB c y)) := specYr c y
 obtain ⟨R, hRd⟩ : ∃ R, R = dayOfRoman c y ⟨cn, mk, mo, tw⟩ := ⟨_, rfl⟩
 have HR := hideP hRd
 rw [← hRd]
 clear hRd
 by_cases hy : yrP c y
 case neg =>
  have HV : Hid (R = (0, 0, 0, 0)) := HR.out.trans (romDay_no fun m d h => hy ⟨h.1.1, h.1.2.1, h.1.2.2.1⟩)
  rw [show yrB c y = false from decide_eq_false hy] at KY
  clear hy HR
  go_enter Tryz.func222, Tryz.ntmps222
  go_wp2_with fail
  rw [← HW0.out]
  go_loopw [7] (fun i wr => i = .int .i64 1 ∧ wr = W0) (fun _ _ => 0)
  case atStart => exact ⟨rfl, rfl⟩
  case round =>
   obtain ⟨rfl, rfl⟩ := hrel
   have q0 := S0.out.res.cell 0 rfl
   have q1 := S0.out.res.cell 1 rfl
   have q2 := S0.out.res.cell 2 rfl
   have q3 := S0.out.res.cell 3 rfl
   have f0 := S0.out.res.thaw 0
   have f1 := S0.out.res.thaw 1
   have f2 := S0.out.res.thaw 2
   have f3 := S0.out.res.thaw 3
   go_wp2_with fail
   refine sameC (KY _) ?_
   go_wp2_with fail
   rw [put4_eq]
   have Z := put4_blk (v0 := .int .i64 0) (v1 := .int .i64 0) (v2 := .int .i64 0) (v3 := .int .i64 0) S0.out.res
   have z0 := Z.cell 0 rfl
   have z1 := Z.cell 1 rfl
   have z2 := Z.cell 2 rfl
   have z3 := Z.cell 3 rfl
   exact bodyPost_ret (by simp [results, Tryz.results222, go_sem, z0, z1, z2, z3]; try rfl) rfl ⟨by rw [HV.out], put4_below S0.out.below (by omega)⟩
 rw [show yrB c y = true from decide_eq_true hy] at KY
 have HY := hideP hy
 clear hy
 go_enter Tryz.func222, Tryz.ntmps222
 go_wp2_with fail
 rw [← HW0.out]
 go_loopw [7] (fun i wr => ∃ j : Nat, j ≤ 12 ∧ i = .int .i64 ((j : Int) + 1) ∧ ESt w cn mk mo tw wr ∧ Hid (∀ m d, m < (j : Int) + 1 → ¬ isDay c y ⟨cn, mk, mo, tw⟩ m d)) (fun i _ => 14 - (intOf i).toNat)
 case atStart => exact ⟨0, by omega, rfl, S0.out, fun m d hm h => by have := (dateP_month h.1).1; omega⟩
 case round =>
  obtain ⟨j, hj, rfl, hS, HJ⟩ := hrel
  obtain ⟨V, hV⟩ : ∃ V, V = wr := ⟨_, rfl⟩
  rw [← hV] at hS ⊢
  clear hV wr
  have S := hideP hS
  clear hS S0
  by_cases hlt : j < 12
  case neg =>
   have hj12 : j = 12 := by omega
   subst hj12
   have HV : Hid (R = (0, 0, 0, 0)) := HR.out.trans (romDay_no fun m d h => HJ.out m d (by have := (dateP_month h.1).2; omega) h)
   have q0 := S.out.res.cell 0 rfl
   have q1 := S.out.res.cell 1 rfl
   have q2 := S.out.res.cell 2 rfl
   have q3 := S.out.res.cell 3 rfl
   have f0 := S.out.res.thaw 0
   have f1 := S.out.res.thaw 1
   have f2 := S.out.res.thaw 2
   have f3 := S.out.res.thaw 3
   go_wp2_with fail
   rw [put4_eq]
   have Z := put4_blk (v0 := .int .i64 0) (v1 := .int .i64 0) (v2 := .int .i64 0) (v3 := .int .i64 0) S.out.res
   have z0 := Z.cell 0 rfl
   have z1 := Z.cell 1 rfl
   have z2 := Z.cell 2 rfl
   have z3 := Z.cell 3 rfl
   exact bodyPost_ret (by simp [results, Tryz.results222, go_sem, z0, z1, z2, z3]; try rfl) rfl ⟨by rw [HV.out], put4_below S.out.below (by omega)⟩
  have u2 := S.out.rom.cell 2 rfl
  obtain ⟨m, hm⟩ : ∃ m : Int, m = (j : Int) + 1 := ⟨_, rfl⟩
  rw [← hm] at HJ ⊢
  have hm1 : 1 ≤ m := by omega
  have hm2 : m ≤ 12 := by omega
  have HM := hideP hm
  clear hm
  by_cases hin : m = mo ∨ m % 12 + 1 = mo
  case neg =>
   have e1 : (m == mo) = false := by simp; exact fun h => hin (.inl h)
   have e2 : (m % 12 + 1 == mo) = false := by simp; exact fun h => hin (.inr h)
   have e1' : (m != mo) = true := by simp [bne, e1]
   have e2' : (m % 12 + 1 != mo) = true := by simp [bne, e2]
   have HJ' : Hid (∀ m' d, m' < ((j + 1 : Nat) : Int) + 1 → ¬ isDay c y ⟨cn, mk, mo, tw⟩ m' d) := fun m' d hm' h => by
    by_cases e : m' = m
    · rw [e] at h
      exact hin (isDay_month h)
    · exact HJ.out m' d (by have := HM.out; omega) h
   clear hin HJ
   go_wp2_with fail
   refine (KY _).mono ?_
   rintro e w1 ⟨rfl, hw1⟩
   rw [hw1]
   clear hw1 w1
   go_wp2
   exact ⟨⟨j + 1, by omega, by rw [HM.out]; go_num, S.out, HJ'.out⟩, by rw [HM.out]; simp [intOf]; omega⟩
  by_cases hmm : m = mo
  focus
    have e1' : (m != mo) = false := by simp [bne, hmm]
  rotate_left
  focus
    have e1' : (m != mo) = true := by simp [bne, hmm]
    have e2' : (m % 12 + 1 != mo) = false := by simp [bne]; exact hin.resolve_left hmm
  rotate_left
  all_goals
   clear hmm hin
   go_wp2_with fail
   refine (KY _).mono ?_
   rintro e w1 ⟨rfl, hw1⟩
   rw [hw1]
   clear hw1 w1
   go_wp2_with fail
   go_loopw [8] (fun i wr => ∃ n : Nat, n ≤ 31 ∧ i = .int .i64 ((n : Int) + 1) ∧ ESt w cn mk mo tw wr ∧ Hid (∀ d, d < (n : Int) + 1 → ¬ isDay c y ⟨cn, mk, mo, tw⟩ m d)) (fun i _ => 33 - (intOf i).toNat)
   case atStart => exact ⟨0, by omega, rfl, S.out, fun d hd h => by have := (dateP_day h.1).1; omega⟩
   case round =>
    obtain ⟨n, hn, rfl, hS1, HN⟩ := hrel
    have S1 := hideP hS1
    clear hS1 u2
    obtain ⟨k, hk⟩ : ∃ k : Int, k = (n : Int) + 1 := ⟨_, rfl⟩
    rw [← hk] at HN ⊢
    have hk1 : 1 ≤ k := by omega
    have hk2 : k ≤ 32 := by omega
    have HK := hideP hk
    clear hk
    have KM := specMonthDays c y m
    have hmd := monthDays_le c y m
    by_cases hle : k ≤ monthDays c y m
    case neg =>
     have HJ' : Hid (∀ m' d, m' < ((j + 1 : Nat) : Int) + 1 → ¬ isDay c y ⟨cn, mk, mo, tw⟩ m' d) := fun m' d hm' h => by
      by_cases e : m' = m
      · rw [e] at h
        exact HN.out d (by have := h.1.2.2.2.2; omega) h
      · exact HJ.out m' d (by have := HM.out; omega) h
     have g1 : decide (k ≤ monthDays c y m) = false := decide_eq_false hle
     clear HN HJ
     generalize monthDays c y m = md at *
     go_wp2_with fail
     refine (KM _).mono ?_
     rintro e w1 ⟨rfl, hb⟩
     have S2 := hideP (S1.out.later hb)
     clear hb
     go_wp2
     exact ⟨⟨j + 1, by omega, by rw [HM.out]; go_num, S2.out, HJ'.out⟩, by rw [HM.out]; simp [intOf]; omega⟩
    have hdp : dateP c y m k := ⟨HY.out.1, HY.out.2.1, HY.out.2.2, hk1, hle⟩
    have g1 : decide (k ≤ monthDays c y m) = true := decide_eq_true hle
    have hk31 : k ≤ 31 := by omega
    have HDP := hideP hdp
    clear hdp
    generalize monthDays c y m = md at *
    go_wp2_with fail
    refine (KM _).mono ?_
    rintro e W2 ⟨rfl, hb⟩
    have S2 := hideP (S1.out.later hb)
    clear hb
    go_wp2_with fail
    obtain ⟨W3, hW3⟩ : ∃ W3, W3 = W2.alloc (dateO c y m k) := ⟨_, rfl⟩
    have S3 : Hid (ESt w cn mk mo tw W3) := by rw [hW3]; exact S2.out.later ((Below.refl _ _).alloc (Nat.le_refl _) _)
    have D3 : Hid (Blk W3 W2.heap.size #[.int .i64 c, .int .i64 y, .int .i64 m, .int .i64 k] 161) := by rw [hW3]; exact Blk.new _ _ _
    rw [← hW3]
    clear hW3 S2 S1 KM g1
    obtain ⟨u0, u1, u2, u3⟩ := cells4 (fun z : Later W3 => (S3.out.later z.below).rom)
    obtain ⟨v0, v1, v2, v3⟩ := cells4 D3.out.later
    have KR : ∀ z : Later W3, CR 162 #[.agg #[.int .i64 c, .int .i64 y, .int .i64 m, .int .i64 k]] z.w (romV (romanOf c y m k)) := fun z => specRomanOf c y m k z.w
    by_cases hr : romanOf c y m k = ⟨cn, mk, mo, tw⟩
    · have HV := hideP (HR.out.trans (romDay_yes (show isDay c y ⟨cn, mk, mo, tw⟩ m k from ⟨HDP.out, hr⟩)))
      rw [hr] at KR
      clear hr HN HJ HDP
      refine wp_region_later (W := W3) (Below.refl _ _) (by kernel_rfl) (by kernel_rfl) ?_
      repeat (go_big_quiet_step (first | (go_at_call 162; exact calls_later (KR _))))
      refine quietE fun x5 => ?_
      have s0 := v0 x5
      have s1 := v1 x5
      have s2 := v2 x5
      have s3 := v3 x5
      have q0 := (S3.out.later x5.below).res.cell 0 rfl
      have q1 := (S3.out.later x5.below).res.cell 1 rfl
      have q2 := (S3.out.later x5.below).res.cell 2 rfl
      have q3 := (S3.out.later x5.below).res.cell 3 rfl
      have f0 := (S3.out.later x5.below).res.thaw 0
      have f1 := (S3.out.later x5.below).res.thaw 1
      have f2 := (S3.out.later x5.below).res.thaw 2
      have f3 := (S3.out.later x5.below).res.thaw 3
      go_wp2_with fail
      rw [put4_eq]
      have Z := put4_blk (v0 := .int .i64 c) (v1 := .int .i64 y) (v2 := .int .i64 m) (v3 := .int .i64 k) (S3.out.later x5.below).res
      have z0 := Z.cell 0 rfl
      have z1 := Z.cell 1 rfl
      have z2 := Z.cell 2 rfl
      have z3 := Z.cell 3 rfl
      exact bodyPost_ret (by simp [results, Tryz.results222, go_sem, z0, z1, z2, z3]; try rfl) rfl ⟨by rw [HV.out], put4_below (S3.out.later x5.below).below (by omega)⟩
    have HN' : Hid (∀ d, d < ((n + 1 : Nat) : Int) + 1 → ¬ isDay c y ⟨cn, mk, mo, tw⟩ m d) := fun d hd h => by
     by_cases e : d = k
     · rw [e] at h
       exact hr h.2
     · exact HN.out d (by have := HK.out; omega) h
    generalize romanOf c y m k = ro at *
    obtain ⟨a0, a1, a2, a3⟩ := ro
    have hne : (a0 == cn) = false ∨ (a1 == mk) = false ∨ (a2 == mo) = false ∨ (a3 == tw) = false := by
     by_cases e0 : a0 = cn
     · by_cases e1 : a1 = mk
       · by_cases e2 : a2 = mo
         · by_cases e3 : a3 = tw
           · exact absurd (by rw [e0, e1, e2, e3]) hr
           · exact .inr (.inr (.inr (by simp [e3])))
         · exact .inr (.inr (.inl (by simp [e2])))
       · exact .inr (.inl (by simp [e1]))
     · exact .inl (by simp [e0])
    clear hr HDP HN HJ
    rcases hne with he | he | he | he
    all_goals
     skip
     refine wp_region_later (W := W3) (Below.refl _ _) (by kernel_rfl) (by kernel_rfl) ?_
     repeat (go_big_quiet_step (first | (go_at_call 162; exact calls_later (KR _))))
     refine quietE fun x5 => ?_
     go_wp2
     exact ⟨⟨n + 1, by have := HK.out; omega, by rw [HK.out]; go_num, S3.out.later x5.below, HN'.out⟩, by rw [HK.out]; simp [intOf]; omega⟩
theorem day_ok (c y : Int) (r : Rom) : dateOk (dayOfRoman c y r).1 (dayOfRoman c y r).2.1 (dayOfRoman c y r).2.2.1 (dayOfRoman c y r).2.2.2 = dayR c y r := by
 cases h : dayR c y r
 · have e : dayOfRoman c y r = (0, 0, 0, 0) := by unfold dayOfRoman; rw [h]; rfl
   rw [e]
   decide
 · have e : dayOfRoman c y r = (c, y, invM r, invD c y r) := by unfold dayOfRoman; rw [if_pos h]
   rw [e]
   exact dateOk_true (dayR_is h).1
theorem dayR_one {r : Rom} (h : dayR 0 1 r = true) : romB r = true := romB_of (dayR_is h)
theorem romB_facts {r : Rom} (h : romB r = true) : 1 ≤ r.count ∧ r.count ≤ 19 ∧ 1 ≤ r.month ∧ r.month ≤ 12 ∧ (r.mark = 0 ∨ r.mark = 1 ∨ r.mark = 2) := by
 have hd := dayR_is (show dayR 0 4 r = true from h)
 obtain ⟨h1, h2, h3, h4, _⟩ := cand_is hd
 refine ⟨h1, h2, h3, h4, ?_⟩
 rw [← hd.2]
 unfold romanOf
 rw [if_pos hd.1]
 unfold romanIn
 split
 · exact .inl rfl
 · split
   · exact .inr (.inl rfl)
   · split
     · exact .inr (.inr rfl)
     · exact .inl rfl
theorem specIs (r : Rom) (w : World) : CR 155 #[romV r] w (.bool (romB r)) := by
 obtain ⟨cn, mk, mo, tw⟩ := r
 obtain ⟨W0, hW0, c0, c1, c2, c3, hBl⟩ := rom_box w cn mk mo tw
 have K1 : ∀ W, CR 222 #[.int .i64 0, .int .i64 1, .agg #[.int .i64 cn, .int .i64 mk, .int .i64 mo, .bool tw]] W (dayV (dayOfRoman 0 1 ⟨cn, mk, mo, tw⟩)) := specDayOfRoman 0 1 ⟨cn, mk, mo, tw⟩
 have K4 : ∀ W, CR 222 #[.int .i64 0, .int .i64 4, .agg #[.int .i64 cn, .int .i64 mk, .int .i64 mo, .bool tw]] W (dayV (dayOfRoman 0 4 ⟨cn, mk, mo, tw⟩)) := specDayOfRoman 0 4 ⟨cn, mk, mo, tw⟩
 have o1 := day_ok 0 1 ⟨cn, mk, mo, tw⟩
 have o4 := day_ok 0 4 ⟨cn, mk, mo, tw⟩
 have h14 := dayR_one (r := ⟨cn, mk, mo, tw⟩)
 obtain ⟨B, hB⟩ : ∃ B, B = romB ⟨cn, mk, mo, tw⟩ := ⟨_, rfl⟩
 rw [show dayR 0 4 ⟨cn, mk, mo, tw⟩ = B from hB.symm] at o4
 rw [← hB] at h14 ⊢
 have HW0 := hideP hW0
 have HBl := hideP hBl
 clear hB hW0 hBl
 generalize dayR 0 1 ⟨cn, mk, mo, tw⟩ = b1 at *
 generalize dayOfRoman 0 1 ⟨cn, mk, mo, tw⟩ = q1 at *
 generalize dayOfRoman 0 4 ⟨cn, mk, mo, tw⟩ = q4 at *
 obtain ⟨p0, p1, p2, p3⟩ := q1
 obtain ⟨s0, s1, s2, s3⟩ := q4
 have D1 : ∀ W, CR 221 #[.agg #[.int .i64 p0, .int .i64 p1, .int .i64 p2, .int .i64 p3]] W (.bool b1) := fun W => by rw [← o1]; exact specDateOk p0 p1 p2 p3 W
 have D4 : ∀ W, CR 221 #[.agg #[.int .i64 s0, .int .i64 s1, .int .i64 s2, .int .i64 s3]] W (.bool B) := fun W => by rw [← o4]; exact specDateOk s0 s1 s2 s3 W
 clear o1 o4
 go_enter Tryz.func155, Tryz.ntmps155
 go_wp2_with fail
 rw [← HW0.out]
 refine latO (K1 _) fun x1 => ?_
 go_wp2_with fail
 refine lat (D1 _) fun x2 => ?_
 cases b1
 · go_wp2_with fail
   refine lat (K4 _) fun x3 => ?_
   go_wp2_with fail
   refine lat (D4 _) fun x4 => ?_
   go_wp2
   go_ret
   exact ⟨rfl, HBl.out x4⟩
 · have HT := hideP (h14 rfl)
   clear h14
   go_wp2
   go_ret
   exact ⟨ret_bool HT.out.symm, HBl.out x2⟩
def monO : Obj := .cells #[.string ⟨#[106, 97, 110]⟩, .string ⟨#[102, 101, 98]⟩, .string ⟨#[109, 97, 114]⟩, .string ⟨#[97, 112, 114]⟩, .string ⟨#[109, 97, 121]⟩, .string ⟨#[106, 117, 110]⟩, .string ⟨#[106, 117, 108]⟩, .string ⟨#[97, 117, 103]⟩, .string ⟨#[115, 101, 112]⟩, .string ⟨#[111, 99, 116]⟩, .string ⟨#[110, 111, 118]⟩, .string ⟨#[100, 101, 99]⟩] 9
theorem specMonth (m : Int) (w : World) (h1 : 1 ≤ m) (h2 : m ≤ 12) : Calls Tryz.prog 151 #[.int .i64 m] w fun e w' => e = .returned (.string (monthText m)) ∧ w' = w.alloc monO := by
 rcases mon_cases h1 h2 with rfl | rfl | rfl | rfl | rfl | rfl | rfl | rfl | rfl | rfl | rfl | rfl
 all_goals
  go_enter Tryz.func151, Tryz.ntmps151
  go_wp2
  go_ret
  exact ⟨rfl, rfl⟩
theorem month_size {m : Int} (h1 : 1 ≤ m) (h2 : m ≤ 12) : (monthText m).size = 3 := by
 rcases mon_cases h1 h2 with rfl | rfl | rfl | rfl | rfl | rfl | rfl | rfl | rfl | rfl | rfl | rfl <;> rfl
theorem text_parts {r : Rom} (h : romB r = true) : romanText r = ⟨(twiceL r.twice ++ (countL r.count ++ (markL r.mark ++ (32 :: (monthText r.month).data.toList)))).toArray⟩ := by
 rw [text_yes h]
 unfold romL
 simp
end Go.Proofs.YtpclaceefapppaaGreatDoor.ctr
