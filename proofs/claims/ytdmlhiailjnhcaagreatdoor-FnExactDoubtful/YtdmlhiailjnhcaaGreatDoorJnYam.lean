/- Plain laws of Easter, of no program: golden numbers, epacts, full moons, the closed forms; over the years 1 to 3000 of both calendars the closed form is the Sunday behind the full moon, from 22 March to 25 April. Contracts of the model's functions of Easter: each answers its plain function. Contracts of the program's calendars' own rules of Easter: yearOk, epact, fullMoon, closedSum of julian and gregorian. Contracts of the program's easterDate, lineEaster, Easter: each answers its plain function, where the table of months holds its numbers. Feasts: the plain functions of their days and of those that a day is. Contracts of both FeastOk: each answers its plain function at every feast. Contracts of both FeastDay: each answers its plain function at every calendar, year and feast. Contracts of the laws' own helpers over lists of texts (eqStringS, markText, markStringS, heldStringS): two lists alike are told alike; marks are written into a list's own row, and found there again; nothing else turns. -/
import Derived.Test.YtdmlhiailjnhcaaGreatDoorJnYad
import Derived.Test.YtdmlhiailjnhcaaGreatDoorJnYag
import Derived.Test.YtdmlhiailjnhcaaGreatDoorJnYaa
import Derived.Test.YtdmlhiailjnhcaaGreatDoorJnYaf
import Derived.Handy
import Derived.BigQuiet
import Derived.Deep.QuietTactic
import Derived.Deep.RegionWith
import Derived.Lib.ItoaNum
import Derived.Laws.IdiomStrings
import Derived.Laws.AppendOwn
namespace Go.Proofs.YtdmlhiailjnhcaaGreatDoor.ctr
open Go.RowKit
def yearP (c y : Int) : Prop := (c = 0 ∨ c = 1) ∧ 1 ≤ y ∧ y ≤ 3000
instance (c y : Int) : Decidable (yearP c y) := by unfold yearP; infer_instance
def yearB (c y : Int) : Bool := decide (yearP c y)
theorem yearB_true {c y : Int} (h : yearP c y) : yearB c y = true := decide_eq_true h
theorem yearB_false {c y : Int} (h : ¬ yearP c y) : yearB c y = false := decide_eq_false h
theorem dateOk_year (c y : Int) : dateOk c y 1 1 = yearB c y := by
 by_cases h : yearP c y
 · rw [yearB_true h, dateOk_true]
   have := monthDays_ge (y := y) h.1 (m := 1) (by omega) (by omega)
   exact ⟨h.1, h.2.1, h.2.2, by omega, by omega⟩
 · rw [yearB_false h, dateOk_false]
   exact fun k => h ⟨k.1, k.2.1, k.2.2.1⟩
theorem yearB_cal {c y : Int} (h : c = 0 ∨ c = 1) : yearB c y = inB y 1 3000 := by
 by_cases hp : yearP c y
 · rw [yearB_true hp, inB_true hp.2.1 hp.2.2]
 · rw [yearB_false hp, inB_false]
   unfold yearP at hp
   omega
theorem yearB_no {c y : Int} (h : ¬ (c = 0 ∨ c = 1)) : yearB c y = false := yearB_false fun k => h k.1
def e0G (g y : Int) : Int := (11 * g + 20 + (8 * (y / 100 + 1) + 5) / 25 - 5 - (3 * (y / 100 + 1) / 4 - 12)) % 30
def adjG (e g : Int) : Int := if e = 24 ∨ (e = 25 ∧ 11 < g) then e + 1 else e
def ep (c g y : Int) : Int := if c = 0 then 11 * (g - 1) % 30 else adjG (e0G g y) g
def moonN (c g e : Int) : Int := if c = 0 then 20 + (19 * (g - 1) + 15) % 30 else if 43 - e < 20 then 43 - e + 30 else 43 - e
def epact (c y : Int) : Int := if yearP c y then ep c (y % 19 + 1) y else 0
def moonOff (c y : Int) : Int := moonN c (y % 19 + 1) (ep c (y % 19 + 1) y)
def march (c y : Int) : Int := first c y + before c y 2
def fullMoon (c y : Int) : Int := if yearP c y then march c y + moonOff c y else 0
def dJ (y : Int) : Int := (19 * (y % 19) + 15) % 30
def sumJ (y : Int) : Int := dJ y + (2 * (y % 4) + 4 * (y % 7) - dJ y + 34) % 7 + 114
def gG (y : Int) : Int := (y / 100 - (y / 100 + 8) / 25 + 1) / 3
def hG (y : Int) : Int := (19 * (y % 19) + y / 100 - y / 100 / 4 - gG y + 15) % 30
def lG (y : Int) : Int := (32 + 2 * (y / 100 % 4) + 2 * (y % 100 / 4) - hG y - y % 100 % 4) % 7
def mG (y : Int) : Int := (y % 19 + 11 * hG y + 22 * lG y) / 451
def sumG (y : Int) : Int := hG y + lG y - 7 * mG y + 114
def sumE (c y : Int) : Int := if c = 0 then sumJ y else sumG y
def easter (c y : Int) : Int := if yearP c y then dayOf c y (sumE c y / 31) (sumE c y % 31 + 1) else 0
def all2 (f : Nat → Bool) : Nat → Nat → Bool
  | 0, lo => f lo
  | k + 1, lo => all2 f k lo && all2 f k (lo + 2 ^ k)
theorem all2_at {f : Nat → Bool} : ∀ {k lo n}, all2 f k lo = true → lo ≤ n → n < lo + 2 ^ k → f n = true
  | 0, lo, n, h, h1, h2 => by
   have : n = lo := by simp at h2; omega
   subst this; exact h
  | k + 1, lo, n, h, h1, h2 => by
   simp only [all2, Bool.and_eq_true] at h
   by_cases hn : n < lo + 2 ^ k
   · exact all2_at h.1 h1 hn
   · exact all2_at h.2 (by omega) (by rw [Nat.pow_succ] at h2; omega)
def dN (y : Nat) : Nat := (19 * (y % 19) + 15) % 30
def sN (y : Nat) : Nat := dN y + (2 * (y % 4) + 4 * (y % 7) + 34 - dN y) % 7
def chkJ (y : Nat) : Bool :=
 Nat.ble (20 + dN y + 1) (sN y + 21) && Nat.ble (sN y + 21) (20 + dN y + 7) && Nat.beq ((365 * (y - 1) + (y - 1) / 4 + 58 + (if y % 4 = 0 then 1 else 0) + (sN y + 21)) % 7) 0 && Nat.ble (sN y) 34
def hN (y : Nat) : Nat := (19 * (y % 19) + y / 100 - y / 100 / 4 - (y / 100 + 1 - (y / 100 + 8) / 25) / 3 + 15) % 30
def lN (y : Nat) : Nat := (32 + 2 * (y / 100 % 4) + 2 * (y % 100 / 4) - hN y - y % 100 % 4) % 7
def mN (y : Nat) : Nat := (y % 19 + 11 * hN y + 22 * lN y) / 451
def tN (y : Nat) : Nat := hN y + lN y - 7 * mN y
def e0N (y : Nat) : Nat := (11 * (y % 19 + 1) + 20 + (8 * (y / 100 + 1) + 5) / 25 + 37 - 3 * (y / 100 + 1) / 4) % 30
def eN (y : Nat) : Nat := if e0N y = 24 ∨ (e0N y = 25 ∧ 11 < y % 19 + 1) then e0N y + 1 else e0N y
def mooN (y : Nat) : Nat := if 23 < eN y then 73 - eN y else 43 - eN y
def chkG (y : Nat) : Bool :=
 Nat.ble (7 * mN y) (hN y + lN y) && Nat.ble (mooN y + 1) (tN y + 21) && Nat.ble (tN y + 21) (mooN y + 7) && Nat.beq ((365 * (y - 1) + (y - 1) / 4 - (y - 1) / 100 + (y - 1) / 400 + 60 + (if (y % 4 = 0 ∧ ¬ y % 100 = 0) ∨ y % 400 = 0 then 1 else 0) + (tN y + 21)) % 7) 0 && Nat.ble (tN y) 34
theorem allJ : all2 chkJ 12 1 = true := by decide +kernel
theorem allG : all2 chkG 12 1 = true := by decide +kernel
theorem before_2 {c y : Int} (hc : c = 0 ∨ c = 1) : before c y 2 = 59 + (if leapP c y then 1 else 0) := by
 have m1 := monthDays_plain (y := y) hc (m := 1) (by omega) (by omega) (by omega)
 by_cases hl : leapP c y
 · have m2 := monthDays_leap hc hl
   simp [before, m1, m2, hl, tab12]
 · have m2 := monthDays_plain (y := y) hc (m := 2) (by omega) (by omega) (fun h => hl h.2)
   simp [before, m1, m2, hl, tab12]
theorem before_3 {c y : Int} (hc : c = 0 ∨ c = 1) : before c y 3 = before c y 2 + 31 := by
 have m3 := monthDays_plain (y := y) hc (m := 3) (by omega) (by omega) (by omega)
 show before c y 2 + monthDays c y (2 + 1 : Nat) = _
 rw [show ((2 + 1 : Nat) : Int) = 3 from rfl, m3]
 rfl
theorem dN_cast (n : Nat) : (dN n : Int) = dJ n := by unfold dN dJ; omega
theorem dJ_b (y : Int) : 0 ≤ dJ y ∧ dJ y ≤ 29 := by unfold dJ; omega
theorem sN_cast (n : Nat) : (sN n : Int) = sumJ n - 114 := by
 unfold sN sumJ
 have h := dN_cast n
 have b := dJ_b n
 generalize dJ n = d at *
 generalize dN n = d' at *
 omega
theorem hG_b (y : Int) : 0 ≤ hG y ∧ hG y ≤ 29 := by unfold hG; omega
theorem gN_cast (b : Nat) : ((b + 1 - (b + 8) / 25 : Nat) : Int) = (b : Int) - ((b : Int) + 8) / 25 + 1 := by omega
theorem hN_cast (n : Nat) : (hN n : Int) = hG n := by
 unfold hN hG gG
 have e1 : (n : Int) / 100 = ((n / 100 : Nat) : Int) := by omega
 have e2 : (n : Int) % 19 = ((n % 19 : Nat) : Int) := by omega
 rw [e1, e2, ← gN_cast]
 generalize n % 19 = a
 have hg : n / 100 + 1 - (n / 100 + 8) / 25 ≤ n / 100 + 1 := Nat.sub_le _ _
 generalize n / 100 = b at *
 generalize b + 1 - (b + 8) / 25 = x at *
 have e3 : (b : Int) / 4 = ((b / 4 : Nat) : Int) := by omega
 have e4 : (x : Int) / 3 = ((x / 3 : Nat) : Int) := by omega
 rw [e3, e4]
 have h3 : b / 4 + x / 3 ≤ b + 1 := by omega
 generalize b / 4 = p at *
 generalize x / 3 = q at *
 by_cases hz : 19 * a + b < p + q
 · omega
 · omega
theorem lN_cast (n : Nat) : (lN n : Int) = lG n := by
 unfold lN lG
 have h := hN_cast n
 have b := hG_b n
 generalize hG n = d at *
 generalize hN n = d' at *
 have e1 : (n : Int) / 100 % 4 = ((n / 100 % 4 : Nat) : Int) := by omega
 have e2 : (n : Int) % 100 / 4 = ((n % 100 / 4 : Nat) : Int) := by omega
 have e3 : (n : Int) % 100 % 4 = ((n % 100 % 4 : Nat) : Int) := by omega
 rw [e1, e2, e3]
 have h3 : n % 100 % 4 ≤ 3 := by omega
 generalize n / 100 % 4 = x at *
 generalize n % 100 / 4 = y at *
 generalize n % 100 % 4 = z at *
 omega
theorem mN_cast (n : Nat) : (mN n : Int) = mG n := by
 unfold mN mG
 have h := hN_cast n
 have h' := lN_cast n
 generalize hG n = d at *
 generalize hN n = d' at *
 generalize lG n = e at *
 generalize lN n = e' at *
 omega
theorem e0N_cast (n : Nat) (hn : n ≤ 4096) : (e0N n : Int) = e0G ((n : Int) % 19 + 1) n := by
 unfold e0N e0G
 have e1 : (n : Int) / 100 = ((n / 100 : Nat) : Int) := by omega
 have e2 : (n : Int) % 19 = ((n % 19 : Nat) : Int) := by omega
 have hb : n / 100 ≤ 40 := by omega
 rw [e1, e2]
 generalize n % 19 = a
 generalize n / 100 = b at *
 have e3 : (8 * ((b : Int) + 1) + 5) / 25 = (((8 * (b + 1) + 5) / 25 : Nat) : Int) := by omega
 have e4 : 3 * ((b : Int) + 1) / 4 = ((3 * (b + 1) / 4 : Nat) : Int) := by omega
 rw [e3, e4]
 have h4 : 3 * (b + 1) / 4 ≤ 31 := by omega
 generalize (8 * (b + 1) + 5) / 25 = p at *
 generalize 3 * (b + 1) / 4 = q at *
 omega
theorem eN_cast (n : Nat) (hn : n ≤ 4096) : (eN n : Int) = ep 1 ((n : Int) % 19 + 1) n := by
 unfold eN ep adjG
 have h := e0N_cast n hn
 rw [if_neg (show ¬ (1 : Int) = 0 by omega)]
 generalize e0G ((n : Int) % 19 + 1) n = a at *
 generalize e0N n = b at *
 split <;> split <;> omega
theorem mooN_cast (n : Nat) (hn : n ≤ 4096) : (mooN n : Int) = moonOff 1 n := by
 unfold mooN moonOff moonN
 have h := eN_cast n hn
 have hb : eN n ≤ 30 := by
  unfold eN
  have : e0N n < 30 := by unfold e0N; omega
  split <;> omega
 rw [if_neg (show ¬ (1 : Int) = 0 by omega)]
 generalize ep 1 ((n : Int) % 19 + 1) n = a at *
 generalize eN n = b at *
 split <;> split <;> omega
theorem moonOff_jul (y : Int) : moonOff 0 y = 20 + dJ y := by
 unfold moonOff moonN dJ
 rw [if_pos rfl]
 omega
theorem easter_fact_at {c y : Int} (hc : c = 0 ∨ c = 1) (h1 : 1 ≤ y) (h2 : y ≤ 4000) : 114 ≤ sumE c y ∧ sumE c y ≤ 148 ∧ moonOff c y + 1 ≤ sumE c y - 93 ∧ sumE c y - 93 ≤ moonOff c y + 7 ∧ (march c y + (sumE c y - 93)) % 7 = 0 := by
 obtain ⟨n, rfl⟩ := Int.eq_ofNat_of_zero_le (show 0 ≤ y by omega)
 have hb := before_2 (y := (n : Int)) hc
 unfold march
 rw [hb]
 rcases hc with rfl | rfl
 · have k := all2_at allJ (n := n) (by omega) (by have : (2 : Nat) ^ 12 = 4096 := rfl; omega)
   simp only [chkJ, Bool.and_eq_true, Nat.ble_eq] at k
   obtain ⟨⟨⟨k1, k2⟩, k3⟩, k4⟩ := k
   have k3 := Nat.eq_of_beq_eq_true k3
   have e1 := sN_cast n
   have e2 := dN_cast n
   have e6 : ((n : Int) - 1) / 4 = (((n - 1) / 4 : Nat) : Int) := by omega
   rw [moonOff_jul, first_jul, e6]
   generalize (n - 1) / 4 = q4 at *
   have e3 : sumE 0 n = sumJ n := by unfold sumE; rw [if_pos rfl]
   rw [e3]
   clear hb e3
   generalize sumJ n = s at *
   generalize dJ n = d at *
   generalize sN n = s' at *
   generalize dN n = d' at *
   by_cases hl : leapP 0 n
   · rw [if_pos hl]
     rw [leap_jul] at hl
     rw [if_pos (by omega)] at k3
     omega
   · rw [if_neg hl]
     rw [leap_jul] at hl
     rw [if_neg (by omega)] at k3
     omega
 · have k := all2_at allG (n := n) (by omega) (by have : (2 : Nat) ^ 12 = 4096 := rfl; omega)
   simp only [chkG, Bool.and_eq_true, Nat.ble_eq] at k
   obtain ⟨⟨⟨⟨k0, k1⟩, k2⟩, k3⟩, k4⟩ := k
   have k3 := Nat.eq_of_beq_eq_true k3
   have e1 := hN_cast n
   have e2 := lN_cast n
   have e4 := mN_cast n
   have e5 := mooN_cast n (by omega)
   have e6 : ((n : Int) - 1) / 4 = (((n - 1) / 4 : Nat) : Int) := by omega
   have e7 : ((n : Int) - 1) / 100 = (((n - 1) / 100 : Nat) : Int) := by omega
   have e8 : ((n : Int) - 1) / 400 = (((n - 1) / 400 : Nat) : Int) := by omega
   have e9 : (n - 1) / 100 ≤ (n - 1) / 4 := by omega
   rw [first_gre, e6, e7, e8]
   clear e6 e7 e8
   generalize (n - 1) / 4 = q4 at *
   generalize (n - 1) / 100 = q100 at *
   generalize (n - 1) / 400 = q400 at *
   have e3 : sumE 1 n = sumG n := by unfold sumE; rw [if_neg (by omega)]
   rw [e3]
   unfold sumG
   unfold tN at k1 k2 k3 k4
   clear hb e3
   generalize hG n = s at *
   generalize lG n = d at *
   generalize mG n = m at *
   generalize hN n = s' at *
   generalize lN n = d' at *
   generalize mN n = m' at *
   generalize moonOff 1 n = o at *
   generalize mooN n = o' at *
   by_cases hl : leapP 1 n
   · rw [if_pos hl]
     rw [leap_gre] at hl
     rw [if_pos (by omega)] at k3
     omega
   · rw [if_neg hl]
     rw [leap_gre] at hl
     rw [if_neg (by omega)] at k3
     omega
theorem easter_fact {c y : Int} (h : yearP c y) : 114 ≤ sumE c y ∧ sumE c y ≤ 148 ∧ moonOff c y + 1 ≤ sumE c y - 93 ∧ sumE c y - 93 ≤ moonOff c y + 7 ∧ (march c y + (sumE c y - 93)) % 7 = 0 :=
 easter_fact_at h.1 h.2.1 (by have := h.2.2; omega)
def easL (c y : Int) : Int := first c y + before c y (sumE c y / 31 - 1).toNat + (sumE c y % 31 + 1) - 1
theorem sum_month {c y : Int} (h : yearP c y) : dateP c y (sumE c y / 31) (sumE c y % 31 + 1) := by
 have k := easter_fact h
 have h3 := monthDays_plain (y := y) h.1 (m := 3) (by omega) (by omega) (by omega)
 have h4 := monthDays_plain (y := y) h.1 (m := 4) (by omega) (by omega) (by omega)
 have h3' : monthDays c y 3 = 31 := h3
 have h4' : monthDays c y 4 = 30 := h4
 refine ⟨h.1, h.2.1, h.2.2, by omega, ?_⟩
 by_cases hm : sumE c y / 31 = 3
 · rw [hm, h3']; omega
 · rw [show sumE c y / 31 = 4 by omega, h4']; omega
theorem easter_eq {c y : Int} (h : yearP c y) : easter c y = march c y + (sumE c y - 93) := by
 have k := easter_fact h
 unfold easter dayOf march
 rw [if_pos h, if_pos (sum_month h)]
 have hb := before_3 (y := y) h.1
 by_cases hm : sumE c y / 31 = 3
 · rw [hm, show ((3 : Int) - 1).toNat = 2 from rfl]
   omega
 · rw [show sumE c y / 31 = 4 by omega, show ((4 : Int) - 1).toNat = 3 from rfl, hb]
   omega
theorem march_b {c y : Int} (h : yearP c y) : 0 < march c y ∧ march c y ≤ 2000000 := by
 have hb := before_2 (y := y) h.1
 unfold march
 rw [hb]
 obtain ⟨hc, h1, h2⟩ := h
 rcases hc with rfl | rfl
 · rw [first_jul]
   split <;> omega
 · rw [first_gre]
   split <;> omega
end Go.Proofs.YtdmlhiailjnhcaaGreatDoor.ctr
namespace Go.Proofs.YtdmlhiailjnhcaaGreatDoor.ctr
open Go.RowKit
theorem specYearOk (c y : Int) (w : World) : Calls Tryz.prog 134 #[.int .i64 c, .int .i64 y] w fun e w' => e = .returned (.bool (yearB c y)) ∧ w' = w := by
 by_cases hc : c = 0 ∨ c = 1
 · have hC : calB c = true := calB_iff.2 hc
   rw [yearB_cal hc]
   clear hc
   cases hI : inB y 1 3000
   all_goals
    go_enter Tryz.func134, Tryz.ntmps134
    go_wp2_with fail
    refine (specCal _ _).mono ?_
    rintro e w1 ⟨rfl, rfl⟩
    rw [hC]
    go_wp2_with fail
    refine (l01In _ _ _ _).mono ?_
    rintro e w1 ⟨rfl, rfl⟩
    rw [hI]
    go_wp2
    go_ret
    exact ⟨rfl, rfl⟩
 · have hC : calB c = false := calB_no hc
   rw [yearB_no hc]
   clear hc
   go_enter Tryz.func134, Tryz.ntmps134
   go_wp2_with fail
   refine (specCal _ _).mono ?_
   rintro e w1 ⟨rfl, rfl⟩
   rw [hC]
   go_wp2
   go_ret
   exact ⟨rfl, rfl⟩
theorem specJulian (y : Int) (w : World) (h1 : 1 ≤ y) (h2 : y ≤ 4000) : Calls Tryz.prog 222 #[.int .i64 y] w fun e w' => e = .returned (.int .i64 (sumJ y)) ∧ w' = w := by
 obtain ⟨R, hR⟩ : ∃ R, R = sumJ y := ⟨_, rfl⟩
 rw [← hR]
 have HR := hideP hR
 clear hR
 have hd := dJ_b y
 unfold sumJ at HR
 go_enter Tryz.func222, Tryz.ntmps222
 go_wp2
 go_ret
 exact ⟨ret_int (by rw [HR.out]; unfold dJ; omega), rfl⟩
theorem specGregorian (y : Int) (w : World) (h1 : 1 ≤ y) (h2 : y ≤ 4000) : Calls Tryz.prog 221 #[.int .i64 y] w fun e w' => e = .returned (.int .i64 (sumG y)) ∧ w' = w := by
 obtain ⟨R, hR⟩ : ∃ R, R = sumG y := ⟨_, rfl⟩
 rw [← hR]
 have HR := hideP hR
 clear hR
 go_enter Tryz.func221, Tryz.ntmps221
 go_wp2
 go_ret
 exact ⟨ret_int (by rw [HR.out]; unfold sumG mG lG hG gG; rw [show y % 100 % 4 = y % 4 by omega]), rfl⟩
theorem easter_day {c y : Int} (h : yearP c y) : easter c y = first c y + before c y (sumE c y / 31 - 1).toNat + (sumE c y % 31 + 1) - 1 := by
 unfold easter dayOf
 rw [if_pos h, if_pos (sum_month h)]
set_option maxHeartbeats 1000000 in
theorem specL03 (c y : Int) (w : World) (hc : c = 0 ∨ c = 1) (hy1 : 1 ≤ y) (hy2 : y ≤ 4000) : CR 173 #[.int .i64 c, .int .i64 y] w (.int .i64 (easL c y)) := by
 have k := easter_fact_at hc hy1 hy2
 have KJ : ∀ W, Calls Tryz.prog 222 #[.int .i64 y] W fun e w' => e = .returned (.int .i64 (sumJ y)) ∧ w' = W := fun W => specJulian y W hy1 hy2
 have KG : ∀ W, Calls Tryz.prog 221 #[.int .i64 y] W fun e w' => e = .returned (.int .i64 (sumG y)) ∧ w' = W := fun W => specGregorian y W hy1 hy2
 have KD : ∀ W, CR 161 #[.int .i64 c, .int .i64 y, .int .i64 (sumE c y / 31), .int .i64 (sumE c y % 31 + 1)] W (.int .i64 (easL c y)) := fun W => by
  exact specDay c y _ _ W hc (by omega) (by omega) (by omega) (by omega) (by omega)
 have k1 := k.1
 have k2 := k.2.1
 clear k
 generalize easL c y = R at *
 rcases hc with rfl | rfl
 · rw [show sumE 0 y = sumJ y from by unfold sumE; rw [if_pos rfl]] at *
   generalize sumJ y = s at *
   generalize sumG y = s' at *
   go_enter Tryz.func173, Tryz.ntmps173
   go_wp2_with fail
   refine (KG _).mono ?_
   rintro e w1 ⟨rfl, rfl⟩
   go_wp2_with fail
   refine (KJ _).mono ?_
   rintro e w1 ⟨rfl, rfl⟩
   go_wp2_with fail
   refine (KD _).mono ?_
   rintro e w1 ⟨rfl, hb⟩
   go_wp2
   go_ret
   exact ⟨rfl, hb⟩
 · rw [show sumE 1 y = sumG y from by unfold sumE; rw [if_neg (by omega)]] at *
   generalize sumG y = s at *
   go_enter Tryz.func173, Tryz.ntmps173
   go_wp2_with fail
   refine (KG _).mono ?_
   rintro e w1 ⟨rfl, rfl⟩
   go_wp2_with fail
   refine (KD _).mono ?_
   rintro e w1 ⟨rfl, hb⟩
   go_wp2
   go_ret
   exact ⟨rfl, hb⟩
theorem specL03Easter (c y : Int) (w : World) (h : yearP c y) : CR 173 #[.int .i64 c, .int .i64 y] w (.int .i64 (easter c y)) := by
 rw [show easter c y = easL c y from easter_day h]
 exact specL03 c y w h.1 h.2.1 (by have := h.2.2; omega)
theorem specEaster (c y : Int) (w : World) : CR 160 #[.int .i64 c, .int .i64 y] w (.int .i64 (easter c y)) := by
 have KY : ∀ W, Calls Tryz.prog 134 #[.int .i64 c, .int .i64 y] W fun e w' => e = .returned (.bool (yearB c y)) ∧ w' = W := specYearOk c y
 by_cases h : yearP c y
 · rw [yearB_true h] at KY
   have KE : ∀ W, CR 173 #[.int .i64 c, .int .i64 y] W (.int .i64 (easter c y)) := fun W => specL03Easter c y W h
   clear h
   generalize easter c y = R at *
   go_enter Tryz.func160, Tryz.ntmps160
   go_wp2_with fail
   refine (KY _).mono ?_
   rintro e w1 ⟨rfl, rfl⟩
   go_wp2_with fail
   refine (KE _).mono ?_
   rintro e w1 ⟨rfl, hb⟩
   go_wp2
   go_ret
   exact ⟨rfl, hb⟩
 · rw [yearB_false h] at KY
   have HR : Hid (easter c y = 0) := by unfold Hid easter; rw [if_neg h]
   clear h
   go_enter Tryz.func160, Tryz.ntmps160
   go_wp2_with fail
   refine (KY _).mono ?_
   rintro e w1 ⟨rfl, rfl⟩
   go_wp2
   go_ret
   exact ⟨ret_int HR.out.symm, Below.refl _ _⟩
end Go.Proofs.YtdmlhiailjnhcaaGreatDoor.ctr
namespace Go.Proofs.YtdmlhiailjnhcaaGreatDoor.ctr
open Go.RowKit
theorem implYearOk (c y : Int) (w : World) (hT : Tab w) : CR 276 #[.int .i64 c, .int .i64 y] w (.bool (yearB c y)) := by
 have K : CR 163 #[.agg #[.int .i64 c, .int .i64 y, .int .i64 1, .int .i64 1]] w (.bool (yearB c y)) := by
  rw [← dateOk_year]
  exact implDateOk c y 1 1 w hT
 clear hT
 generalize yearB c y = b at *
 go_enter Tryz.func276, Tryz.ntmps276
 go_wp2_with fail
 refine K.mono ?_
 rintro e w1 ⟨rfl, hb⟩
 go_wp2
 go_ret
 exact ⟨rfl, hb⟩
theorem julSum (y : Int) (w : World) (h1 : 1 ≤ y) (h2 : y ≤ 4000) : CR 336 #[.agg #[], .int .i64 y] w (.int .i64 (sumJ y)) := by
 obtain ⟨R, hR⟩ : ∃ R, R = sumJ y := ⟨_, rfl⟩
 rw [← hR]
 have HR := hideP hR
 clear hR
 unfold sumJ at HR
 go_enter Tryz.func336, Tryz.ntmps336
 go_wp2
 go_ret
 exact ⟨ret_int (by rw [HR.out]; unfold dJ; omega), (Below.refl _ _).alloc (Nat.le_refl _) _⟩
theorem greSum (y : Int) (w : World) (h1 : 1 ≤ y) (h2 : y ≤ 4000) : CR 338 #[.agg #[], .int .i64 y] w (.int .i64 (sumG y)) := by
 obtain ⟨R, hR⟩ : ∃ R, R = sumG y := ⟨_, rfl⟩
 rw [← hR]
 have HR := hideP hR
 clear hR
 go_enter Tryz.func338, Tryz.ntmps338
 go_wp2
 go_ret
 exact ⟨ret_int (by rw [HR.out]; unfold sumG mG lG hG gG; rw [show y % 100 % 4 = y % 4 by omega]), (Below.refl _ _).alloc (Nat.le_refl _) _⟩
end Go.Proofs.YtdmlhiailjnhcaaGreatDoor.ctr
namespace Go.Proofs.YtdmlhiailjnhcaaGreatDoor.ctr
open Go.RowKit
set_option maxHeartbeats 1000000 in
theorem julDate (y : Int) (w : World) (h1 : 1 ≤ y) (h2 : y ≤ 4000) : CR 280 #[.agg #[], .int .i64 0, .int .i64 y] w (.agg #[.int .i64 0, .int .i64 y, .int .i64 (sumE 0 y / 31), .int .i64 (sumE 0 y % 31 + 1)]) := by
 have k := easter_fact_at (c := 0) (y := y) (by omega) h1 h2
 have KS : ∀ W, CR 336 #[.agg #[], .int .i64 y] W (.int .i64 (sumE 0 y)) := fun W => by
  rw [show sumE 0 y = sumJ y from by unfold sumE; first | rw [if_pos rfl] | rw [if_neg (by omega)]]
  exact julSum y W h1 h2
 have k1 := k.1
 have k2 := k.2.1
 clear k h1 h2
 generalize sumE 0 y = s at *
 obtain ⟨W0, hW0⟩ : ∃ W0, W0 = (w.alloc (.cells #[] 175)).alloc (.cells #[.int .i64 0, .int .i64 0, .int .i64 0, .int .i64 0] 99) := ⟨_, rfl⟩
 have hB0 : ∀ x : Later W0, Blk x.w (w.heap.size + 1) #[.int .i64 0, .int .i64 0, .int .i64 0, .int .i64 0] 99 := fun x => (by rw [hW0]; simpa using Blk.new (w.alloc (.cells #[] 175)) #[.int .i64 0, .int .i64 0, .int .i64 0, .int .i64 0] 99 : Blk W0 (w.heap.size + 1) #[.int .i64 0, .int .i64 0, .int .i64 0, .int .i64 0] 99).later x
 have hBw : Below w.heap.size w W0 := by rw [hW0]; exact ((Below.refl _ _).alloc (Nat.le_refl _) _).alloc (by simp) _
 have HB0 := hideP hB0
 have HBw := hideP hBw
 have HW0 := hideP hW0
 clear hB0 hBw hW0
 go_enter Tryz.func280, Tryz.ntmps280
 go_wp2_with fail
 rw [← HW0.out]
 refine latO (KS _) fun x1 => ?_
 have b0 : x1.w.cell? ⟨w.heap.size + 1, 0, none⟩ = some (.int .i64 0) := (HB0.out x1).cell 0 rfl
 have b1 : x1.w.cell? ⟨w.heap.size + 1, 1, none⟩ = some (.int .i64 0) := (HB0.out x1).cell 1 rfl
 have b2 : x1.w.cell? ⟨w.heap.size + 1, 2, none⟩ = some (.int .i64 0) := (HB0.out x1).cell 2 rfl
 have b3 : x1.w.cell? ⟨w.heap.size + 1, 3, none⟩ = some (.int .i64 0) := (HB0.out x1).cell 3 rfl
 have f0 := (HB0.out x1).thaw 0
 have f1 := (HB0.out x1).thaw 1
 have f2 := (HB0.out x1).thaw 2
 have f3 := (HB0.out x1).thaw 3
 go_wp2_with fail
 obtain ⟨W9, e9⟩ : ∃ W9, W9 = (((x1.w.setCell ⟨w.heap.size + 1, 0, none⟩ (.int .i64 0)).setCell ⟨w.heap.size + 1, 1, none⟩ (.int .i64 y)).setCell ⟨w.heap.size + 1, 2, none⟩ (.int .i64 (s / 31))).setCell ⟨w.heap.size + 1, 3, none⟩ (.int .i64 (s % 31 + 1)) := ⟨_, rfl⟩
 have Z9 : Blk W9 (w.heap.size + 1) #[.int .i64 0, .int .i64 y, .int .i64 (s / 31), .int .i64 (s % 31 + 1)] 99 := by rw [e9]; exact ((((HB0.out x1).set 0 _).set 1 _).set 2 _).set 3 _
 have B9 : Below w.heap.size w W9 := by rw [e9]; exact below_store (below_store (below_store (below_store (HBw.out.trans (x1.below.mono HBw.out.size)) _ (by omega)) _ (by omega)) _ (by omega)) _ (by omega)
 rw [← e9]
 clear e9
 have z0 : W9.cell? ⟨w.heap.size + 1, 0, none⟩ = some (.int .i64 0) := Z9.cell 0 rfl
 have z1 : W9.cell? ⟨w.heap.size + 1, 1, none⟩ = some (.int .i64 y) := Z9.cell 1 rfl
 have z2 : W9.cell? ⟨w.heap.size + 1, 2, none⟩ = some (.int .i64 (s / 31)) := Z9.cell 2 rfl
 have z3 : W9.cell? ⟨w.heap.size + 1, 3, none⟩ = some (.int .i64 (s % 31 + 1)) := Z9.cell 3 rfl
 exact bodyPost_ret (by simp [results, Tryz.results280, go_sem, z0, z1, z2, z3]; try rfl) rfl ⟨rfl, B9⟩
set_option maxHeartbeats 1000000 in
theorem greDate (y : Int) (w : World) (h1 : 1 ≤ y) (h2 : y ≤ 4000) : CR 281 #[.agg #[], .int .i64 1, .int .i64 y] w (.agg #[.int .i64 1, .int .i64 y, .int .i64 (sumE 1 y / 31), .int .i64 (sumE 1 y % 31 + 1)]) := by
 have k := easter_fact_at (c := 1) (y := y) (by omega) h1 h2
 have KS : ∀ W, CR 338 #[.agg #[], .int .i64 y] W (.int .i64 (sumE 1 y)) := fun W => by
  rw [show sumE 1 y = sumG y from by unfold sumE; first | rw [if_pos rfl] | rw [if_neg (by omega)]]
  exact greSum y W h1 h2
 have k1 := k.1
 have k2 := k.2.1
 clear k h1 h2
 generalize sumE 1 y = s at *
 obtain ⟨W0, hW0⟩ : ∃ W0, W0 = (w.alloc (.cells #[] 176)).alloc (.cells #[.int .i64 0, .int .i64 0, .int .i64 0, .int .i64 0] 99) := ⟨_, rfl⟩
 have hB0 : ∀ x : Later W0, Blk x.w (w.heap.size + 1) #[.int .i64 0, .int .i64 0, .int .i64 0, .int .i64 0] 99 := fun x => (by rw [hW0]; simpa using Blk.new (w.alloc (.cells #[] 176)) #[.int .i64 0, .int .i64 0, .int .i64 0, .int .i64 0] 99 : Blk W0 (w.heap.size + 1) #[.int .i64 0, .int .i64 0, .int .i64 0, .int .i64 0] 99).later x
 have hBw : Below w.heap.size w W0 := by rw [hW0]; exact ((Below.refl _ _).alloc (Nat.le_refl _) _).alloc (by simp) _
 have HB0 := hideP hB0
 have HBw := hideP hBw
 have HW0 := hideP hW0
 clear hB0 hBw hW0
 go_enter Tryz.func281, Tryz.ntmps281
 go_wp2_with fail
 rw [← HW0.out]
 refine latO (KS _) fun x1 => ?_
 have b0 : x1.w.cell? ⟨w.heap.size + 1, 0, none⟩ = some (.int .i64 0) := (HB0.out x1).cell 0 rfl
 have b1 : x1.w.cell? ⟨w.heap.size + 1, 1, none⟩ = some (.int .i64 0) := (HB0.out x1).cell 1 rfl
 have b2 : x1.w.cell? ⟨w.heap.size + 1, 2, none⟩ = some (.int .i64 0) := (HB0.out x1).cell 2 rfl
 have b3 : x1.w.cell? ⟨w.heap.size + 1, 3, none⟩ = some (.int .i64 0) := (HB0.out x1).cell 3 rfl
 have f0 := (HB0.out x1).thaw 0
 have f1 := (HB0.out x1).thaw 1
 have f2 := (HB0.out x1).thaw 2
 have f3 := (HB0.out x1).thaw 3
 go_wp2_with fail
 obtain ⟨W9, e9⟩ : ∃ W9, W9 = (((x1.w.setCell ⟨w.heap.size + 1, 0, none⟩ (.int .i64 1)).setCell ⟨w.heap.size + 1, 1, none⟩ (.int .i64 y)).setCell ⟨w.heap.size + 1, 2, none⟩ (.int .i64 (s / 31))).setCell ⟨w.heap.size + 1, 3, none⟩ (.int .i64 (s % 31 + 1)) := ⟨_, rfl⟩
 have Z9 : Blk W9 (w.heap.size + 1) #[.int .i64 1, .int .i64 y, .int .i64 (s / 31), .int .i64 (s % 31 + 1)] 99 := by rw [e9]; exact ((((HB0.out x1).set 0 _).set 1 _).set 2 _).set 3 _
 have B9 : Below w.heap.size w W9 := by rw [e9]; exact below_store (below_store (below_store (below_store (HBw.out.trans (x1.below.mono HBw.out.size)) _ (by omega)) _ (by omega)) _ (by omega)) _ (by omega)
 rw [← e9]
 clear e9
 have z0 : W9.cell? ⟨w.heap.size + 1, 0, none⟩ = some (.int .i64 1) := Z9.cell 0 rfl
 have z1 : W9.cell? ⟨w.heap.size + 1, 1, none⟩ = some (.int .i64 y) := Z9.cell 1 rfl
 have z2 : W9.cell? ⟨w.heap.size + 1, 2, none⟩ = some (.int .i64 (s / 31)) := Z9.cell 2 rfl
 have z3 : W9.cell? ⟨w.heap.size + 1, 3, none⟩ = some (.int .i64 (s % 31 + 1)) := Z9.cell 3 rfl
 exact bodyPost_ret (by simp [results, Tryz.results281, go_sem, z0, z1, z2, z3]; try rfl) rfl ⟨rfl, B9⟩
set_option maxHeartbeats 1000000 in
theorem implLineEaster (c y : Int) (w : World) (hT : Tab w) (hc : c = 0 ∨ c = 1) (hy1 : 1 ≤ y) (hy2 : y ≤ 4000) : CR 260 #[.int .i64 c, .int .i64 y] w (.int .i64 (easL c y)) := by
 have k := easter_fact_at hc hy1 hy2
 have KD : ∀ x : Later w, CR 216 #[.agg #[.int .i64 c, .int .i64 y, .int .i64 (sumE c y / 31), .int .i64 (sumE c y % 31 + 1)]] x.w (.int .i64 (easL c y)) := fun x =>
  implLine c y (sumE c y / 31) (sumE c y % 31 + 1) x.w (hT.later x.below) hc (by omega) (by omega) (by omega) (by omega) (by omega) (by omega)
 clear hT k
 rcases hc with rfl | rfl
 · have KE : ∀ W, CR 280 #[.agg #[], .int .i64 0, .int .i64 y] W (.agg #[.int .i64 0, .int .i64 y, .int .i64 (sumE 0 y / 31), .int .i64 (sumE 0 y % 31 + 1)]) := fun W => julDate y W hy1 hy2
   generalize sumE 0 y / 31 = m at *
   generalize sumE 0 y % 31 + 1 = d at *
   generalize easL 0 y = R at *
   go_enter Tryz.func260, Tryz.ntmps260
   go_wp2_with fail
   refine latO (KE _) fun x2 => ?_
   go_wp2_with fail
   refine lat (KD x2) fun x3 => ?_
   go_wp2
   go_ret
   exact ⟨rfl, x3.below⟩
 · have KE : ∀ W, CR 281 #[.agg #[], .int .i64 1, .int .i64 y] W (.agg #[.int .i64 1, .int .i64 y, .int .i64 (sumE 1 y / 31), .int .i64 (sumE 1 y % 31 + 1)]) := fun W => greDate y W hy1 hy2
   generalize sumE 1 y / 31 = m at *
   generalize sumE 1 y % 31 + 1 = d at *
   generalize easL 1 y = R at *
   go_enter Tryz.func260, Tryz.ntmps260
   go_wp2_with fail
   refine latO (KE _) fun x2 => ?_
   go_wp2_with fail
   refine lat (KD x2) fun x3 => ?_
   go_wp2
   go_ret
   exact ⟨rfl, x3.below⟩
theorem implEaster (c y : Int) (w : World) (hT : Tab w) : CR 297 #[.int .i64 c, .int .i64 y] w (.int .i64 (easter c y)) := by
 have KT : ∀ x : Later w, Tab x.w := fun x => hT.later x.below
 have KY := implYearOk c y w hT
 by_cases h : yearP c y
 · rw [yearB_true h] at KY
   have KE : ∀ x : Later w, CR 260 #[.int .i64 c, .int .i64 y] x.w (.int .i64 (easter c y)) := fun x => by
    rw [show easter c y = easL c y from easter_day h]
    exact implLineEaster c y x.w (KT x) h.1 h.2.1 (by have := h.2.2; omega)
   clear h hT KT
   generalize easter c y = R at *
   go_enter Tryz.func297, Tryz.ntmps297
   go_wp2_with fail
   refine latO KY fun x1 => ?_
   go_wp2_with fail
   refine lat (KE x1) fun x3 => ?_
   go_wp2
   go_ret
   exact ⟨rfl, x3.below⟩
 · rw [yearB_false h] at KY
   have HR : Hid (easter c y = 0) := by unfold Hid easter; rw [if_neg h]
   clear h hT KT
   go_enter Tryz.func297, Tryz.ntmps297
   go_wp2_with fail
   refine KY.mono ?_
   rintro e w1 ⟨rfl, hb⟩
   go_wp2
   go_ret
   exact ⟨ret_int HR.out.symm, hb⟩
end Go.Proofs.YtdmlhiailjnhcaaGreatDoor.ctr
namespace Go.Proofs.YtdmlhiailjnhcaaGreatDoor.ctr
open Go.RowKit
def feaOk (s : ByteArray) (mv : Bool) (o m d : Int) : Bool := nameOk s && (if mv = true then inB o (-63) 63 && decide (m = 0) && decide (d = 0) else decide (o = 0) && inB d 1 (monthDays 1 1999 m))
def feaDay (c y : Int) (s : ByteArray) (mv : Bool) (o m d : Int) : Int := if feaOk s mv o m d = true ∧ yearP c y then (if mv = true then easter c y + o else dayOf c y m d) else 0
def Fea.ok (f : Fea) : Bool := feaOk f.name f.mv f.off f.m f.d
def Fea.day (f : Fea) (c y : Int) : Int := feaDay c y f.name f.mv f.off f.m f.d
theorem inB_iff {x a b : Int} : inB x a b = true ↔ a ≤ x ∧ x ≤ b := by simp [inB]
theorem days1 (m : Int) : monthDays 1 1999 m = monthDays 1 1 m := by
 by_cases h : 1 ≤ m ∧ m ≤ 12
 · rw [monthDays_plain (.inr rfl) h.1 h.2 (by rw [leap_gre]; omega), monthDays_plain (.inr rfl) h.1 h.2 (by rw [leap_gre]; omega)]
 · rw [monthDays_no (fun k => h k.2), monthDays_no (fun k => h k.2)]
theorem days_le {c : Int} (hc : c = 0 ∨ c = 1) (y m : Int) : monthDays 1 1999 m ≤ monthDays c y m := by
 by_cases h : 1 ≤ m ∧ m ≤ 12
 · rw [monthDays_plain (.inr rfl) h.1 h.2 (by rw [leap_gre]; omega)]
   by_cases hl : m = 2 ∧ leapP c y
   · rw [hl.1, monthDays_leap hc hl.2]
     decide
   · rw [monthDays_plain hc h.1 h.2 hl]
     omega
 · rw [monthDays_no (fun k => h k.2), monthDays_no (fun k => h k.2)]
   omega
theorem fixed_date {c y m d : Int} (hy : yearP c y) (h : inB d 1 (monthDays 1 1999 m) = true) : dateP c y m d := by
 have h1 := inB_iff.1 h
 have := days_le hy.1 y m
 exact ⟨hy.1, hy.2.1, hy.2.2, h1.1, by omega⟩
theorem fixed_day {c y m d : Int} (hy : yearP c y) (h : inB d 1 (monthDays 1 1999 m) = true) : dayOf c y m d = first c y + before c y (m - 1).toNat + d - 1 := by
 unfold dayOf
 rw [if_pos (fixed_date hy h)]
theorem easter_near {c y : Int} (h : yearP c y) : 0 < easter c y ∧ easter c y ≤ 3000000 := by
 have h1 := easter_fact h
 have h2 := march_b h
 rw [easter_eq h]
 omega
theorem feaDay_b (c y : Int) (s : ByteArray) (mv : Bool) (o m d : Int) : -3000 ≤ feaDay c y s mv o m d ∧ feaDay c y s mv o m d ≤ 3001000 := by
 unfold feaDay
 split
 · rename_i h
   cases mv
   · rw [if_neg (by decide)]
     have := dayOf_bound c y m d
     omega
   · rw [if_pos rfl]
     have h1 := easter_near h.2
     have h2 : inB o (-63) 63 = true := by
      have := h.1
      simp [feaOk] at this
      exact this.2.1.1
     have := inB_iff.1 h2
     omega
 · omega
theorem Fea.day_b (f : Fea) (c y : Int) : -3000 ≤ f.day c y ∧ f.day c y ≤ 3001000 := feaDay_b ..
theorem feaDay_no {c y : Int} {s : ByteArray} {mv : Bool} {o m d : Int} (h : feaOk s mv o m d = false) : feaDay c y s mv o m d = 0 := by
 unfold feaDay
 rw [if_neg (by rw [h]; simp)]
theorem feaDay_noYear {c y : Int} {s : ByteArray} {mv : Bool} {o m d : Int} (h : ¬ yearP c y) : feaDay c y s mv o m d = 0 := by
 unfold feaDay
 rw [if_neg (fun k => h k.2)]
theorem feaDay_mv {c y : Int} {s : ByteArray} {o m d : Int} (h : feaOk s true o m d = true) (hy : yearP c y) : feaDay c y s true o m d = easter c y + o := by
 unfold feaDay
 rw [if_pos ⟨h, hy⟩, if_pos rfl]
theorem feaDay_fix {c y : Int} {s : ByteArray} {o m d : Int} (h : feaOk s false o m d = true) (hy : yearP c y) : feaDay c y s false o m d = dayOf c y m d := by
 unfold feaDay
 rw [if_pos ⟨h, hy⟩, if_neg (by decide)]
theorem ok_mv {s : ByteArray} {o m d : Int} (h : feaOk s true o m d = true) : -63 ≤ o ∧ o ≤ 63 := by
 simp [feaOk] at h
 exact inB_iff.1 h.2.1.1
theorem ok_fix {s : ByteArray} {o m d : Int} (h : feaOk s false o m d = true) : inB d 1 (monthDays 1 1999 m) = true := by
 simp [feaOk] at h
 exact h.2.2
theorem take_at (k : Nat) (h : k < 20) : feasts.take (k + 1) = feasts.take k ++ [feaAt k] := by
 rw [List.take_succ_eq_append_getElem (show k < feasts.length from h)]
 unfold feaAt
 rw [List.getD, List.getElem?_eq_getElem (show k < feasts.length from h)]
 rfl
def lastStep (c y n : Int) (mv : Bool) (a : ByteArray × Int) (f : Fea) : ByteArray × Int := if f.mv = mv ∧ f.day c y ≤ n ∧ (a.1.size = 0 ∨ a.2 < f.day c y) then (f.name, f.day c y) else a
def lastTo (c y n : Int) (mv : Bool) (k : Nat) : ByteArray × Int := (feasts.take k).foldl (lastStep c y n mv) (⟨#[]⟩, 0)
theorem lastTo_succ (c y n : Int) (mv : Bool) (k : Nat) (h : k < 20) : lastTo c y n mv (k + 1) = lastStep c y n mv (lastTo c y n mv k) (feaAt k) := by
 unfold lastTo
 rw [take_at k h, List.foldl_append]
 rfl
theorem last_spec (c y n : Int) (mv : Bool) : ∀ k, k ≤ 20 → lastTo c y n mv k = (⟨#[]⟩, 0) ∨ ∃ i, i < k ∧ lastTo c y n mv k = ((feaAt i).name, (feaAt i).day c y) ∧ (feaAt i).mv = mv ∧ (feaAt i).day c y ≤ n
  | 0, _ => .inl rfl
  | k + 1, h => by
   rw [lastTo_succ _ _ _ _ _ (by omega)]
   unfold lastStep
   split
   · rename_i hk
     exact .inr ⟨k, by omega, rfl, hk.1, hk.2.1⟩
   · rcases last_spec c y n mv k (by omega) with e | ⟨i, hi, e, e2⟩
     · exact .inl e
     · exact .inr ⟨i, by omega, e, e2⟩
theorem last_b (c y n : Int) (mv : Bool) (k : Nat) (h : k ≤ 20) : (lastTo c y n mv k).1.size ≤ 16 ∧ -3000 ≤ (lastTo c y n mv k).2 ∧ (lastTo c y n mv k).2 ≤ 3001000 := by
 have hs : ∀ i : Fin 20, (feaAt i.val).name.size ≤ 16 := by decide
 rcases last_spec c y n mv k h with e | ⟨i, hi, e, _⟩
 · rw [e]
   refine ⟨by decide, ?_⟩
   simp
 · rw [e]
   exact ⟨hs ⟨i, by omega⟩, Fea.day_b _ c y⟩
end Go.Proofs.YtdmlhiailjnhcaaGreatDoor.ctr
namespace Go.Proofs.YtdmlhiailjnhcaaGreatDoor.ctr
open Go.RowKit
theorem fea_box (w : World) (s : ByteArray) (mv : Bool) (o m d : Int) (t : TypeId) : ∃ W0, W0 = w.alloc (.cells #[.string s, .bool mv, .int .i64 o, .int .i64 m, .int .i64 d] t) ∧ (∀ x : Later W0, x.w.cell? ⟨w.heap.size, 0, none⟩ = some (.string s)) ∧ (∀ x : Later W0, x.w.cell? ⟨w.heap.size, 1, none⟩ = some (.bool mv)) ∧ (∀ x : Later W0, x.w.cell? ⟨w.heap.size, 2, none⟩ = some (.int .i64 o)) ∧ (∀ x : Later W0, x.w.cell? ⟨w.heap.size, 3, none⟩ = some (.int .i64 m)) ∧ (∀ x : Later W0, x.w.cell? ⟨w.heap.size, 4, none⟩ = some (.int .i64 d)) ∧ ∀ x : Later W0, Below w.heap.size w x.w :=
 ⟨_, rfl, Later.new rfl 0 rfl, Later.new rfl 1 rfl, Later.new rfl 2 rfl, Later.new rfl 3 rfl, Later.new rfl 4 rfl, fun x => below_alloc x.below⟩
theorem later_same {W w' : World} (h : w' = W) : ∃ x : Later W, w' = x.w := ⟨⟨w', by rw [h]; exact Below.refl _ _⟩, rfl⟩
set_option maxHeartbeats 1000000 in
theorem specFeaOk (s : ByteArray) (mv : Bool) (o m d : Int) (w : World) (hs : s.size ≤ maxLen) : CR 159 #[.agg #[.string s, .bool mv, .int .i64 o, .int .i64 m, .int .i64 d]] w (.bool (feaOk s mv o m d)) := by
 have KN : ∀ W, Calls Tryz.prog 102 #[.string s] W fun e w' => e = .returned (.bool (nameOk s)) ∧ w' = W := fun W => specNameOk s W hs
 obtain ⟨W0, hW0, c0, c1, c2, c3, c4, hBl⟩ := fea_box w s mv o m d 107
 have HW0 := hideP hW0
 have HBl := hideP hBl
 clear hs hW0 hBl
 unfold feaOk
 generalize nameOk s = nb at *
 cases nb
 · rw [Bool.false_and]
   go_enter Tryz.func159, Tryz.ntmps159
   go_wp2_with fail
   rw [← HW0.out]
   refine (KN _).mono ?_
   rintro e w1 ⟨rfl, hw⟩
   obtain ⟨x1, rfl⟩ := later_same hw
   clear hw
   go_wp2
   go_ret
   exact ⟨rfl, HBl.out x1⟩
 rw [Bool.true_and]
 cases mv
 · rw [if_neg (by decide)]
   have KM : ∀ W, CR 114 #[.int .i64 1, .int .i64 1999, .int .i64 m] W (.int .i64 (monthDays 1 1999 m)) := specMonthDays 1 1999 m
   have KD : ∀ W, Calls Tryz.prog 45 #[.int .i64 d, .int .i64 1, .int .i64 (monthDays 1 1999 m)] W fun e w' => e = .returned (.bool (inB d 1 (monthDays 1 1999 m))) ∧ w' = W := l01In d 1 (monthDays 1 1999 m)
   generalize inB d 1 (monthDays 1 1999 m) = bd at *
   generalize monthDays 1 1999 m = md at *
   by_cases ho : o = 0
   · subst ho
     rw [decide_eq_true rfl, Bool.true_and]
     go_enter Tryz.func159, Tryz.ntmps159
     go_wp2_with fail
     rw [← HW0.out]
     refine (KN _).mono ?_
     rintro e w1 ⟨rfl, hw⟩
     obtain ⟨x1, rfl⟩ := later_same hw
     clear hw
     go_wp2_with fail
     refine wp_region_later (W := W0) x1.below (by kernel_rfl) (by kernel_rfl) ?_
     repeat (go_big_quiet_step (first | (go_at_call 45; exact calls_same (KD _)) | (go_at_call 114; exact calls_later (KM _))))
     refine wpQuiet_nil ?_
     intro _ hw'
     obtain ⟨x, rfl⟩ := hw'
     go_wp2
     go_ret
     exact ⟨rfl, HBl.out x⟩
   · have ho' : (o == 0) = false := by simp [ho]
     rw [decide_eq_false ho, Bool.false_and]
     clear KM KD
     go_enter Tryz.func159, Tryz.ntmps159
     go_wp2_with fail
     rw [← HW0.out]
     refine (KN _).mono ?_
     rintro e w1 ⟨rfl, hw⟩
     obtain ⟨x1, rfl⟩ := later_same hw
     clear hw
     go_wp2_with fail
     refine wp_region_later (W := W0) x1.below (by kernel_rfl) (by kernel_rfl) ?_
     repeat (go_big_quiet_step (fail))
     refine wpQuiet_nil ?_
     intro _ hw'
     obtain ⟨x, rfl⟩ := hw'
     go_wp2
     go_ret
     exact ⟨rfl, HBl.out x⟩
 · rw [if_pos rfl]
   have KO : ∀ W, Calls Tryz.prog 45 #[.int .i64 o, .int .i64 (-63), .int .i64 63] W fun e w' => e = .returned (.bool (inB o (-63) 63)) ∧ w' = W := l01In o (-63) 63
   generalize inB o (-63) 63 = bo at *
   cases bo
   · rw [Bool.false_and, Bool.false_and]
     go_enter Tryz.func159, Tryz.ntmps159
     go_wp2_with fail
     rw [← HW0.out]
     refine (KN _).mono ?_
     rintro e w1 ⟨rfl, hw⟩
     obtain ⟨x1, rfl⟩ := later_same hw
     clear hw
     go_wp2_with fail
     refine (KO _).mono ?_
     rintro e w1 ⟨rfl, rfl⟩
     go_wp2
     go_ret
     exact ⟨rfl, HBl.out x1⟩
   rw [Bool.true_and]
   by_cases hm : m = 0
   · subst hm
     rw [decide_eq_true rfl, Bool.true_and]
     have hd : decide (d = 0) = (d == 0) := by rw [Bool.eq_iff_iff]; simp
     rw [hd]
     go_enter Tryz.func159, Tryz.ntmps159
     go_wp2_with fail
     rw [← HW0.out]
     refine (KN _).mono ?_
     rintro e w1 ⟨rfl, hw⟩
     obtain ⟨x1, rfl⟩ := later_same hw
     clear hw
     go_wp2_with fail
     refine (KO _).mono ?_
     rintro e w1 ⟨rfl, rfl⟩
     go_wp2
     go_ret
     exact ⟨rfl, HBl.out x1⟩
   · have hm' : (m == 0) = false := by simp [hm]
     rw [decide_eq_false hm, Bool.false_and]
     go_enter Tryz.func159, Tryz.ntmps159
     go_wp2_with fail
     rw [← HW0.out]
     refine (KN _).mono ?_
     rintro e w1 ⟨rfl, hw⟩
     obtain ⟨x1, rfl⟩ := later_same hw
     clear hw
     go_wp2_with fail
     refine (KO _).mono ?_
     rintro e w1 ⟨rfl, rfl⟩
     go_wp2
     go_ret
     exact ⟨rfl, HBl.out x1⟩
theorem implFeaNamed (s : ByteArray) (mv : Bool) (o m d : Int) (w : World) (hs : s.size ≤ maxLen) : CR 310 #[.agg #[.string s, .bool mv, .int .i64 o, .int .i64 m, .int .i64 d]] w (.bool (nameOk s)) := by
 have KN : ∀ W, Calls Tryz.prog 106 #[.string s] W fun e w' => e = .returned (.bool (nameOk s)) ∧ w' = W := fun W => implNameOk s W hs
 clear hs
 go_enter Tryz.func310, Tryz.ntmps310
 go_wp2_with fail
 refine (KN _).mono ?_
 rintro e w1 ⟨rfl, rfl⟩
 go_wp2
 go_ret
 exact ⟨rfl, (Below.refl _ _).alloc (Nat.le_refl _) _⟩
theorem implDateIn (s : ByteArray) (mv : Bool) (o m d c y : Int) (w : World) : CR 298 #[.agg #[.string s, .bool mv, .int .i64 o, .int .i64 m, .int .i64 d], .int .i64 c, .int .i64 y] w (.agg #[.int .i64 c, .int .i64 y, .int .i64 m, .int .i64 d]) := by
 go_enter Tryz.func298, Tryz.ntmps298
 go_wp2
 go_returns
 refine ⟨rfl, ?_⟩
 go_grown
set_option maxHeartbeats 1000000 in
theorem implMovOk (s : ByteArray) (o m d : Int) (w : World) (hs : s.size ≤ maxLen) : CR 295 #[.agg #[.string s, .bool true, .int .i64 o, .int .i64 m, .int .i64 d]] w (.bool (feaOk s true o m d)) := by
 have KN : ∀ W, CR 310 #[.agg #[.string s, .bool true, .int .i64 o, .int .i64 m, .int .i64 d]] W (.bool (nameOk s)) := fun W => implFeaNamed s true o m d W hs
 obtain ⟨W0, hW0, c0, c1, c2, c3, c4, hBl⟩ := fea_box w s true o m d 236
 have HW0 := hideP hW0
 have HBl := hideP hBl
 clear hW0 hBl
 clear hs
 unfold feaOk
 rw [if_pos rfl]
 generalize nameOk s = nb at *
 cases nb
 · rw [Bool.false_and]
   go_enter Tryz.func295, Tryz.ntmps295
   go_wp2_with fail
   rw [← HW0.out]
   refine (KN _).mono ?_
   rintro e w1 ⟨rfl, hb⟩
   obtain ⟨x1, rfl⟩ := Later.of hb
   clear hb
   go_wp2
   go_ret
   exact ⟨rfl, HBl.out x1⟩
 rw [Bool.true_and]
 by_cases hm : m = 0
 case neg =>
  have hm' : (m == 0) = false := by simp [hm]
  have HR : Hid ((inB o (-63) 63 && decide (m = 0) && decide (d = 0)) = false) := by unfold Hid; rw [decide_eq_false hm, Bool.and_false, Bool.false_and]
  rw [HR.out]
  go_enter Tryz.func295, Tryz.ntmps295
  go_wp2_with fail
  rw [← HW0.out]
  refine (KN _).mono ?_
  rintro e w1 ⟨rfl, hb⟩
  obtain ⟨x1, rfl⟩ := Later.of hb
  clear hb
  go_wp2
  go_ret
  exact ⟨rfl, HBl.out x1⟩
 subst hm
 by_cases hd : d = 0
 case neg =>
  have hd' : (d == 0) = false := by simp [hd]
  have HR : Hid ((inB o (-63) 63 && decide ((0 : Int) = 0) && decide (d = 0)) = false) := by unfold Hid; rw [decide_eq_false hd, Bool.and_false]
  rw [HR.out]
  go_enter Tryz.func295, Tryz.ntmps295
  go_wp2_with fail
  rw [← HW0.out]
  refine (KN _).mono ?_
  rintro e w1 ⟨rfl, hb⟩
  obtain ⟨x1, rfl⟩ := Later.of hb
  clear hb
  go_wp2
  go_ret
  exact ⟨rfl, HBl.out x1⟩
 subst hd
 by_cases h1 : -63 ≤ o
 case neg =>
  have HR : Hid ((inB o (-63) 63 && decide ((0 : Int) = 0) && decide ((0 : Int) = 0)) = false) := by unfold Hid; rw [inB_false (.inl (by omega))]; rfl
  rw [HR.out]
  go_enter Tryz.func295, Tryz.ntmps295
  go_wp2_with fail
  rw [← HW0.out]
  refine (KN _).mono ?_
  rintro e w1 ⟨rfl, hb⟩
  obtain ⟨x1, rfl⟩ := Later.of hb
  clear hb
  go_wp2
  go_ret
  exact ⟨rfl, HBl.out x1⟩
 by_cases h2 : o ≤ 63
 case neg =>
  have HR : Hid ((inB o (-63) 63 && decide ((0 : Int) = 0) && decide ((0 : Int) = 0)) = false) := by unfold Hid; rw [inB_false (.inr (by omega))]; rfl
  rw [HR.out]
  go_enter Tryz.func295, Tryz.ntmps295
  go_wp2_with fail
  rw [← HW0.out]
  refine (KN _).mono ?_
  rintro e w1 ⟨rfl, hb⟩
  obtain ⟨x1, rfl⟩ := Later.of hb
  clear hb
  go_wp2
  go_ret
  exact ⟨ret_bool (decide_eq_false (by omega)), HBl.out x1⟩
 have HR : Hid ((inB o (-63) 63 && decide ((0 : Int) = 0) && decide ((0 : Int) = 0)) = true) := by unfold Hid; rw [inB_true h1 h2]; rfl
 rw [HR.out]
 go_enter Tryz.func295, Tryz.ntmps295
 go_wp2_with fail
 rw [← HW0.out]
 refine (KN _).mono ?_
 rintro e w1 ⟨rfl, hb⟩
 obtain ⟨x1, rfl⟩ := Later.of hb
 clear hb
 go_wp2
 go_ret
 exact ⟨rfl, HBl.out x1⟩
theorem fix_date (m d : Int) : dateOk 1 1 m d = inB d 1 (monthDays 1 1999 m) := by
 rw [days1]
 by_cases h : 1 ≤ d ∧ d ≤ monthDays 1 1 m
 · rw [inB_true h.1 h.2, dateOk_true ⟨.inr rfl, by omega, by omega, h.1, h.2⟩]
 · rw [inB_false (by omega), dateOk_false (fun k => h ⟨k.2.2.2.1, k.2.2.2.2⟩)]
set_option maxHeartbeats 1000000 in
theorem implFixOk (s : ByteArray) (o m d : Int) (w : World) (hs : s.size ≤ maxLen) (hT : Tab w) : CR 296 #[.agg #[.string s, .bool false, .int .i64 o, .int .i64 m, .int .i64 d]] w (.bool (feaOk s false o m d)) := by
 have KN : ∀ W, CR 310 #[.agg #[.string s, .bool false, .int .i64 o, .int .i64 m, .int .i64 d]] W (.bool (nameOk s)) := fun W => implFeaNamed s false o m d W hs
 have KI : ∀ W, CR 298 #[.agg #[.string s, .bool false, .int .i64 o, .int .i64 m, .int .i64 d], .int .i64 1, .int .i64 1] W (.agg #[.int .i64 1, .int .i64 1, .int .i64 m, .int .i64 d]) := implDateIn s false o m d 1 1
 obtain ⟨W0, hW0, c0, c1, c2, c3, c4, hBl⟩ := fea_box w s false o m d 107
 have HW0 := hideP hW0
 have HBl := hideP hBl
 clear hW0 hBl
 have KD : ∀ x : Later W0, CR 163 #[.agg #[.int .i64 1, .int .i64 1, .int .i64 m, .int .i64 d]] x.w (.bool (inB d 1 (monthDays 1 1999 m))) := fun x => by
  rw [← fix_date]
  exact implDateOk 1 1 m d x.w (hT.later (HBl.out x))
 clear hs hT
 unfold feaOk
 rw [if_neg (by decide)]
 generalize nameOk s = nb at *
 generalize inB d 1 (monthDays 1 1999 m) = bd at *
 cases nb
 · rw [Bool.false_and]
   go_enter Tryz.func296, Tryz.ntmps296
   go_wp2_with fail
   rw [← HW0.out]
   refine (KN _).mono ?_
   rintro e w1 ⟨rfl, hb⟩
   obtain ⟨x1, rfl⟩ := Later.of hb
   clear hb
   go_wp2
   go_ret
   exact ⟨rfl, HBl.out x1⟩
 rw [Bool.true_and]
 by_cases ho : o = 0
 · subst ho
   rw [decide_eq_true rfl, Bool.true_and]
   go_enter Tryz.func296, Tryz.ntmps296
   go_wp2_with fail
   rw [← HW0.out]
   refine (KN _).mono ?_
   rintro e w1 ⟨rfl, hb⟩
   obtain ⟨x1, rfl⟩ := Later.of hb
   clear hb
   go_wp2_with fail
   refine (KI _).mono ?_
   rintro e w2 ⟨rfl, hb⟩
   obtain ⟨x2, rfl⟩ := x1.next hb
   clear hb
   go_wp2_with fail
   refine (KD _).mono ?_
   rintro e w3 ⟨rfl, hb⟩
   obtain ⟨x3, rfl⟩ := x2.next hb
   clear hb
   go_wp2
   go_ret
   exact ⟨rfl, HBl.out x3⟩
 · have ho' : (o == 0) = false := by simp [ho]
   rw [decide_eq_false ho, Bool.false_and]
   go_enter Tryz.func296, Tryz.ntmps296
   go_wp2_with fail
   rw [← HW0.out]
   refine (KN _).mono ?_
   rintro e w1 ⟨rfl, hb⟩
   obtain ⟨x1, rfl⟩ := Later.of hb
   clear hb
   go_wp2
   go_ret
   exact ⟨rfl, HBl.out x1⟩
set_option maxHeartbeats 1000000 in
theorem implFeaOk (s : ByteArray) (mv : Bool) (o m d : Int) (w : World) (hs : s.size ≤ maxLen) (hT : Tab w) : CR 275 #[.agg #[.string s, .bool mv, .int .i64 o, .int .i64 m, .int .i64 d]] w (.bool (feaOk s mv o m d)) := by
 obtain ⟨W0, hW0, c0, c1, c2, c3, c4, hBl⟩ := fea_box w s mv o m d 107
 have HW0 := hideP hW0
 have HBl := hideP hBl
 clear hW0 hBl
 have KT : ∀ x : Later W0, Tab x.w := fun x => hT.later (HBl.out x)
 obtain ⟨x0, hx0⟩ := Later.of (Below.refl W0.heap.size W0)
 cases mv
 · have K := implFixOk s o m d x0.w hs (KT x0)
   clear hs hT KT
   generalize feaOk s false o m d = r at *
   go_enter Tryz.func275, Tryz.ntmps275
   go_wp2_with fail
   rw [← HW0.out]
   refine (show Calls _ _ _ W0 _ from by rw [hx0]; exact K).mono ?_
   rintro e w1 ⟨rfl, hb⟩
   obtain ⟨x1, rfl⟩ := x0.next hb
   clear hb
   go_wp2
   go_ret
   exact ⟨rfl, HBl.out x1⟩
 · have K := implMovOk s o m d x0.w hs
   clear hs hT KT
   generalize feaOk s true o m d = r at *
   go_enter Tryz.func275, Tryz.ntmps275
   go_wp2_with fail
   rw [← HW0.out]
   refine (show Calls _ _ _ W0 _ from by rw [hx0]; exact K).mono ?_
   rintro e w1 ⟨rfl, hb⟩
   obtain ⟨x1, rfl⟩ := x0.next hb
   clear hb
   go_wp2
   go_ret
   exact ⟨rfl, HBl.out x1⟩
end Go.Proofs.YtdmlhiailjnhcaaGreatDoor.ctr
namespace Go.Proofs.YtdmlhiailjnhcaaGreatDoor.ctr
open Go.RowKit
set_option maxHeartbeats 1000000 in
theorem specFeaDay (c y : Int) (s : ByteArray) (mv : Bool) (o m d : Int) (w : World) (hs : s.size ≤ maxLen) : CR 122 #[.int .i64 c, .int .i64 y, .agg #[.string s, .bool mv, .int .i64 o, .int .i64 m, .int .i64 d]] w (.int .i64 (feaDay c y s mv o m d)) := by
 have KO : ∀ W, CR 159 #[.agg #[.string s, .bool mv, .int .i64 o, .int .i64 m, .int .i64 d]] W (.bool (feaOk s mv o m d)) := fun W => specFeaOk s mv o m d W hs
 have KY : ∀ W, Calls Tryz.prog 134 #[.int .i64 c, .int .i64 y] W fun e w' => e = .returned (.bool (yearB c y)) ∧ w' = W := specYearOk c y
 obtain ⟨W0, hW0, c0, c1, c2, c3, c4, hBl⟩ := fea_box w s mv o m d 107
 have HW0 := hideP hW0
 have HBl := hideP hBl
 clear hs hW0 hBl
 cases hok : feaOk s mv o m d
 · have HR := hideP (feaDay_no (c := c) (y := y) hok)
   rw [hok] at KO
   clear hok
   go_enter Tryz.func122, Tryz.ntmps122
   go_wp2_with fail
   rw [← HW0.out]
   refine latO (KO _) fun x1 => ?_
   go_wp2
   go_ret
   exact ⟨ret_int HR.out.symm, HBl.out x1⟩
 by_cases hy : yearP c y
 case neg =>
  have HR := hideP (feaDay_noYear (s := s) (mv := mv) (o := o) (m := m) (d := d) hy)
  rw [hok] at KO
  simp only [yearB_false hy] at KY
  clear hok
  go_enter Tryz.func122, Tryz.ntmps122
  go_wp2_with fail
  rw [← HW0.out]
  refine latO (KO _) fun x1 => ?_
  go_wp2_with fail
  refine (KY _).mono ?_
  rintro e w2 ⟨rfl, rfl⟩
  go_wp2
  go_ret
  exact ⟨ret_int HR.out.symm, HBl.out x1⟩
 simp only [yearB_true hy] at KY
 cases mv
 · have HR : Hid (feaDay c y s false o m d = first c y + before c y (m - 1).toNat + d - 1) := (feaDay_fix hok hy).trans (fixed_day hy (ok_fix hok))
   have hdt := fixed_date hy (ok_fix hok)
   have hm := dateP_month hdt
   have hd := dateP_day hdt
   have KD : ∀ W, CR 161 #[.int .i64 c, .int .i64 y, .int .i64 m, .int .i64 d] W (.int .i64 (first c y + before c y (m - 1).toNat + d - 1)) := fun W => specDay c y m d W hy.1 (by have := hy.2.1; omega) (by have := hy.2.2; omega) (by omega) (by omega) (by omega)
   rw [hok] at KO
   rw [HR.out]
   clear hok hdt hm hd hy HR
   generalize first c y + before c y (m - 1).toNat + d - 1 = R at *
   go_enter Tryz.func122, Tryz.ntmps122
   go_wp2_with fail
   rw [← HW0.out]
   refine latO (KO _) fun x1 => ?_
   go_wp2_with fail
   refine (KY _).mono ?_
   rintro e w2 ⟨rfl, rfl⟩
   go_wp2_with fail
   refine lat (KD _) fun x2 => ?_
   go_wp2
   go_ret
   exact ⟨rfl, HBl.out x2⟩
 · have HR : Hid (feaDay c y s true o m d = easter c y + o) := feaDay_mv hok hy
   have hb1 := easter_near hy
   have hb2 := ok_mv hok
   have KE : ∀ W, CR 160 #[.int .i64 c, .int .i64 y] W (.int .i64 (easter c y)) := specEaster c y
   rw [hok] at KO
   rw [HR.out]
   clear hok hy HR
   generalize easter c y = E at *
   go_enter Tryz.func122, Tryz.ntmps122
   go_wp2_with fail
   rw [← HW0.out]
   refine latO (KO _) fun x1 => ?_
   go_wp2_with fail
   refine (KY _).mono ?_
   rintro e w2 ⟨rfl, rfl⟩
   go_wp2_with fail
   refine wp_region_later (W := W0) x1.below (by kernel_rfl) (by kernel_rfl) ?_
   repeat (go_big_quiet_step (first | (go_at_call 160; exact calls_later (KE _))))
   refine wpQuiet_nil ?_
   intro _ hw'
   obtain ⟨x, rfl⟩ := hw'
   go_wp2
   go_ret
   exact ⟨ret_int (by first | rfl | (unfold wrap64; omega)), HBl.out x⟩
set_option maxHeartbeats 1000000 in
theorem implMovDay (c y : Int) (s : ByteArray) (o m d : Int) (w : World) (hT : Tab w) (hy : yearP c y) (h1 : -63 ≤ o) (h2 : o ≤ 63) : CR 277 #[.agg #[.string s, .bool true, .int .i64 o, .int .i64 m, .int .i64 d], .int .i64 c, .int .i64 y] w (.int .i64 (easter c y + o)) := by
 obtain ⟨W0, hW0, c0, c1, c2, c3, c4, hBl⟩ := fea_box w s true o m d 236
 have HW0 := hideP hW0
 have HBl := hideP hBl
 have KE : ∀ x : Later W0, CR 297 #[.int .i64 c, .int .i64 y] x.w (.int .i64 (easter c y)) := fun x => implEaster c y x.w (hT.later (HBl.out x))
 have hb1 := easter_near hy
 clear hW0 hBl hT hy
 generalize easter c y = E at *
 go_enter Tryz.func277, Tryz.ntmps277
 go_wp2_with fail
 rw [← HW0.out]
 refine wp_region_later (W := W0) (Below.refl _ _) (by kernel_rfl) (by kernel_rfl) ?_
 repeat (go_big_quiet_step (first | (go_at_call 297; exact calls_later (KE _))))
 refine wpQuiet_nil ?_
 intro _ hw'
 obtain ⟨x, rfl⟩ := hw'
 go_wp2
 go_ret
 exact ⟨ret_int (by first | rfl | (unfold wrap64; omega)), HBl.out x⟩
set_option maxHeartbeats 1000000 in
theorem implFixDay (c y : Int) (s : ByteArray) (o m d : Int) (w : World) (hT : Tab w) : CR 278 #[.agg #[.string s, .bool false, .int .i64 o, .int .i64 m, .int .i64 d], .int .i64 c, .int .i64 y] w (.int .i64 (dayOf c y m d)) := by
 obtain ⟨W0, hW0, c0, c1, c2, c3, c4, hBl⟩ := fea_box w s false o m d 107
 have HW0 := hideP hW0
 have HBl := hideP hBl
 have KI : ∀ W, CR 298 #[.agg #[.string s, .bool false, .int .i64 o, .int .i64 m, .int .i64 d], .int .i64 c, .int .i64 y] W (.agg #[.int .i64 c, .int .i64 y, .int .i64 m, .int .i64 d]) := implDateIn s false o m d c y
 have KD : ∀ x : Later W0, CR 170 #[.agg #[.int .i64 c, .int .i64 y, .int .i64 m, .int .i64 d]] x.w (.int .i64 (dayOf c y m d)) := fun x => implDayOf c y m d x.w (hT.later (HBl.out x))
 clear hW0 hBl hT
 generalize dayOf c y m d = R at *
 go_enter Tryz.func278, Tryz.ntmps278
 go_wp2_with fail
 rw [← HW0.out]
 refine latO (KI _) fun x1 => ?_
 go_wp2_with fail
 refine lat (KD _) fun x2 => ?_
 go_wp2
 go_ret
 exact ⟨rfl, HBl.out x2⟩
set_option maxHeartbeats 1000000 in
theorem implFeaDay (c y : Int) (s : ByteArray) (mv : Bool) (o m d : Int) (w : World) (hs : s.size ≤ maxLen) (hT : Tab w) : CR 255 #[.int .i64 c, .int .i64 y, .agg #[.string s, .bool mv, .int .i64 o, .int .i64 m, .int .i64 d]] w (.int .i64 (feaDay c y s mv o m d)) := by
 obtain ⟨W0, hW0, c0, c1, c2, c3, c4, hBl⟩ := fea_box w s mv o m d 107
 have KT : ∀ x : Later W0, Tab x.w := fun x => hT.later (hBl x)
 obtain ⟨x0, hx0⟩ := Later.of (Below.refl W0.heap.size W0)
 have KO : CR 275 #[.agg #[.string s, .bool mv, .int .i64 o, .int .i64 m, .int .i64 d]] W0 (.bool (feaOk s mv o m d)) := implFeaOk s mv o m d W0 hs (by rw [hx0]; exact KT x0)
 have KY : ∀ x : Later W0, CR 276 #[.int .i64 c, .int .i64 y] x.w (.bool (yearB c y)) := fun x => implYearOk c y x.w (KT x)
 have HW0 := hideP hW0
 have HBl := hideP hBl
 clear hs hW0 hBl hT hx0 x0
 cases hok : feaOk s mv o m d
 · have HR := hideP (feaDay_no (c := c) (y := y) hok)
   rw [hok] at KO
   clear hok KT
   go_enter Tryz.func255, Tryz.ntmps255
   go_wp2_with fail
   rw [← HW0.out]
   refine latO KO fun x1 => ?_
   go_wp2
   go_ret
   exact ⟨ret_int HR.out.symm, HBl.out x1⟩
 by_cases hy : yearP c y
 case neg =>
  have HR := hideP (feaDay_noYear (s := s) (mv := mv) (o := o) (m := m) (d := d) hy)
  rw [hok] at KO
  simp only [yearB_false hy] at KY
  clear hok KT
  go_enter Tryz.func255, Tryz.ntmps255
  go_wp2_with fail
  rw [← HW0.out]
  refine latO KO fun x1 => ?_
  go_wp2_with fail
  refine lat (KY x1) fun x2 => ?_
  go_wp2
  go_ret
  exact ⟨ret_int HR.out.symm, HBl.out x2⟩
 simp only [yearB_true hy] at KY
 cases mv
 focus
   have HR : Hid (feaDay c y s false o m d = dayOf c y m d) := feaDay_fix hok hy
   have KD : ∀ x : Later W0, CR 278 #[.agg #[.string s, .bool false, .int .i64 o, .int .i64 m, .int .i64 d], .int .i64 c, .int .i64 y] x.w (.int .i64 (dayOf c y m d)) := fun x => implFixDay c y s o m d x.w (KT x)
   rw [hok] at KO
   rw [HR.out]
   clear hok hy HR KT
   generalize dayOf c y m d = R at *
 rotate_left
 focus
   have HR : Hid (feaDay c y s true o m d = easter c y + o) := feaDay_mv hok hy
   have hb2 := ok_mv hok
   have KD : ∀ x : Later W0, CR 277 #[.agg #[.string s, .bool true, .int .i64 o, .int .i64 m, .int .i64 d], .int .i64 c, .int .i64 y] x.w (.int .i64 (easter c y + o)) := fun x => implMovDay c y s o m d x.w (KT x) hy hb2.1 hb2.2
   rw [hok] at KO
   rw [HR.out]
   clear hok hy HR KT hb2
   generalize easter c y + o = R at *
 rotate_left
 all_goals
  go_enter Tryz.func255, Tryz.ntmps255
  go_wp2_with fail
  rw [← HW0.out]
  refine latO KO fun x1 => ?_
  go_wp2_with fail
  refine lat (KY x1) fun x2 => ?_
  go_wp2_with fail
  refine lat (KD x2) fun x3 => ?_
  go_wp2
  go_ret
  exact ⟨rfl, HBl.out x3⟩
end Go.Proofs.YtdmlhiailjnhcaaGreatDoor.ctr
namespace Go.Proofs.YtdmlhiailjnhcaaGreatDoor.ctr
open Go.RowKit
def mleft (m : Nat) : List UInt8 := if m = 0 then [] else Lib.decDigits m
theorem mleft_step (m : Nat) (h : m ≠ 0) : mleft m = mleft (m / 10) ++ [UInt8.ofNat (48 + m % 10)] := by
 unfold mleft
 rw [if_neg h, Lib.decDigits]
 by_cases h0 : m < 10
 · rw [dif_pos h0, if_pos (by omega), Nat.mod_eq_of_lt h0]
   rfl
 · rw [dif_neg h0, if_neg (by omega)]
theorem mdec_len : ∀ (k u : Nat), u < 10 ^ (k + 1) → (Lib.decDigits u).length ≤ k + 1
  | 0, u, h => by rw [Lib.decDigits, dif_pos (by simpa using h)]; simp
  | k + 1, u, h => by
   rw [Lib.decDigits]
   by_cases h0 : u < 10
   · rw [dif_pos h0]; simp
   · rw [dif_neg h0, List.length_append]
     have := mdec_len k (u / 10) (by rw [Nat.pow_succ] at h; omega)
     simp
     omega
theorem mleft_len (n : Nat) (h : n < 1000000000) : (mleft n).length ≤ 9 := by
 unfold mleft
 split
 · simp
 · exact mdec_len 8 n (by have hp : (10 : Nat) ^ (8 + 1) = 1000000000 := by decide
                          rw [hp]; exact h)
def mk (k : Nat) : ByteArray := ⟨(109 :: mleft k).toArray⟩
theorem conv1 (W : World) (c : Int) (h0 : 0 ≤ c) (h1 : c < 256) : (convert 134 9 (.slice (some ⟨W.heap.size, 0, none⟩) 1 1)).run Tryz.prog (W.alloc (.cells #[.int .u8 c] 5)) = .ok (.string ⟨#[UInt8.ofNat c.toNat]⟩) (W.alloc (.cells #[.int .u8 c] 5)) := by
 refine run_convert_bytes_back _ 134 9 5 ⟨W.heap.size, 0, none⟩ 1 [UInt8.ofNat c.toNat] Tryz.underlying134 Tryz.underlying5 Tryz.underlying9 (fun j hj => ?_)
 have hj0 : j = 0 := by simpa using hj
 subst hj0
 have ha : (⟨W.heap.size, 0, none⟩ : Addr).add 0 = ⟨W.heap.size, 0, none⟩ := by unfold Addr.add; split <;> simp_all
 have hc : (W.alloc (.cells #[.int .u8 c] 5)).cell? ⟨W.heap.size, 0, none⟩ = some (.int .u8 c) := by simp [World.alloc, World.cell?, -World.alloc_eq]
 rw [ha, hc]
 simp
 omega
set_option maxHeartbeats 1000000 in
theorem markText (n : Nat) (w : World) (hn : 0 < n) (hb : n < 1000000000) :
    CR 56 #[.int .i64 (n : Int)] w (.string (mk n)) := by
  have hl9 := mleft_len n hb
  have HL9 : Hid _ := hl9
  clear hl9
  go_enter Tryz.func56, Tryz.ntmps56
  go_wp2
  go_loopw [0, 3] (fun t o wr => ∃ (m : Nat) (out : List UInt8), m < 1000000000 ∧ t = .int .i64 (m : Int) ∧ o = .string ⟨out.toArray⟩ ∧ out.length ≤ 9 ∧ Hid (mleft m ++ out = mleft n) ∧ Below w.heap.size w wr) (fun t _ _ => (intOf t).toNat)
  case atStart => exact ⟨n, [], hb, rfl, rfl, by simp, by unfold Hid; simp, Below.refl _ _⟩
  case round =>
   obtain ⟨m, out, hm, rfl, rfl, ho, HO, hB⟩ := hrel
   by_cases hz : m = 0
   · subst hz
     go_wp2
     go_ret
     refine ⟨ret_str ?_, hB⟩
     unfold mk
     rw [← HO.out]
     apply WideShapes.bytes_inj
     simp [mleft]
   · have hmp : 0 < (m : Int) := by omega
     have hcv := fun W : World => conv1 W (48 + (m : Int) % 10) (by omega) (by omega)
     have hx : mleft (m / 10) ++ ((48 + UInt8.ofNat (m % 10)) :: out) = mleft n := by
      rw [← HO.out, mleft_step m hz, UInt8.ofNat_add]
      simp
     have hol : ((48 + UInt8.ofNat (m % 10)) :: out).length ≤ 9 := by
      have h := HL9.out
      rw [← hx, List.length_append] at h
      omega
     have HX : Hid _ := hx
     have HOL : Hid _ := hol
     clear hx hol
     go_wp2
     refine ⟨⟨m / 10, (48 + UInt8.ofNat (m % 10)) :: out, by omega, by simp, ?_, HOL.out, HX.out, hB.alloc hB.size _⟩, by simp [intOf]; omega⟩
     apply congrArg Value.string
     apply WideShapes.bytes_inj
     simp
end Go.Proofs.YtdmlhiailjnhcaaGreatDoor.ctr
