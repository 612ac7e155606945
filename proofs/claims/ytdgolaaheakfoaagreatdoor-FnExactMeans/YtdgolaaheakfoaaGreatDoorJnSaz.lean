/- Plain laws of Easter, of no program: golden numbers, epacts, full moons, the closed forms; over the years 1 to 3000 of both calendars the closed form is the Sunday behind the full moon, from 22 March to 25 April. A date comes back from its day, a day from its date; the day behind is the next day of the month, or a first one. Plain laws of where a year begins, of no program: the day on which a year of a style begins, which year holds a day, which days come twice in a year, in which years of 1 January a month's day of a year stands. -/
import Derived.Test.YtdgolaaheakfoaaGreatDoorJnSas
import Derived.Test.YtdgolaaheakfoaaGreatDoorJnSay
import Derived.Test.YtdgolaaheakfoaaGreatDoorJnSat
import Derived.Test.YtdgolaaheakfoaaGreatDoorJnSal
namespace Go.Proofs.YtdgolaaheakfoaaGreatDoor.ctr
open Go.RowKit
def yearP (c y : Int) : Prop := (c = 0 ∨ c = 1) ∧ 1 ≤ y ∧ y ≤ 3000
instance (c y : Int) : Decidable (yearP c y) := by unfold yearP; infer_instance
def yearB (c y : Int) : Bool := decide (yearP c y)
theorem yearB_true {c y : Int} (h : yearP c y) : yearB c y = true := decide_eq_true h
theorem yearB_false {c y : Int} (h : ¬ yearP c y) : yearB c y = false := decide_eq_false h
theorem dateOk_year (c y : Int) : dateOk c y 1 1 = yearB c y := by
  by_cases h : yearP c y
  · rw [yearB_true h, dateOk_true]
    have := monthDays_ge (y := y) h.1 (m := 1) (by omega) (by omega)
    exact ⟨h.1, h.2.1, h.2.2, by omega, by omega⟩
  · rw [yearB_false h, dateOk_false]
    exact fun k => h ⟨k.1, k.2.1, k.2.2.1⟩
theorem yearB_cal {c y : Int} (h : c = 0 ∨ c = 1) : yearB c y = inB y 1 3000 := by
  by_cases hp : yearP c y
  · rw [yearB_true hp, inB_true hp.2.1 hp.2.2]
  · rw [yearB_false hp, inB_false]
    unfold yearP at hp
    omega
theorem yearB_no {c y : Int} (h : ¬ (c = 0 ∨ c = 1)) : yearB c y = false := yearB_false fun k => h k.1
def e0G (g y : Int) : Int := (11 * g + 20 + (8 * (y / 100 + 1) + 5) / 25 - 5 - (3 * (y / 100 + 1) / 4 - 12)) % 30
def adjG (e g : Int) : Int := if e = 24 ∨ (e = 25 ∧ 11 < g) then e + 1 else e
def ep (c g y : Int) : Int := if c = 0 then 11 * (g - 1) % 30 else adjG (e0G g y) g
def moonN (c g e : Int) : Int := if c = 0 then 20 + (19 * (g - 1) + 15) % 30 else if 43 - e < 20 then 43 - e + 30 else 43 - e
def epact (c y : Int) : Int := if yearP c y then ep c (y % 19 + 1) y else 0
def moonOff (c y : Int) : Int := moonN c (y % 19 + 1) (ep c (y % 19 + 1) y)
def march (c y : Int) : Int := first c y + before c y 2
def fullMoon (c y : Int) : Int := if yearP c y then march c y + moonOff c y else 0
def dJ (y : Int) : Int := (19 * (y % 19) + 15) % 30
def sumJ (y : Int) : Int := dJ y + (2 * (y % 4) + 4 * (y % 7) - dJ y + 34) % 7 + 114
def gG (y : Int) : Int := (y / 100 - (y / 100 + 8) / 25 + 1) / 3
def hG (y : Int) : Int := (19 * (y % 19) + y / 100 - y / 100 / 4 - gG y + 15) % 30
def lG (y : Int) : Int := (32 + 2 * (y / 100 % 4) + 2 * (y % 100 / 4) - hG y - y % 100 % 4) % 7
def mG (y : Int) : Int := (y % 19 + 11 * hG y + 22 * lG y) / 451
def sumG (y : Int) : Int := hG y + lG y - 7 * mG y + 114
def sumE (c y : Int) : Int := if c = 0 then sumJ y else sumG y
def easter (c y : Int) : Int := if yearP c y then dayOf c y (sumE c y / 31) (sumE c y % 31 + 1) else 0
def all2 (f : Nat → Bool) : Nat → Nat → Bool
  | 0, lo => f lo
  | k + 1, lo => all2 f k lo && all2 f k (lo + 2 ^ k)
theorem all2_at {f : Nat → Bool} : ∀ {k lo n}, all2 f k lo = true → lo ≤ n → n < lo + 2 ^ k → f n = true
  | 0, lo, n, h, h1, h2 => by
    have : n = lo := by simp at h2; omega
    subst this; exact h
  | k + 1, lo, n, h, h1, h2 => by
    simp only [all2, Bool.and_eq_true] at h
    by_cases hn : n < lo + 2 ^ k
    · exact all2_at h.1 h1 hn
    · exact all2_at h.2 (by omega) (by rw [Nat.pow_succ] at h2; omega)
def dN (y : Nat) : Nat := (19 * (y % 19) + 15) % 30
def sN (y : Nat) : Nat := dN y + (2 * (y % 4) + 4 * (y % 7) + 34 - dN y) % 7
def chkJ (y : Nat) : Bool :=
  Nat.ble (20 + dN y + 1) (sN y + 21) && Nat.ble (sN y + 21) (20 + dN y + 7) && Nat.beq ((365 * (y - 1) + (y - 1) / 4 + 58 + (if y % 4 = 0 then 1 else 0) + (sN y + 21)) % 7) 0 && Nat.ble (sN y) 34
def hN (y : Nat) : Nat := (19 * (y % 19) + y / 100 - y / 100 / 4 - (y / 100 + 1 - (y / 100 + 8) / 25) / 3 + 15) % 30
def lN (y : Nat) : Nat := (32 + 2 * (y / 100 % 4) + 2 * (y % 100 / 4) - hN y - y % 100 % 4) % 7
def mN (y : Nat) : Nat := (y % 19 + 11 * hN y + 22 * lN y) / 451
def tN (y : Nat) : Nat := hN y + lN y - 7 * mN y
def e0N (y : Nat) : Nat := (11 * (y % 19 + 1) + 20 + (8 * (y / 100 + 1) + 5) / 25 + 37 - 3 * (y / 100 + 1) / 4) % 30
def eN (y : Nat) : Nat := if e0N y = 24 ∨ (e0N y = 25 ∧ 11 < y % 19 + 1) then e0N y + 1 else e0N y
def mooN (y : Nat) : Nat := if 23 < eN y then 73 - eN y else 43 - eN y
def chkG (y : Nat) : Bool :=
  Nat.ble (7 * mN y) (hN y + lN y) && Nat.ble (mooN y + 1) (tN y + 21) && Nat.ble (tN y + 21) (mooN y + 7) && Nat.beq ((365 * (y - 1) + (y - 1) / 4 - (y - 1) / 100 + (y - 1) / 400 + 60 + (if (y % 4 = 0 ∧ ¬ y % 100 = 0) ∨ y % 400 = 0 then 1 else 0) + (tN y + 21)) % 7) 0 && Nat.ble (tN y) 34
theorem allJ : all2 chkJ 12 1 = true := by decide +kernel
theorem allG : all2 chkG 12 1 = true := by decide +kernel
theorem before_2 {c y : Int} (hc : c = 0 ∨ c = 1) : before c y 2 = 59 + (if leapP c y then 1 else 0) := by
  have m1 := monthDays_plain (y := y) hc (m := 1) (by omega) (by omega) (by omega)
  by_cases hl : leapP c y
  · have m2 := monthDays_leap hc hl
    simp [before, m1, m2, hl, tab12]
  · have m2 := monthDays_plain (y := y) hc (m := 2) (by omega) (by omega) (fun h => hl h.2)
    simp [before, m1, m2, hl, tab12]
theorem before_3 {c y : Int} (hc : c = 0 ∨ c = 1) : before c y 3 = before c y 2 + 31 := by
  have m3 := monthDays_plain (y := y) hc (m := 3) (by omega) (by omega) (by omega)
  show before c y 2 + monthDays c y (2 + 1 : Nat) = _
  rw [show ((2 + 1 : Nat) : Int) = 3 from rfl, m3]
  rfl
theorem dN_cast (n : Nat) : (dN n : Int) = dJ n := by unfold dN dJ; omega
theorem dJ_b (y : Int) : 0 ≤ dJ y ∧ dJ y ≤ 29 := by unfold dJ; omega
theorem sN_cast (n : Nat) : (sN n : Int) = sumJ n - 114 := by
  unfold sN sumJ
  have h := dN_cast n
  have b := dJ_b n
  generalize dJ n = d at *
  generalize dN n = d' at *
  omega
theorem hG_b (y : Int) : 0 ≤ hG y ∧ hG y ≤ 29 := by unfold hG; omega
theorem gN_cast (b : Nat) : ((b + 1 - (b + 8) / 25 : Nat) : Int) = (b : Int) - ((b : Int) + 8) / 25 + 1 := by omega
theorem hN_cast (n : Nat) : (hN n : Int) = hG n := by
  unfold hN hG gG
  have e1 : (n : Int) / 100 = ((n / 100 : Nat) : Int) := by omega
  have e2 : (n : Int) % 19 = ((n % 19 : Nat) : Int) := by omega
  rw [e1, e2, ← gN_cast]
  generalize n % 19 = a
  have hg : n / 100 + 1 - (n / 100 + 8) / 25 ≤ n / 100 + 1 := Nat.sub_le _ _
  generalize n / 100 = b at *
  generalize b + 1 - (b + 8) / 25 = x at *
  have e3 : (b : Int) / 4 = ((b / 4 : Nat) : Int) := by omega
  have e4 : (x : Int) / 3 = ((x / 3 : Nat) : Int) := by omega
  rw [e3, e4]
  have h3 : b / 4 + x / 3 ≤ b + 1 := by omega
  generalize b / 4 = p at *
  generalize x / 3 = q at *
  by_cases hz : 19 * a + b < p + q
  · omega
  · omega
theorem lN_cast (n : Nat) : (lN n : Int) = lG n := by
  unfold lN lG
  have h := hN_cast n
  have b := hG_b n
  generalize hG n = d at *
  generalize hN n = d' at *
  have e1 : (n : Int) / 100 % 4 = ((n / 100 % 4 : Nat) : Int) := by omega
  have e2 : (n : Int) % 100 / 4 = ((n % 100 / 4 : Nat) : Int) := by omega
  have e3 : (n : Int) % 100 % 4 = ((n % 100 % 4 : Nat) : Int) := by omega
  rw [e1, e2, e3]
  have h3 : n % 100 % 4 ≤ 3 := by omega
  generalize n / 100 % 4 = x at *
  generalize n % 100 / 4 = y at *
  generalize n % 100 % 4 = z at *
  omega
theorem mN_cast (n : Nat) : (mN n : Int) = mG n := by
  unfold mN mG
  have h := hN_cast n
  have h' := lN_cast n
  generalize hG n = d at *
  generalize hN n = d' at *
  generalize lG n = e at *
  generalize lN n = e' at *
  omega
theorem e0N_cast (n : Nat) (hn : n ≤ 4096) : (e0N n : Int) = e0G ((n : Int) % 19 + 1) n := by
  unfold e0N e0G
  have e1 : (n : Int) / 100 = ((n / 100 : Nat) : Int) := by omega
  have e2 : (n : Int) % 19 = ((n % 19 : Nat) : Int) := by omega
  have hb : n / 100 ≤ 40 := by omega
  rw [e1, e2]
  generalize n % 19 = a
  generalize n / 100 = b at *
  have e3 : (8 * ((b : Int) + 1) + 5) / 25 = (((8 * (b + 1) + 5) / 25 : Nat) : Int) := by omega
  have e4 : 3 * ((b : Int) + 1) / 4 = ((3 * (b + 1) / 4 : Nat) : Int) := by omega
  rw [e3, e4]
  have h4 : 3 * (b + 1) / 4 ≤ 31 := by omega
  generalize (8 * (b + 1) + 5) / 25 = p at *
  generalize 3 * (b + 1) / 4 = q at *
  omega
theorem eN_cast (n : Nat) (hn : n ≤ 4096) : (eN n : Int) = ep 1 ((n : Int) % 19 + 1) n := by
  unfold eN ep adjG
  have h := e0N_cast n hn
  rw [if_neg (show ¬ (1 : Int) = 0 by omega)]
  generalize e0G ((n : Int) % 19 + 1) n = a at *
  generalize e0N n = b at *
  split <;> split <;> omega
theorem mooN_cast (n : Nat) (hn : n ≤ 4096) : (mooN n : Int) = moonOff 1 n := by
  unfold mooN moonOff moonN
  have h := eN_cast n hn
  have hb : eN n ≤ 30 := by
    unfold eN
    have : e0N n < 30 := by unfold e0N; omega
    split <;> omega
  rw [if_neg (show ¬ (1 : Int) = 0 by omega)]
  generalize ep 1 ((n : Int) % 19 + 1) n = a at *
  generalize eN n = b at *
  split <;> split <;> omega
theorem moonOff_jul (y : Int) : moonOff 0 y = 20 + dJ y := by
  unfold moonOff moonN dJ
  rw [if_pos rfl]
  omega
theorem easter_fact_at {c y : Int} (hc : c = 0 ∨ c = 1) (h1 : 1 ≤ y) (h2 : y ≤ 4000) : 114 ≤ sumE c y ∧ sumE c y ≤ 148 ∧ moonOff c y + 1 ≤ sumE c y - 93 ∧ sumE c y - 93 ≤ moonOff c y + 7 ∧ (march c y + (sumE c y - 93)) % 7 = 0 := by
  obtain ⟨n, rfl⟩ := Int.eq_ofNat_of_zero_le (show 0 ≤ y by omega)
  have hb := before_2 (y := (n : Int)) hc
  unfold march
  rw [hb]
  rcases hc with rfl | rfl
  · have k := all2_at allJ (n := n) (by omega) (by have : (2 : Nat) ^ 12 = 4096 := rfl; omega)
    simp only [chkJ, Bool.and_eq_true, Nat.ble_eq] at k
    obtain ⟨⟨⟨k1, k2⟩, k3⟩, k4⟩ := k
    have k3 := Nat.eq_of_beq_eq_true k3
    have e1 := sN_cast n
    have e2 := dN_cast n
    have e6 : ((n : Int) - 1) / 4 = (((n - 1) / 4 : Nat) : Int) := by omega
    rw [moonOff_jul, first_jul, e6]
    generalize (n - 1) / 4 = q4 at *
    have e3 : sumE 0 n = sumJ n := by unfold sumE; rw [if_pos rfl]
    rw [e3]
    clear hb e3
    generalize sumJ n = s at *
    generalize dJ n = d at *
    generalize sN n = s' at *
    generalize dN n = d' at *
    by_cases hl : leapP 0 n
    · rw [if_pos hl]
      rw [leap_jul] at hl
      rw [if_pos (by omega)] at k3
      omega
    · rw [if_neg hl]
      rw [leap_jul] at hl
      rw [if_neg (by omega)] at k3
      omega
  · have k := all2_at allG (n := n) (by omega) (by have : (2 : Nat) ^ 12 = 4096 := rfl; omega)
    simp only [chkG, Bool.and_eq_true, Nat.ble_eq] at k
    obtain ⟨⟨⟨⟨k0, k1⟩, k2⟩, k3⟩, k4⟩ := k
    have k3 := Nat.eq_of_beq_eq_true k3
    have e1 := hN_cast n
    have e2 := lN_cast n
    have e4 := mN_cast n
    have e5 := mooN_cast n (by omega)
    have e6 : ((n : Int) - 1) / 4 = (((n - 1) / 4 : Nat) : Int) := by omega
    have e7 : ((n : Int) - 1) / 100 = (((n - 1) / 100 : Nat) : Int) := by omega
    have e8 : ((n : Int) - 1) / 400 = (((n - 1) / 400 : Nat) : Int) := by omega
    have e9 : (n - 1) / 100 ≤ (n - 1) / 4 := by omega
    rw [first_gre, e6, e7, e8]
    clear e6 e7 e8
    generalize (n - 1) / 4 = q4 at *
    generalize (n - 1) / 100 = q100 at *
    generalize (n - 1) / 400 = q400 at *
    have e3 : sumE 1 n = sumG n := by unfold sumE; rw [if_neg (by omega)]
    rw [e3]
    unfold sumG
    unfold tN at k1 k2 k3 k4
    clear hb e3
    generalize hG n = s at *
    generalize lG n = d at *
    generalize mG n = m at *
    generalize hN n = s' at *
    generalize lN n = d' at *
    generalize mN n = m' at *
    generalize moonOff 1 n = o at *
    generalize mooN n = o' at *
    by_cases hl : leapP 1 n
    · rw [if_pos hl]
      rw [leap_gre] at hl
      rw [if_pos (by omega)] at k3
      omega
    · rw [if_neg hl]
      rw [leap_gre] at hl
      rw [if_neg (by omega)] at k3
      omega
theorem easter_fact {c y : Int} (h : yearP c y) : 114 ≤ sumE c y ∧ sumE c y ≤ 148 ∧ moonOff c y + 1 ≤ sumE c y - 93 ∧ sumE c y - 93 ≤ moonOff c y + 7 ∧ (march c y + (sumE c y - 93)) % 7 = 0 :=
  easter_fact_at h.1 h.2.1 (by have := h.2.2; omega)
def easL (c y : Int) : Int := first c y + before c y (sumE c y / 31 - 1).toNat + (sumE c y % 31 + 1) - 1
theorem sum_month {c y : Int} (h : yearP c y) : dateP c y (sumE c y / 31) (sumE c y % 31 + 1) := by
  have k := easter_fact h
  have h3 := monthDays_plain (y := y) h.1 (m := 3) (by omega) (by omega) (by omega)
  have h4 := monthDays_plain (y := y) h.1 (m := 4) (by omega) (by omega) (by omega)
  have h3' : monthDays c y 3 = 31 := h3
  have h4' : monthDays c y 4 = 30 := h4
  refine ⟨h.1, h.2.1, h.2.2, by omega, ?_⟩
  by_cases hm : sumE c y / 31 = 3
  · rw [hm, h3']; omega
  · rw [show sumE c y / 31 = 4 by omega, h4']; omega
theorem easter_eq {c y : Int} (h : yearP c y) : easter c y = march c y + (sumE c y - 93) := by
  have k := easter_fact h
  unfold easter dayOf march
  rw [if_pos h, if_pos (sum_month h)]
  have hb := before_3 (y := y) h.1
  by_cases hm : sumE c y / 31 = 3
  · rw [hm, show ((3 : Int) - 1).toNat = 2 from rfl]
    omega
  · rw [show sumE c y / 31 = 4 by omega, show ((4 : Int) - 1).toNat = 3 from rfl, hb]
    omega
theorem march_b {c y : Int} (h : yearP c y) : 0 < march c y ∧ march c y ≤ 2000000 := by
  have hb := before_2 (y := y) h.1
  unfold march
  rw [hb]
  obtain ⟨hc, h1, h2⟩ := h
  rcases hc with rfl | rfl
  · rw [first_jul]
    split <;> omega
  · rw [first_gre]
    split <;> omega
end Go.Proofs.YtdgolaaheakfoaaGreatDoor.ctr
namespace Go.Proofs.YtdgolaaheakfoaaGreatDoor.ctr
open Go.RowKit
theorem month_ex {c y n : Int} (h0 : 0 ≤ n) : ∀ j : Nat, n < before c y j → ∃ k, k < j ∧ before c y k ≤ n ∧ n < before c y (k + 1)
  | 0, h => by
    have hz : before c y 0 = 0 := rfl
    omega
  | j + 1, h => by
    by_cases hj : n < before c y j
    · obtain ⟨k, hk, h1, h2⟩ := month_ex h0 j hj
      exact ⟨k, by omega, h1, h2⟩
    · exact ⟨j, by omega, by omega, h⟩
theorem date_back {c n a y m d : Int} (h : dateOf c n = (a, y, m, d, true)) : a = c ∧ dateP c y m d ∧ dayOf c y m d = n := by
  by_cases hp : (c = 0 ∨ c = 1) ∧ 1 ≤ yearOf c n ∧ yearOf c n ≤ 3000 ∧ -1000 ≤ n ∧ n ≤ 1200000
  · obtain ⟨hc, h2, h3, h4, h5⟩ := hp
    obtain ⟨e1, e2⟩ := year_ex hc h4 h5
    have hs := first_step hc (yearOf c n)
    obtain ⟨k, hk, k1, k2⟩ := month_ex (c := c) (y := yearOf c n) (n := n - first c (yearOf c n)) (by omega) 12 (by omega)
    have hm := monthOf_eq k1 k2
    have hd := dateOf_yes hc h4 h5 rfl hm h2 h3
    rw [hd] at h
    simp only [Prod.mk.injEq] at h
    obtain ⟨rfl, rfl, rfl, rfl, _⟩ := h
    have hb := before_next c (yearOf c n) k
    have hP : dateP c (yearOf c n) ((k : Int) + 1) (n - first c (yearOf c n) - before c (yearOf c n) k + 1) := ⟨hc, h2, h3, by omega, by omega⟩
    refine ⟨rfl, hP, ?_⟩
    unfold dayOf
    rw [if_pos hP, show ((k : Int) + 1 - 1).toNat = k by omega]
    omega
  · rw [dateOf_no hp] at h
    simp at h
theorem day_back {c y m d : Int} (h : dateP c y m d) : dateOf c (dayOf c y m d) = (c, y, m, d, true) := by
  obtain ⟨hm1, hm2⟩ := dateP_month h
  obtain ⟨hc, hy1, hy2, hd1, hd2⟩ := h
  obtain ⟨k, hk⟩ := Int.eq_ofNat_of_zero_le (show 0 ≤ m - 1 by omega)
  have hm : m = (k : Int) + 1 := by omega
  subst hm
  have hP : dateP c y ((k : Int) + 1) d := ⟨hc, hy1, hy2, hd1, hd2⟩
  have hb := before_next c y k
  have hmono := before_mono c y (k + 1) (12 - (k + 1))
  rw [show k + 1 + (12 - (k + 1)) = 12 by omega] at hmono
  have h0 := (before_bound c y k).1
  have hs := first_step hc y
  have hD : dayOf c y ((k : Int) + 1) d = first c y + before c y k + d - 1 := by
    unfold dayOf
    rw [if_pos hP, show ((k : Int) + 1 - 1).toNat = k by omega]
  have hbd := dayOf_bound c y ((k : Int) + 1) d
  have hy3 : yearOf c (dayOf c y ((k : Int) + 1) d) = y := yearOf_eq hc (by omega) (by omega)
  have hmo : monthOf c y (dayOf c y ((k : Int) + 1) d - first c y) = k := monthOf_eq (by omega) (by omega)
  have hfb : first c (y + 1) ≤ 1200000 := by
    have h1 := first_le (c := c) (y := y + 1) (z := 3001) hc (by omega)
    have h2 : first c 3001 ≤ 1200000 := by
      rcases hc with rfl | rfl
      · rw [first_jul]; omega
      · rw [first_gre]; omega
    omega
  have hf1 : -1000 ≤ first c y := by
    have h1 := first_le (c := c) (y := 1) (z := y) hc (by omega)
    have h2 : -1000 ≤ first c 1 := by
      rcases hc with rfl | rfl
      · rw [first_jul]; omega
      · rw [first_gre]; omega
    omega
  rw [dateOf_yes hc (by omega) (by omega) hy3 hmo hy1 hy2]
  simp only [Prod.mk.injEq]
  refine ⟨trivial, trivial, trivial, ?_, trivial⟩
  omega
end Go.Proofs.YtdgolaaheakfoaaGreatDoor.ctr
namespace Go.Proofs.YtdgolaaheakfoaaGreatDoor.ctr
open Go.RowKit
def lineD (c y m d : Int) : Int := first c y + before c y (m - 1).toNat + d - 1
theorem lineD_dayOf {c y m d : Int} (h : dateP c y m d) : dayOf c y m d = lineD c y m d := by unfold dayOf lineD; rw [if_pos h]
def start (c s y : Int) : Int :=
  if s = 1 then lineD c y 3 1
  else if s = 2 then lineD c y 3 25
  else if s = 3 then lineD c (y - 1) 3 25
  else if s = 4 then easL c y
  else if s = 5 then lineD c (y - 1) 9 1
  else if s = 6 then lineD c (y - 1) 12 25
  else first c y
theorem start_0 (c y : Int) : start c 0 y = lineD c y 1 1 := by
  unfold start lineD
  rw [if_neg (by omega), if_neg (by omega), if_neg (by omega), if_neg (by omega), if_neg (by omega), if_neg (by omega), show ((1 : Int) - 1).toNat = 0 from rfl]
  simp only [before]
  omega
theorem start_1 (c y : Int) : start c 1 y = lineD c y 3 1 := by unfold start; rw [if_pos rfl]
theorem start_2 (c y : Int) : start c 2 y = lineD c y 3 25 := by unfold start; rw [if_neg (by omega), if_pos rfl]
theorem start_3 (c y : Int) : start c 3 y = lineD c (y - 1) 3 25 := by unfold start; rw [if_neg (by omega), if_neg (by omega), if_pos rfl]
theorem start_4 (c y : Int) : start c 4 y = easL c y := by unfold start; rw [if_neg (by omega), if_neg (by omega), if_neg (by omega), if_pos rfl]
theorem start_5 (c y : Int) : start c 5 y = lineD c (y - 1) 9 1 := by unfold start; rw [if_neg (by omega), if_neg (by omega), if_neg (by omega), if_neg (by omega), if_pos rfl]
theorem start_6 (c y : Int) : start c 6 y = lineD c (y - 1) 12 25 := by unfold start; rw [if_neg (by omega), if_neg (by omega), if_neg (by omega), if_neg (by omega), if_neg (by omega), if_pos rfl]
theorem line_in {c y m d : Int} (hc : c = 0 ∨ c = 1) (h1 : 1 ≤ m) (h2 : m ≤ 12) (d1 : 1 ≤ d) (d2 : d ≤ monthDays c y m) : first c y ≤ lineD c y m d ∧ lineD c y m d < first c (y + 1) := by
  have k1 := before_bound c y (m - 1).toNat
  have k2 := before_mono c y (m - 1).toNat 1
  have k3 : before c y ((m - 1).toNat + 1) = before c y (m - 1).toNat + monthDays c y (((m - 1).toNat + 1 : Nat) : Int) := rfl
  have k4 := before_mono c y ((m - 1).toNat + 1) (12 - ((m - 1).toNat + 1))
  rw [show (m - 1).toNat + 1 + (12 - ((m - 1).toNat + 1)) = 12 by omega] at k4
  rw [show (((m - 1).toNat + 1 : Nat) : Int) = m by omega] at k3
  have k5 := first_step hc y
  unfold lineD
  omega
theorem md3 {c y : Int} (hc : c = 0 ∨ c = 1) : monthDays c y 3 = 31 := monthDays_plain (y := y) hc (m := 3) (by omega) (by omega) (by omega)
theorem md4 {c y : Int} (hc : c = 0 ∨ c = 1) : monthDays c y 4 = 30 := monthDays_plain (y := y) hc (m := 4) (by omega) (by omega) (by omega)
theorem md1 {c y : Int} (hc : c = 0 ∨ c = 1) : monthDays c y 1 = 31 := monthDays_plain (y := y) hc (m := 1) (by omega) (by omega) (by omega)
theorem md9 {c y : Int} (hc : c = 0 ∨ c = 1) : monthDays c y 9 = 30 := monthDays_plain (y := y) hc (m := 9) (by omega) (by omega) (by omega)
theorem md12 {c y : Int} (hc : c = 0 ∨ c = 1) : monthDays c y 12 = 31 := monthDays_plain (y := y) hc (m := 12) (by omega) (by omega) (by omega)
theorem easL_in {c y : Int} (hc : c = 0 ∨ c = 1) (h1 : 1 ≤ y) (h2 : y ≤ 4000) : first c y ≤ easL c y ∧ easL c y < first c (y + 1) := by
  have k := easter_fact_at hc h1 h2
  have h3 := md3 (y := y) hc
  have h4 := md4 (y := y) hc
  show first c y ≤ lineD c y (sumE c y / 31) (sumE c y % 31 + 1) ∧ lineD c y (sumE c y / 31) (sumE c y % 31 + 1) < _
  by_cases hm : sumE c y / 31 = 3
  · rw [hm]
    exact line_in hc (by omega) (by omega) (by omega) (by omega)
  · rw [show sumE c y / 31 = 4 by omega]
    exact line_in hc (by omega) (by omega) (by omega) (by omega)
theorem start_in {c s y : Int} (hc : c = 0 ∨ c = 1) (hs : styleP s) (h1 : 1 ≤ y) (h2 : y ≤ 4000) : first c (y - 1) ≤ start c s y ∧ start c s y < first c (y + 1) := by
  have f1 := first_lt hc (show y - 1 < y by omega)
  have f2 := first_lt hc (show y < y + 1 by omega)
  rcases style_cases hs with rfl | rfl | rfl | rfl | rfl | rfl | rfl
  · rw [start_0]
    have k := line_in (c := c) (y := y) (m := 1) (d := 1) hc (by omega) (by omega) (by omega) (by rw [md1 hc]; omega)
    omega
  · rw [start_1]
    have k := line_in (c := c) (y := y) (m := 3) (d := 1) hc (by omega) (by omega) (by omega) (by rw [md3 hc]; omega)
    omega
  · rw [start_2]
    have k := line_in (c := c) (y := y) (m := 3) (d := 25) hc (by omega) (by omega) (by omega) (by rw [md3 hc]; omega)
    omega
  · rw [start_3]
    have k := line_in (c := c) (y := y - 1) (m := 3) (d := 25) hc (by omega) (by omega) (by omega) (by rw [md3 hc]; omega)
    rw [show y - 1 + 1 = y by omega] at k
    omega
  · rw [start_4]
    have k := easL_in hc h1 h2
    omega
  · rw [start_5]
    have k := line_in (c := c) (y := y - 1) (m := 9) (d := 1) hc (by omega) (by omega) (by omega) (by rw [md9 hc]; omega)
    rw [show y - 1 + 1 = y by omega] at k
    omega
  · rw [start_6]
    have k := line_in (c := c) (y := y - 1) (m := 12) (d := 25) hc (by omega) (by omega) (by omega) (by rw [md12 hc]; omega)
    rw [show y - 1 + 1 = y by omega] at k
    omega
def rawYear (c s Y n : Int) : Int := if n < start c s Y then Y - 1 else if n < start c s (Y + 1) then Y else Y + 1
theorem raw_lo {c s Y n : Int} (h : n < start c s Y) : rawYear c s Y n = Y - 1 := by unfold rawYear; rw [if_pos h]
theorem raw_mid {c s Y n : Int} (h : ¬ n < start c s Y) (h' : n < start c s (Y + 1)) : rawYear c s Y n = Y := by unfold rawYear; rw [if_neg h, if_pos h']
theorem raw_hi {c s Y n : Int} (h : ¬ n < start c s Y) (h' : ¬ n < start c s (Y + 1)) : rawYear c s Y n = Y + 1 := by unfold rawYear; rw [if_neg h, if_neg h']
theorem start_far {c s Y n : Int} (hc : c = 0 ∨ c = 1) (hs : styleP s) (h1 : 1 ≤ Y) (h2 : Y ≤ 3000) (hn : n < first c (Y + 1)) : n < start c s (Y + 2) := by
  have k := start_in (y := Y + 2) hc hs (by omega) (by omega)
  rw [show Y + 2 - 1 = Y + 1 by omega] at k
  omega
noncomputable def styYear (c s n : Int) : Int × Bool :=
  if (dateOf c n).2.2.2.2 = true ∧ styleP s ∧ 1 ≤ rawYear c s (dateOf c n).2.1 n ∧ rawYear c s (dateOf c n).2.1 n ≤ 3000 then (rawYear c s (dateOf c n).2.1 n, true) else (0, false)
theorem sty_none {c s n : Int} (h : dateOf c n = (0, 0, 0, 0, false)) : styYear c s n = (0, false) := by
  unfold styYear
  rw [if_neg (by rw [h]; simp)]
theorem sty_style {c s n : Int} (h : ¬ styleP s) : styYear c s n = (0, false) := by
  unfold styYear
  rw [if_neg (fun k => h k.2.1)]
theorem sty_yes {c s n Y m d : Int} (h : dateOf c n = (c, Y, m, d, true)) (hs : styleP s) (h1 : 1 ≤ rawYear c s Y n) (h2 : rawYear c s Y n ≤ 3000) : styYear c s n = (rawYear c s Y n, true) := by
  unfold styYear
  rw [h]
  exact if_pos ⟨rfl, hs, h1, h2⟩
theorem sty_out {c s n Y m d : Int} (h : dateOf c n = (c, Y, m, d, true)) (h1 : ¬ (1 ≤ rawYear c s Y n ∧ rawYear c s Y n ≤ 3000)) : styYear c s n = (0, false) := by
  unfold styYear
  rw [h]
  exact if_neg (fun k => h1 ⟨k.2.2.1, k.2.2.2⟩)
end Go.Proofs.YtdgolaaheakfoaaGreatDoor.ctr
