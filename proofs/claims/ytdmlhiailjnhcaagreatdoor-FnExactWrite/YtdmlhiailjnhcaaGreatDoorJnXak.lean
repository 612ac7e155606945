/- Plain laws of Easter, of no program: golden numbers, epacts, full moons, the closed forms; over the years 1 to; and what else the law reaches. -/
import Derived.Test.YtdmlhiailjnhcaaGreatDoorJnXad
import Derived.Test.YtdmlhiailjnhcaaGreatDoorJnXag
import Derived.Test.YtdmlhiailjnhcaaGreatDoorJnXaf
namespace Go.Proofs.YtdmlhiailjnhcaaGreatDoor.ctr
open Go.RowKit
def yearP (c y : Int) : Prop := (c = 0 ∨ c = 1) ∧ 1 ≤ y ∧ y ≤ 3000
instance (c y : Int) : Decidable (yearP c y) := by unfold yearP; infer_instance
def yearB (c y : Int) : Bool := decide (yearP c y)
theorem yearB_true {c y : Int} (h : yearP c y) : yearB c y = true := decide_eq_true h
theorem yearB_false {c y : Int} (h : ¬ yearP c y) : yearB c y = false := decide_eq_false h
theorem dateOk_year (c y : Int) : dateOk c y 1 1 = yearB c y := by
 by_cases h : yearP c y
 · rw [yearB_true h, dateOk_true]
   have := monthDays_ge (y := y) h.1 (m := 1) (by omega) (by omega)
   exact ⟨h.1, h.2.1, h.2.2, by omega, by omega⟩
 · rw [yearB_false h, dateOk_false]
   exact fun k => h ⟨k.1, k.2.1, k.2.2.1⟩
theorem yearB_cal {c y : Int} (h : c = 0 ∨ c = 1) : yearB c y = inB y 1 3000 := by
 by_cases hp : yearP c y
 · rw [yearB_true hp, inB_true hp.2.1 hp.2.2]
 · rw [yearB_false hp, inB_false]
   unfold yearP at hp
   omega
theorem yearB_no {c y : Int} (h : ¬ (c = 0 ∨ c = 1)) : yearB c y = false := yearB_false fun k => h k.1
def e0G (g y : Int) : Int := (11 * g + 20 + (8 * (y / 100 + 1) + 5) / 25 - 5 - (3 * (y / 100 + 1) / 4 - 12)) % 30
def adjG (e g : Int) : Int := if e = 24 ∨ (e = 25 ∧ 11 < g) then e + 1 else e
def ep (c g y : Int) : Int := if c = 0 then 11 * (g - 1) % 30 else adjG (e0G g y) g
def moonN (c g e : Int) : Int := if c = 0 then 20 + (19 * (g - 1) + 15) % 30 else if 43 - e < 20 then 43 - e + 30 else 43 - e
def epact (c y : Int) : Int := if yearP c y then ep c (y % 19 + 1) y else 0
def moonOff (c y : Int) : Int := moonN c (y % 19 + 1) (ep c (y % 19 + 1) y)
def march (c y : Int) : Int := first c y + before c y 2
def fullMoon (c y : Int) : Int := if yearP c y then march c y + moonOff c y else 0
def dJ (y : Int) : Int := (19 * (y % 19) + 15) % 30
def sumJ (y : Int) : Int := dJ y + (2 * (y % 4) + 4 * (y % 7) - dJ y + 34) % 7 + 114
def gG (y : Int) : Int := (y / 100 - (y / 100 + 8) / 25 + 1) / 3
def hG (y : Int) : Int := (19 * (y % 19) + y / 100 - y / 100 / 4 - gG y + 15) % 30
def lG (y : Int) : Int := (32 + 2 * (y / 100 % 4) + 2 * (y % 100 / 4) - hG y - y % 100 % 4) % 7
def mG (y : Int) : Int := (y % 19 + 11 * hG y + 22 * lG y) / 451
def sumG (y : Int) : Int := hG y + lG y - 7 * mG y + 114
def sumE (c y : Int) : Int := if c = 0 then sumJ y else sumG y
def easter (c y : Int) : Int := if yearP c y then dayOf c y (sumE c y / 31) (sumE c y % 31 + 1) else 0
def all2 (f : Nat → Bool) : Nat → Nat → Bool
  | 0, lo => f lo
  | k + 1, lo => all2 f k lo && all2 f k (lo + 2 ^ k)
theorem all2_at {f : Nat → Bool} : ∀ {k lo n}, all2 f k lo = true → lo ≤ n → n < lo + 2 ^ k → f n = true
  | 0, lo, n, h, h1, h2 => by
   have : n = lo := by simp at h2; omega
   subst this; exact h
  | k + 1, lo, n, h, h1, h2 => by
   simp only [all2, Bool.and_eq_true] at h
   by_cases hn : n < lo + 2 ^ k
   · exact all2_at h.1 h1 hn
   · exact all2_at h.2 (by omega) (by rw [Nat.pow_succ] at h2; omega)
def dN (y : Nat) : Nat := (19 * (y % 19) + 15) % 30
def sN (y : Nat) : Nat := dN y + (2 * (y % 4) + 4 * (y % 7) + 34 - dN y) % 7
def chkJ (y : Nat) : Bool :=
 Nat.ble (20 + dN y + 1) (sN y + 21) && Nat.ble (sN y + 21) (20 + dN y + 7) && Nat.beq ((365 * (y - 1) + (y - 1) / 4 + 58 + (if y % 4 = 0 then 1 else 0) + (sN y + 21)) % 7) 0 && Nat.ble (sN y) 34
def hN (y : Nat) : Nat := (19 * (y % 19) + y / 100 - y / 100 / 4 - (y / 100 + 1 - (y / 100 + 8) / 25) / 3 + 15) % 30
def lN (y : Nat) : Nat := (32 + 2 * (y / 100 % 4) + 2 * (y % 100 / 4) - hN y - y % 100 % 4) % 7
def mN (y : Nat) : Nat := (y % 19 + 11 * hN y + 22 * lN y) / 451
def tN (y : Nat) : Nat := hN y + lN y - 7 * mN y
def e0N (y : Nat) : Nat := (11 * (y % 19 + 1) + 20 + (8 * (y / 100 + 1) + 5) / 25 + 37 - 3 * (y / 100 + 1) / 4) % 30
def eN (y : Nat) : Nat := if e0N y = 24 ∨ (e0N y = 25 ∧ 11 < y % 19 + 1) then e0N y + 1 else e0N y
def mooN (y : Nat) : Nat := if 23 < eN y then 73 - eN y else 43 - eN y
def chkG (y : Nat) : Bool :=
 Nat.ble (7 * mN y) (hN y + lN y) && Nat.ble (mooN y + 1) (tN y + 21) && Nat.ble (tN y + 21) (mooN y + 7) && Nat.beq ((365 * (y - 1) + (y - 1) / 4 - (y - 1) / 100 + (y - 1) / 400 + 60 + (if (y % 4 = 0 ∧ ¬ y % 100 = 0) ∨ y % 400 = 0 then 1 else 0) + (tN y + 21)) % 7) 0 && Nat.ble (tN y) 34
theorem allJ : all2 chkJ 12 1 = true := by decide +kernel
theorem allG : all2 chkG 12 1 = true := by decide +kernel
theorem before_2 {c y : Int} (hc : c = 0 ∨ c = 1) : before c y 2 = 59 + (if leapP c y then 1 else 0) := by
 have m1 := monthDays_plain (y := y) hc (m := 1) (by omega) (by omega) (by omega)
 by_cases hl : leapP c y
 · have m2 := monthDays_leap hc hl
   simp [before, m1, m2, hl, tab12]
 · have m2 := monthDays_plain (y := y) hc (m := 2) (by omega) (by omega) (fun h => hl h.2)
   simp [before, m1, m2, hl, tab12]
theorem before_3 {c y : Int} (hc : c = 0 ∨ c = 1) : before c y 3 = before c y 2 + 31 := by
 have m3 := monthDays_plain (y := y) hc (m := 3) (by omega) (by omega) (by omega)
 show before c y 2 + monthDays c y (2 + 1 : Nat) = _
 rw [show ((2 + 1 : Nat) : Int) = 3 from rfl, m3]
 rfl
theorem dN_cast (n : Nat) : (dN n : Int) = dJ n := by unfold dN dJ; omega
theorem dJ_b (y : Int) : 0 ≤ dJ y ∧ dJ y ≤ 29 := by unfold dJ; omega
theorem sN_cast (n : Nat) : (sN n : Int) = sumJ n - 114 := by
 unfold sN sumJ
 have h := dN_cast n
 have b := dJ_b n
 generalize dJ n = d at *
 generalize dN n = d' at *
 omega
theorem hG_b (y : Int) : 0 ≤ hG y ∧ hG y ≤ 29 := by unfold hG; omega
theorem gN_cast (b : Nat) : ((b + 1 - (b + 8) / 25 : Nat) : Int) = (b : Int) - ((b : Int) + 8) / 25 + 1 := by omega
theorem hN_cast (n : Nat) : (hN n : Int) = hG n := by
 unfold hN hG gG
 have e1 : (n : Int) / 100 = ((n / 100 : Nat) : Int) := by omega
 have e2 : (n : Int) % 19 = ((n % 19 : Nat) : Int) := by omega
 rw [e1, e2, ← gN_cast]
 generalize n % 19 = a
 have hg : n / 100 + 1 - (n / 100 + 8) / 25 ≤ n / 100 + 1 := Nat.sub_le _ _
 generalize n / 100 = b at *
 generalize b + 1 - (b + 8) / 25 = x at *
 have e3 : (b : Int) / 4 = ((b / 4 : Nat) : Int) := by omega
 have e4 : (x : Int) / 3 = ((x / 3 : Nat) : Int) := by omega
 rw [e3, e4]
 have h3 : b / 4 + x / 3 ≤ b + 1 := by omega
 generalize b / 4 = p at *
 generalize x / 3 = q at *
 by_cases hz : 19 * a + b < p + q
 · omega
 · omega
theorem lN_cast (n : Nat) : (lN n : Int) = lG n := by
 unfold lN lG
 have h := hN_cast n
 have b := hG_b n
 generalize hG n = d at *
 generalize hN n = d' at *
 have e1 : (n : Int) / 100 % 4 = ((n / 100 % 4 : Nat) : Int) := by omega
 have e2 : (n : Int) % 100 / 4 = ((n % 100 / 4 : Nat) : Int) := by omega
 have e3 : (n : Int) % 100 % 4 = ((n % 100 % 4 : Nat) : Int) := by omega
 rw [e1, e2, e3]
 have h3 : n % 100 % 4 ≤ 3 := by omega
 generalize n / 100 % 4 = x at *
 generalize n % 100 / 4 = y at *
 generalize n % 100 % 4 = z at *
 omega
theorem mN_cast (n : Nat) : (mN n : Int) = mG n := by
 unfold mN mG
 have h := hN_cast n
 have h' := lN_cast n
 generalize hG n = d at *
 generalize hN n = d' at *
 generalize lG n = e at *
 generalize lN n = e' at *
 omega
theorem e0N_cast (n : Nat) (hn : n ≤ 4096) : (e0N n : Int) = e0G ((n : Int) % 19 + 1) n := by
 unfold e0N e0G
 have e1 : (n : Int) / 100 = ((n / 100 : Nat) : Int) := by omega
 have e2 : (n : Int) % 19 = ((n % 19 : Nat) : Int) := by omega
 have hb : n / 100 ≤ 40 := by omega
 rw [e1, e2]
 generalize n % 19 = a
 generalize n / 100 = b at *
 have e3 : (8 * ((b : Int) + 1) + 5) / 25 = (((8 * (b + 1) + 5) / 25 : Nat) : Int) := by omega
 have e4 : 3 * ((b : Int) + 1) / 4 = ((3 * (b + 1) / 4 : Nat) : Int) := by omega
 rw [e3, e4]
 have h4 : 3 * (b + 1) / 4 ≤ 31 := by omega
 generalize (8 * (b + 1) + 5) / 25 = p at *
 generalize 3 * (b + 1) / 4 = q at *
 omega
theorem eN_cast (n : Nat) (hn : n ≤ 4096) : (eN n : Int) = ep 1 ((n : Int) % 19 + 1) n := by
 unfold eN ep adjG
 have h := e0N_cast n hn
 rw [if_neg (show ¬ (1 : Int) = 0 by omega)]
 generalize e0G ((n : Int) % 19 + 1) n = a at *
 generalize e0N n = b at *
 split <;> split <;> omega
theorem mooN_cast (n : Nat) (hn : n ≤ 4096) : (mooN n : Int) = moonOff 1 n := by
 unfold mooN moonOff moonN
 have h := eN_cast n hn
 have hb : eN n ≤ 30 := by
  unfold eN
  have : e0N n < 30 := by unfold e0N; omega
  split <;> omega
 rw [if_neg (show ¬ (1 : Int) = 0 by omega)]
 generalize ep 1 ((n : Int) % 19 + 1) n = a at *
 generalize eN n = b at *
 split <;> split <;> omega
theorem moonOff_jul (y : Int) : moonOff 0 y = 20 + dJ y := by
 unfold moonOff moonN dJ
 rw [if_pos rfl]
 omega
theorem easter_fact_at {c y : Int} (hc : c = 0 ∨ c = 1) (h1 : 1 ≤ y) (h2 : y ≤ 4000) : 114 ≤ sumE c y ∧ sumE c y ≤ 148 ∧ moonOff c y + 1 ≤ sumE c y - 93 ∧ sumE c y - 93 ≤ moonOff c y + 7 ∧ (march c y + (sumE c y - 93)) % 7 = 0 := by
 obtain ⟨n, rfl⟩ := Int.eq_ofNat_of_zero_le (show 0 ≤ y by omega)
 have hb := before_2 (y := (n : Int)) hc
 unfold march
 rw [hb]
 rcases hc with rfl | rfl
 · have k := all2_at allJ (n := n) (by omega) (by have : (2 : Nat) ^ 12 = 4096 := rfl; omega)
   simp only [chkJ, Bool.and_eq_true, Nat.ble_eq] at k
   obtain ⟨⟨⟨k1, k2⟩, k3⟩, k4⟩ := k
   have k3 := Nat.eq_of_beq_eq_true k3
   have e1 := sN_cast n
   have e2 := dN_cast n
   have e6 : ((n : Int) - 1) / 4 = (((n - 1) / 4 : Nat) : Int) := by omega
   rw [moonOff_jul, first_jul, e6]
   generalize (n - 1) / 4 = q4 at *
   have e3 : sumE 0 n = sumJ n := by unfold sumE; rw [if_pos rfl]
   rw [e3]
   clear hb e3
   generalize sumJ n = s at *
   generalize dJ n = d at *
   generalize sN n = s' at *
   generalize dN n = d' at *
   by_cases hl : leapP 0 n
   · rw [if_pos hl]
     rw [leap_jul] at hl
     rw [if_pos (by omega)] at k3
     omega
   · rw [if_neg hl]
     rw [leap_jul] at hl
     rw [if_neg (by omega)] at k3
     omega
 · have k := all2_at allG (n := n) (by omega) (by have : (2 : Nat) ^ 12 = 4096 := rfl; omega)
   simp only [chkG, Bool.and_eq_true, Nat.ble_eq] at k
   obtain ⟨⟨⟨⟨k0, k1⟩, k2⟩, k3⟩, k4⟩ := k
   have k3 := Nat.eq_of_beq_eq_true k3
   have e1 := hN_cast n
   have e2 := lN_cast n
   have e4 := mN_cast n
   have e5 := mooN_cast n (by omega)
   have e6 : ((n : Int) - 1) / 4 = (((n - 1) / 4 : Nat) : Int) := by omega
   have e7 : ((n : Int) - 1) / 100 = (((n - 1) / 100 : Nat) : Int) := by omega
   have e8 : ((n : Int) - 1) / 400 = (((n - 1) / 400 : Nat) : Int) := by omega
   have e9 : (n - 1) / 100 ≤ (n - 1) / 4 := by omega
   rw [first_gre, e6, e7, e8]
   clear e6 e7 e8
   generalize (n - 1) / 4 = q4 at *
   generalize (n - 1) / 100 = q100 at *
   generalize (n - 1) / 400 = q400 at *
   have e3 : sumE 1 n = sumG n := by unfold sumE; rw [if_neg (by omega)]
   rw [e3]
   unfold sumG
   unfold tN at k1 k2 k3 k4
   clear hb e3
   generalize hG n = s at *
   generalize lG n = d at *
   generalize mG n = m at *
   generalize hN n = s' at *
   generalize lN n = d' at *
   generalize mN n = m' at *
   generalize moonOff 1 n = o at *
   generalize mooN n = o' at *
   by_cases hl : leapP 1 n
   · rw [if_pos hl]
     rw [leap_gre] at hl
     rw [if_pos (by omega)] at k3
     omega
   · rw [if_neg hl]
     rw [leap_gre] at hl
     rw [if_neg (by omega)] at k3
     omega
theorem easter_fact {c y : Int} (h : yearP c y) : 114 ≤ sumE c y ∧ sumE c y ≤ 148 ∧ moonOff c y + 1 ≤ sumE c y - 93 ∧ sumE c y - 93 ≤ moonOff c y + 7 ∧ (march c y + (sumE c y - 93)) % 7 = 0 :=
 easter_fact_at h.1 h.2.1 (by have := h.2.2; omega)
def easL (c y : Int) : Int := first c y + before c y (sumE c y / 31 - 1).toNat + (sumE c y % 31 + 1) - 1
theorem sum_month {c y : Int} (h : yearP c y) : dateP c y (sumE c y / 31) (sumE c y % 31 + 1) := by
 have k := easter_fact h
 have h3 := monthDays_plain (y := y) h.1 (m := 3) (by omega) (by omega) (by omega)
 have h4 := monthDays_plain (y := y) h.1 (m := 4) (by omega) (by omega) (by omega)
 have h3' : monthDays c y 3 = 31 := h3
 have h4' : monthDays c y 4 = 30 := h4
 refine ⟨h.1, h.2.1, h.2.2, by omega, ?_⟩
 by_cases hm : sumE c y / 31 = 3
 · rw [hm, h3']; omega
 · rw [show sumE c y / 31 = 4 by omega, h4']; omega
theorem easter_eq {c y : Int} (h : yearP c y) : easter c y = march c y + (sumE c y - 93) := by
 have k := easter_fact h
 unfold easter dayOf march
 rw [if_pos h, if_pos (sum_month h)]
 have hb := before_3 (y := y) h.1
 by_cases hm : sumE c y / 31 = 3
 · rw [hm, show ((3 : Int) - 1).toNat = 2 from rfl]
   omega
 · rw [show sumE c y / 31 = 4 by omega, show ((4 : Int) - 1).toNat = 3 from rfl, hb]
   omega
theorem march_b {c y : Int} (h : yearP c y) : 0 < march c y ∧ march c y ≤ 2000000 := by
 have hb := before_2 (y := y) h.1
 unfold march
 rw [hb]
 obtain ⟨hc, h1, h2⟩ := h
 rcases hc with rfl | rfl
 · rw [first_jul]
   split <;> omega
 · rw [first_gre]
   split <;> omega
abbrev dayV (q : Int × Int × Int × Int) : Value := .agg #[.int .i64 q.1, .int .i64 q.2.1, .int .i64 q.2.2.1, .int .i64 q.2.2.2]
theorem cand_is {c y m d : Int} {r : Rom} (h : isDay c y r m d) : 1 ≤ r.count ∧ r.count ≤ 19 ∧ 1 ≤ r.month ∧ r.month ≤ 12 ∧
    ((r.mark = 0 ∧ 1 < r.count ∧ m = monAhead r.month ∧ (d = monthDays c y (monAhead r.month) + 2 - r.count ∨ d = monthDays c y (monAhead r.month) + 2 - r.count - 1)) ∨ (¬ (r.mark = 0 ∧ 1 < r.count) ∧ m = r.month ∧ d = markN r.month r.mark + 1 - r.count)) := by
  obtain ⟨hd, rfl⟩ := h
  have hm := dateP_month hd
  have hdd := dateP_day hd
  have hn := nones_in hm.1 hm.2
  have hn7 := nones_b m
  have hi := ides_in hm.1 hm.2
  have hc := hd.1
  have hmd := hd.2.2.2.2
  have hmd31 := monthDays_le c y m
  unfold romanOf
  rw [if_pos hd]
  unfold romanIn
  by_cases h1 : d = 1
  · rw [if_pos h1]
    refine ⟨by show (1 : Int) ≤ 1; omega, by show (1 : Int) ≤ 19; omega, hm.1, hm.2, .inr ⟨fun h => by have : (1 : Int) < 1 := h.2; omega, rfl, ?_⟩⟩
    show d = markN m 0 + 1 - 1
    have : markN m 0 = 1 := rfl
    omega
  rw [if_neg h1]
  by_cases h2 : d ≤ nones m
  · rw [if_pos h2]
    refine ⟨by show 1 ≤ nones m - d + 1; omega, by show nones m - d + 1 ≤ 19; omega, hm.1, hm.2, .inr ⟨fun h => by have : (1 : Int) = 0 := h.1; omega, rfl, ?_⟩⟩
    show d = markN m 1 + 1 - (nones m - d + 1)
    have : markN m 1 = nones m := rfl
    omega
  rw [if_neg h2]
  by_cases h3 : d ≤ ides m
  · rw [if_pos h3]
    refine ⟨by show 1 ≤ ides m - d + 1; omega, by show ides m - d + 1 ≤ 19; omega, hm.1, hm.2, .inr ⟨fun h => by have : (2 : Int) = 0 := h.1; omega, rfl, ?_⟩⟩
    show d = markN m 2 + 1 - (ides m - d + 1)
    have : markN m 2 = ides m := rfl
    omega
  rw [if_neg h3]
  have hA : monAhead (m % 12 + 1) = m := by unfold monAhead; split <;> omega
  have hcd : countDays c y m d = monthDays c y m ∨ (countDays c y m d = monthDays c y m - 1 ∧ d ≤ 24) := by
   unfold countDays
   by_cases e : m = 2 ∧ d ≤ 24
   · rw [if_pos e]
     obtain ⟨rfl, h24⟩ := e
     by_cases hl : leapP c y
     · rw [monthDays_leap hc hl]
       exact .inr ⟨rfl, h24⟩
     · left
       have h1 : (1 : Int) ≤ 2 := by omega
       have h2 : (2 : Int) ≤ 12 := by omega
       exact (monthDays_plain (m := 2) hc h1 h2 (fun h => hl h.2)).symm
   · rw [if_neg e]
     exact .inl rfl
  have hge : monthDays c y m ≤ 31 := hmd31.2
  refine ⟨by show 1 ≤ countDays c y m d - d + 2; rcases hcd with h | ⟨h, h'⟩ <;> (have := monthDays_ge hc hm.1 hm.2 (y := y); omega), by show countDays c y m d - d + 2 ≤ 19; rcases hcd with h | ⟨h, h'⟩ <;> omega, by show 1 ≤ m % 12 + 1; omega, by show m % 12 + 1 ≤ 12; omega, .inl ⟨rfl, by show 1 < countDays c y m d - d + 2; rcases hcd with h | ⟨h, h'⟩ <;> (have := monthDays_ge hc hm.1 hm.2 (y := y); omega), hA.symm, ?_⟩⟩
  show d = monthDays c y (monAhead (m % 12 + 1)) + 2 - (countDays c y m d - d + 2) ∨ d = monthDays c y (monAhead (m % 12 + 1)) + 2 - (countDays c y m d - d + 2) - 1
  rw [hA]
  rcases hcd with h | ⟨h, h'⟩
  · left; omega
  · right; omega
structure DSt (w : World) (cn mk mo : Int) (tw : Bool) (c y m x : Int) (W : World) : Prop where
 below : Below w.heap.size w W
 rom : Blk W w.heap.size #[.int .i64 cn, .int .i64 mk, .int .i64 mo, .bool tw] 29
 res : Blk W (w.heap.size + 1) #[.int .i64 0, .int .i64 0, .int .i64 0, .int .i64 0] 99
 dat : Blk W (w.heap.size + 2) #[.int .i64 c, .int .i64 y, .int .i64 m, .int .i64 x] 99
theorem DSt.later {w : World} {cn mk mo : Int} {tw : Bool} {c y m x : Int} {W W' : World} (h : DSt w cn mk mo tw c y m x W) (hb : Below W.heap.size W W') : DSt w cn mk mo tw c y m x W' :=
 ⟨h.below.trans (hb.mono h.below.size), h.rom.below hb h.rom.lt, h.res.below hb h.res.lt, h.dat.below hb h.dat.lt⟩
theorem DSt.month {w : World} {cn mk mo : Int} {tw : Bool} {c y m x : Int} {W : World} (h : DSt w cn mk mo tw c y m x W) (m' : Int) : DSt w cn mk mo tw c y m' x (W.setCell ⟨w.heap.size + 2, 2, none⟩ (.int .i64 m')) :=
 ⟨h.below.setCell (p := ⟨w.heap.size + 2, 2, none⟩) (show w.heap.size ≤ w.heap.size + 2 by omega) _, h.rom.other (by omega), h.res.other (by omega), h.dat.set 2 _⟩
theorem DSt.day {w : World} {cn mk mo : Int} {tw : Bool} {c y m x : Int} {W : World} (h : DSt w cn mk mo tw c y m x W) (x' : Int) : DSt w cn mk mo tw c y m x' (W.setCell ⟨w.heap.size + 2, 3, none⟩ (.int .i64 x')) :=
 ⟨h.below.setCell (p := ⟨w.heap.size + 2, 3, none⟩) (show w.heap.size ≤ w.heap.size + 2 by omega) _, h.rom.other (by omega), h.res.other (by omega), h.dat.set 3 _⟩
set_option maxRecDepth 100000 in
set_option maxHeartbeats 4000000 in
theorem implDayOfRoman (c y : Int) (r : Rom) (w : World) (hT : Tab w) : CR 262 #[.int .i64 c, .int .i64 y, romV r] w (dayV (dayOfRoman c y r)) := by
 obtain ⟨cn, mk, mo, tw⟩ := r
 obtain ⟨W0, hW0, hD, hR, hBl⟩ := two_box w #[.int .i64 cn, .int .i64 mk, .int .i64 mo, .bool tw] #[.int .i64 0, .int .i64 0, .int .i64 0, .int .i64 0] 29 99
 have hsz : W0.heap.size = w.heap.size + 2 := by rw [hW0, box_size, box_size]
 have KD : ∀ W, Calls Tryz.prog 164 #[.int .i64 mo, .int .i64 mk] W fun e w' => e = .returned (.int .i64 (markN mo mk)) ∧ w' = W := implMarkDay mo mk
 have hmb := markN_b mo mk
 have HW0 := hideP hW0
 have HBl := hideP hBl
 have HR := hideP hR
 have HD := hideP hD
 have HT := hideP hT
 clear hW0 hBl hD hR hT
 have HL : Hid (∀ X o, X = W0.drew ∨ X = W0.drew.alloc o → ∃ x : Later W0, X = x.w) := by
  rintro X o (rfl | rfl)
  · exact ⟨⟨_, (Below.refl _ _).drew⟩, rfl⟩
  · exact ⟨⟨_, (Below.refl W0.heap.size W0).drew.alloc (Nat.le_refl _) _⟩, rfl⟩
 generalize hmk : markN mo mk = st at *
 have HMK := hideP hmk
 clear hmk
 go_enter Tryz.func262, Tryz.ntmps262
 go_wp2_with fail
 rw [← HW0.out]
 refine wp_region_any (by kernel_rfl) ?_
 change wpAny _ _ _ _ (1 + (14 + 1)) _ _ W0.drew
 refine any_alloc 14 1 7 (W1 := W0.drew.alloc (dateO 0 0 0 0)) (p := .pointer (some ⟨w.heap.size + 2, 0, none⟩)) (A := ?A) (by decide) rfl rfl rfl (by kernel_rfl) (by kernel_rfl) (by kernel_rfl) (by kernel_rfl) ?al ?q ?rest
 case q =>
  intro X hX
  obtain ⟨x0, hx0⟩ := HL.out X _ hX
  have k0 : ∀ x : Only X, x.w.cell? ⟨w.heap.size, 0, none⟩ = some (.int .i64 cn) := Only.at (by rw [hx0]; exact (HD.out x0).cell 0 rfl)
  have k1 : ∀ x : Only X, x.w.cell? ⟨w.heap.size, 1, none⟩ = some (.int .i64 mk) := Only.at (by rw [hx0]; exact (HD.out x0).cell 1 rfl)
  have k2 : ∀ x : Only X, x.w.cell? ⟨w.heap.size, 2, none⟩ = some (.int .i64 mo) := Only.at (by rw [hx0]; exact (HD.out x0).cell 2 rfl)
  have k3 : ∀ x : Only X, x.w.cell? ⟨w.heap.size, 3, none⟩ = some (.bool tw) := Only.at (by rw [hx0]; exact (HD.out x0).cell 3 rfl)
  clear hX hx0
  simp only [List.take_succ_cons, List.take_zero]
  repeat (go_big_quiet_step (first | (go_at_call 164; exact calls_only (KD _))))
  refine wpQuiet_nil ?_
  rfl
 case al =>
  intro a K h
  refine wpOp_step rfl ?_
  intro K' hK
  go_simp
  exact hK _ _ h
 case rest =>
  refine wpAny_ready (rs := [15]) (by kernel_rfl) (by simp) ?_
  refine AllReady.cons rfl (fun K hK => ?_) AllReady.nil
  go_simp
  refine hK _ _ ?_
  clear hK K
  refine wpAny_done (by kernel_rfl) ?_ _
  obtain ⟨d0, hd0⟩ : ∃ d0, d0 = wrap64 (st + 1 - cn) := ⟨_, rfl⟩
  rw [← hd0]
  obtain ⟨W2, hW2⟩ : ∃ W2, W2 = (W0.alloc (dateO c y mo d0)).drew := ⟨_, rfl⟩
  have S2 : Hid (DSt w cn mk mo tw c y mo d0 W2) := by
   rw [hW2]
   obtain ⟨x, hx⟩ := HL.out _ (dateO c y mo d0) (.inr rfl)
   have hx' : (W0.alloc (dateO c y mo d0)).drew = x.w := hx
   refine ⟨by rw [hx']; exact HBl.out x, by rw [hx']; exact HD.out x, by rw [hx']; exact HR.out x, ?_⟩
   have h := Blk.new W0 #[.int .i64 c, .int .i64 y, .int .i64 mo, .int .i64 d0] 99
   rw [hsz] at h
   exact h.drew
  rw [← hW2]
  clear hW2 HL HR HD HBl HW0 KD hmb
  have hst := markN_b mo mk
  rw [HMK.out] at hst
  have hst := markN_b mo mk
  rw [HMK.out] at hst
  by_cases hmk : mk = 0 ∧ 1 < cn
  · obtain ⟨rfl, hcn⟩ := hmk
    have hst1 : st = 1 := HMK.out.symm
    have g1 : decide (1 < cn) = true := decide_eq_true hcn
    have u0 := S2.out.rom.cell 0 rfl
    have u1 := S2.out.rom.cell 1 rfl
    have u2 := S2.out.rom.cell 2 rfl
    have v2 := S2.out.dat.cell 2 rfl
    have t2 := S2.out.dat.thaw 2
    have KA := implMonthAhead mo
    have hmd := monthDays_le c y (monAheadW mo)
    obtain ⟨x0, hx0⟩ : ∃ x0, x0 = wrap64 (d0 + monthDays c y (monAheadW mo)) := ⟨_, rfl⟩
    have HQ : Hid (∀ m d, isDay c y ⟨cn, 0, mo, tw⟩ m d → m = monAheadW mo ∧ (d = x0 ∨ d = wrap64 (x0 - 1))) := fun m d h => by
     have hdd := dateP_day h.1
     obtain ⟨c1, c2, c3, c4, h5⟩ := cand_is h
     have c1' : 1 ≤ cn := c1
     have c2' : cn ≤ 19 := c2
     have c3' : 1 ≤ mo := c3
     have c4' : mo ≤ 12 := c4
     have hA : monAheadW mo = monAhead mo := by
      unfold monAheadW monAhead
      split
      · rfl
      · unfold wrap64; omega
     rw [hA] at hx0 hmd ⊢
     rcases h5 with ⟨_, _, hm, hd⟩ | ⟨hn, _⟩
     · refine ⟨hm, ?_⟩
       have hd' : d = monthDays c y (monAhead mo) + 2 - cn ∨ d = monthDays c y (monAhead mo) + 2 - cn - 1 := hd
       have e0 : d0 = 2 - cn := by rw [hd0, hst1]; unfold wrap64; omega
       have ex : x0 = monthDays c y (monAhead mo) + 2 - cn := by rw [hx0, e0]; unfold wrap64; omega
       rcases hd' with e | e
       · left; omega
       · right; rw [ex]; unfold wrap64; omega
     · exact absurd ⟨rfl, hcn⟩ hn
    have HX0 := hideP hx0
    clear hd0 hx0 HMK hst hst1
    generalize hma : monAheadW mo = ma at *
    clear hma
    have KM : ∀ W, Tab W → CR 180 #[.int .i64 c, .int .i64 y, .int .i64 ma] W (.int .i64 (monthDays c y ma)) := fun W h => implMonthDays c y ma W h
    generalize monthDays c y ma = md at *
    go_wp2_with fail
    refine (KA _).mono ?_
    rintro e w3 ⟨rfl, hw3⟩
    rw [hw3]
    clear hw3 w3
    go_wp2_with fail
    have S3 := hideP (S2.out.month ma)
    generalize W2.setCell ⟨w.heap.size + 2, 2, none⟩ (.int .i64 ma) = W3 at *
    have p2 : ∀ z : Later W3, z.w.cell? ⟨w.heap.size + 2, 2, none⟩ = some (.int .i64 ma) := fun z => (S3.out.later z.below).dat.cell 2 rfl
    have p3 : ∀ z : Later W3, z.w.cell? ⟨w.heap.size + 2, 3, none⟩ = some (.int .i64 d0) := fun z => (S3.out.later z.below).dat.cell 3 rfl
    have KM' : ∀ z : Later W3, CR 180 #[.int .i64 c, .int .i64 y, .int .i64 ma] z.w (.int .i64 md) := fun z => KM z.w (HT.out.later (S3.out.later z.below).below)
    clear S2 u0 u1 u2 v2 t2 KM KA
    obtain ⟨xd, hxd⟩ : ∃ xd : Later W3, W3.drew = xd.w := ⟨⟨W3.drew, (Below.refl _ _).drew⟩, rfl⟩
    refine wp_region_any (by kernel_rfl) ?_
    change wpAny _ _ _ _ (1 + 9) _ _ _
    refine any_prefixA (C := fun w' => ∃ x : Later W3, w' = x.w) 9 1 (by decide) (by kernel_rfl) (by kernel_rfl) (by kernel_rfl) (by kernel_rfl) ⟨xd, hxd⟩ ?_
    simp only [List.take_succ_cons, List.take_zero]
    clear hxd xd
    repeat (go_big_quiet_step (first | (go_at_call 180; exact calls_later (KM' _))))
    refine wpQuiet_nil ?_
    intro _ hw'
    obtain ⟨x4, rfl⟩ := hw'
    have s3 := p3 x4
    have f3 := (S3.out.later x4.below).dat.thaw 3
    refine wpAny_ready (rs := [9]) (by kernel_rfl) (by simp) ?_
    refine AllReady.cons rfl (fun K hK => ?_) AllReady.nil
    go_simp
    refine hK _ _ ?_
    clear hK K
    refine wpAny_done (by kernel_rfl) ?_ _
    rw [← HX0.out]
    have SL := hideP ((S3.out.later x4.below).day x0)
    generalize x4.w.setCell ⟨w.heap.size + 2, 3, none⟩ (.int .i64 x0) = WL at *
    clear S3 p2 p3 KM' s3 f3 HX0 hmd
    go_wp2_with fail
    go_loopw [43] (fun i wr => ∃ (k : Nat) (x : Int), k ≤ 2 ∧ i = .int .i64 (k : Int) ∧ DSt w cn 0 mo tw c y ma x wr ∧ Hid ((k = 0 ∧ x = x0) ∨ (k = 1 ∧ x = wrap64 (x0 - 1) ∧ ¬ isDay c y ⟨cn, 0, mo, tw⟩ ma x0) ∨ (k = 2 ∧ ¬ isDay c y ⟨cn, 0, mo, tw⟩ ma x0 ∧ ¬ isDay c y ⟨cn, 0, mo, tw⟩ ma (wrap64 (x0 - 1))))) (fun i _ => 2 - (intOf i).toNat)
    case atStart => exact ⟨0, x0, by omega, rfl, SL.out, .inl ⟨rfl, rfl⟩⟩
    case round =>
     obtain ⟨k, x, hk, rfl, hS, HK⟩ := hrel
     have S := hideP hS
     clear hS SL
     by_cases hlt : k < 2
     · have hno : ∀ h : ¬ isDay c y ⟨cn, 0, mo, tw⟩ ma x, Hid ((k + 1 = 0 ∧ wrap64 (x - 1) = x0) ∨ (k + 1 = 1 ∧ wrap64 (x - 1) = wrap64 (x0 - 1) ∧ ¬ isDay c y ⟨cn, 0, mo, tw⟩ ma x0) ∨ (k + 1 = 2 ∧ ¬ isDay c y ⟨cn, 0, mo, tw⟩ ma x0 ∧ ¬ isDay c y ⟨cn, 0, mo, tw⟩ ma (wrap64 (x0 - 1)))) := fun h => by
        rcases HK.out with ⟨rfl, rfl⟩ | ⟨rfl, rfl, h0⟩ | ⟨rfl, _⟩
        · exact .inr (.inl ⟨rfl, rfl, h⟩)
        · exact .inr (.inr ⟨rfl, h0, h⟩)
        · omega
       have HNO := hideP hno
       clear hno HK HQ
       have u0 : ∀ z : Later wr, z.w.cell? ⟨w.heap.size, 0, none⟩ = some (.int .i64 cn) := fun z => (S.out.later z.below).rom.cell 0 rfl
       have u1 : ∀ z : Later wr, z.w.cell? ⟨w.heap.size, 1, none⟩ = some (.int .i64 0) := fun z => (S.out.later z.below).rom.cell 1 rfl
       have u2 : ∀ z : Later wr, z.w.cell? ⟨w.heap.size, 2, none⟩ = some (.int .i64 mo) := fun z => (S.out.later z.below).rom.cell 2 rfl
       have u3 : ∀ z : Later wr, z.w.cell? ⟨w.heap.size, 3, none⟩ = some (.bool tw) := fun z => (S.out.later z.below).rom.cell 3 rfl
       have v0 : ∀ z : Later wr, z.w.cell? ⟨w.heap.size + 2, 0, none⟩ = some (.int .i64 c) := fun z => (S.out.later z.below).dat.cell 0 rfl
       have v1 : ∀ z : Later wr, z.w.cell? ⟨w.heap.size + 2, 1, none⟩ = some (.int .i64 y) := fun z => (S.out.later z.below).dat.cell 1 rfl
       have v2 : ∀ z : Later wr, z.w.cell? ⟨w.heap.size + 2, 2, none⟩ = some (.int .i64 ma) := fun z => (S.out.later z.below).dat.cell 2 rfl
       have v3 : ∀ z : Later wr, z.w.cell? ⟨w.heap.size + 2, 3, none⟩ = some (.int .i64 x) := fun z => (S.out.later z.below).dat.cell 3 rfl
       have KO : ∀ z : Later wr, CR 163 #[.agg #[.int .i64 c, .int .i64 y, .int .i64 ma, .int .i64 x]] z.w (.bool (dateOk c y ma x)) := fun z => implDateOk c y ma x z.w (HT.out.later (S.out.later z.below).below)
       have KR : ∀ z : Later wr, CR 129 #[.agg #[.int .i64 c, .int .i64 y, .int .i64 ma, .int .i64 x]] z.w (romV (romanOf c y ma x)) := fun z => implRomanOf c y ma x z.w (HT.out.later (S.out.later z.below).below)
       by_cases hok : dateP c y ma x
       case neg =>
        have HN := hideP (HNO.out (fun h => hok h.1)).out
        rw [dateOk_false hok] at KO
        clear hok KR HNO
        go_wp2_with fail
        refine wp_region_later (W := wr) (Below.refl _ _) (by kernel_rfl) (by kernel_rfl) ?_
        repeat (go_big_quiet_step (first | (go_at_call 163; exact calls_later (KO _)) | (go_at_call 129; exact calls_later (KR _))))
        refine wpQuiet_nil ?_
        intro _ hw'
        obtain ⟨x5, rfl⟩ := hw'
        have s3 := v3 x5
        have f3 := (S.out.later x5.below).dat.thaw 3
        go_wp2
        exact ⟨⟨k + 1, wrap64 (x - 1), by omega, by go_num, (S.out.later x5.below).day _, HN.out⟩, by simp [intOf]; omega⟩
       rw [dateOk_true hok] at KO
       by_cases hr : romanOf c y ma x = ⟨cn, 0, mo, tw⟩
       · have HV := hideP (romDay_yes (show isDay c y ⟨cn, 0, mo, tw⟩ ma x from ⟨hok, hr⟩))
         rw [hr] at KR
         clear hok hr HNO
         go_wp2_with fail
         refine wp_region_later (W := wr) (Below.refl _ _) (by kernel_rfl) (by kernel_rfl) ?_
         repeat (go_big_quiet_step (first | (go_at_call 163; exact calls_later (KO _)) | (go_at_call 129; exact calls_later (KR _))))
         refine wpQuiet_nil ?_
         intro _ hw'
         obtain ⟨x5, rfl⟩ := hw'
         have s0 := v0 x5
         have s1 := v1 x5
         have s2 := v2 x5
         have s3 := v3 x5
         have q0 := (S.out.later x5.below).res.cell 0 rfl
         have q1 := (S.out.later x5.below).res.cell 1 rfl
         have q2 := (S.out.later x5.below).res.cell 2 rfl
         have q3 := (S.out.later x5.below).res.cell 3 rfl
         have f0 := (S.out.later x5.below).res.thaw 0
         have f1 := (S.out.later x5.below).res.thaw 1
         have f2 := (S.out.later x5.below).res.thaw 2
         have f3 := (S.out.later x5.below).res.thaw 3
         go_wp2_with fail
         rw [put4_eq]
         have Z := put4_blk (v0 := .int .i64 c) (v1 := .int .i64 y) (v2 := .int .i64 ma) (v3 := .int .i64 x) (S.out.later x5.below).res
         have z0 := Z.cell 0 rfl
         have z1 := Z.cell 1 rfl
         have z2 := Z.cell 2 rfl
         have z3 := Z.cell 3 rfl
         exact bodyPost_ret (by simp [results, Tryz.results262, go_sem, z0, z1, z2, z3]; try rfl) rfl ⟨by rw [HV.out], put4_below (S.out.later x5.below).below (by omega)⟩
       have HN := hideP (HNO.out (fun h => hr h.2)).out
       generalize romanOf c y ma x = ro at *
       obtain ⟨a0, a1, a2, a3⟩ := ro
       have hne : (a0 == cn) = false ∨ (a1 == 0) = false ∨ (a2 == mo) = false ∨ (a3 == tw) = false := by
        by_cases e0 : a0 = cn
        · by_cases e1 : a1 = 0
          · by_cases e2 : a2 = mo
            · by_cases e3 : a3 = tw
              · exact absurd (by rw [e0, e1, e2, e3]) hr
              · exact .inr (.inr (.inr (by simp [e3])))
            · exact .inr (.inr (.inl (by simp [e2])))
          · exact .inr (.inl (by simp [e1]))
        · exact .inl (by simp [e0])
       clear hr hok HNO
       rcases hne with he | he | he | he
       all_goals
        skip
        go_wp2_with fail
        refine wp_region_later (W := wr) (Below.refl _ _) (by kernel_rfl) (by kernel_rfl) ?_
        repeat (go_big_quiet_step (first | (go_at_call 163; exact calls_later (KO _)) | (go_at_call 129; exact calls_later (KR _))))
        refine wpQuiet_nil ?_
        intro _ hw'
        obtain ⟨x5, rfl⟩ := hw'
        have s3 := v3 x5
        have f3 := (S.out.later x5.below).dat.thaw 3
        go_wp2
        exact ⟨⟨k + 1, wrap64 (x - 1), by omega, by go_num, (S.out.later x5.below).day _, HN.out⟩, by simp [intOf]; omega⟩
     · have hk2 : k = 2 := by omega
       subst hk2
       have HV : Hid (dayOfRoman c y ⟨cn, 0, mo, tw⟩ = (0, 0, 0, 0)) := romDay_no fun m d h => by
        obtain ⟨rfl, hd⟩ := HQ.out m d h
        rcases HK.out with ⟨h0, _⟩ | ⟨h0, _⟩ | ⟨_, h1, h2⟩
        · omega
        · omega
        · rcases hd with rfl | rfl
          · exact h1 h
          · exact h2 h
       clear HK HQ
       have q0 := S.out.res.cell 0 rfl
       have q1 := S.out.res.cell 1 rfl
       have q2 := S.out.res.cell 2 rfl
       have q3 := S.out.res.cell 3 rfl
       have f0 := S.out.res.thaw 0
       have f1 := S.out.res.thaw 1
       have f2 := S.out.res.thaw 2
       have f3 := S.out.res.thaw 3
       go_wp2_with fail
       rw [put4_eq]
       have Z := put4_blk (v0 := .int .i64 0) (v1 := .int .i64 0) (v2 := .int .i64 0) (v3 := .int .i64 0) S.out.res
       have z0 := Z.cell 0 rfl
       have z1 := Z.cell 1 rfl
       have z2 := Z.cell 2 rfl
       have z3 := Z.cell 3 rfl
       exact bodyPost_ret (by simp [results, Tryz.results262, go_sem, z0, z1, z2, z3]; try rfl) rfl ⟨by rw [HV.out], put4_below S.out.below (by omega)⟩
  · have HQ : Hid (∀ m d, isDay c y ⟨cn, mk, mo, tw⟩ m d → m = mo ∧ (d = d0 ∨ d = wrap64 (d0 - 1))) := fun m d h => by
     have hdd := dateP_day h.1
     obtain ⟨c1, c2, c3, c4, h5⟩ := cand_is h
     have c1' : 1 ≤ cn := c1
     have c2' : cn ≤ 19 := c2
     rcases h5 with ⟨h0, h1, _⟩ | ⟨_, hm, hd⟩
     · exact absurd ⟨h0, h1⟩ hmk
     · refine ⟨hm, .inl ?_⟩
       have hd' : d = markN mo mk + 1 - cn := hd
       rw [HMK.out] at hd'
       rw [hd0]
       unfold wrap64
       omega
    clear hd0 HMK hst
    have SL := hideP S2.out
    have u0 := S2.out.rom.cell 0 rfl
    have u1 := S2.out.rom.cell 1 rfl
    clear S2
    by_cases h0 : mk = 0
    focus
      have e0 : (mk == 0) = true := by simp [h0]
      have g1 : decide (1 < cn) = false := decide_eq_false (fun h => hmk ⟨h0, h⟩)
    rotate_left
    focus
      have e0 : (mk == 0) = false := by simp [h0]
    rotate_left
    all_goals
     clear h0 hmk
     go_wp2_with fail
     go_loopw [43] (fun i wr => ∃ (k : Nat) (x : Int), k ≤ 2 ∧ i = .int .i64 (k : Int) ∧ DSt w cn mk mo tw c y mo x wr ∧ Hid ((k = 0 ∧ x = d0) ∨ (k = 1 ∧ x = wrap64 (d0 - 1) ∧ ¬ isDay c y ⟨cn, mk, mo, tw⟩ mo d0) ∨ (k = 2 ∧ ¬ isDay c y ⟨cn, mk, mo, tw⟩ mo d0 ∧ ¬ isDay c y ⟨cn, mk, mo, tw⟩ mo (wrap64 (d0 - 1))))) (fun i _ => 2 - (intOf i).toNat)
     case atStart => exact ⟨0, d0, by omega, rfl, SL.out, .inl ⟨rfl, rfl⟩⟩
     case round =>
      obtain ⟨k, x, hk, rfl, hS, HK⟩ := hrel
      have S := hideP hS
      clear hS SL
      by_cases hlt : k < 2
      · have hno : ∀ h : ¬ isDay c y ⟨cn, mk, mo, tw⟩ mo x, Hid ((k + 1 = 0 ∧ wrap64 (x - 1) = d0) ∨ (k + 1 = 1 ∧ wrap64 (x - 1) = wrap64 (d0 - 1) ∧ ¬ isDay c y ⟨cn, mk, mo, tw⟩ mo d0) ∨ (k + 1 = 2 ∧ ¬ isDay c y ⟨cn, mk, mo, tw⟩ mo d0 ∧ ¬ isDay c y ⟨cn, mk, mo, tw⟩ mo (wrap64 (d0 - 1)))) := fun h => by
         rcases HK.out with ⟨rfl, rfl⟩ | ⟨rfl, rfl, h0⟩ | ⟨rfl, _⟩
         · exact .inr (.inl ⟨rfl, rfl, h⟩)
         · exact .inr (.inr ⟨rfl, h0, h⟩)
         · omega
        have HNO := hideP hno
        clear hno HK HQ
        have u0 : ∀ z : Later wr, z.w.cell? ⟨w.heap.size, 0, none⟩ = some (.int .i64 cn) := fun z => (S.out.later z.below).rom.cell 0 rfl
        have u1 : ∀ z : Later wr, z.w.cell? ⟨w.heap.size, 1, none⟩ = some (.int .i64 mk) := fun z => (S.out.later z.below).rom.cell 1 rfl
        have u2 : ∀ z : Later wr, z.w.cell? ⟨w.heap.size, 2, none⟩ = some (.int .i64 mo) := fun z => (S.out.later z.below).rom.cell 2 rfl
        have u3 : ∀ z : Later wr, z.w.cell? ⟨w.heap.size, 3, none⟩ = some (.bool tw) := fun z => (S.out.later z.below).rom.cell 3 rfl
        have v0 : ∀ z : Later wr, z.w.cell? ⟨w.heap.size + 2, 0, none⟩ = some (.int .i64 c) := fun z => (S.out.later z.below).dat.cell 0 rfl
        have v1 : ∀ z : Later wr, z.w.cell? ⟨w.heap.size + 2, 1, none⟩ = some (.int .i64 y) := fun z => (S.out.later z.below).dat.cell 1 rfl
        have v2 : ∀ z : Later wr, z.w.cell? ⟨w.heap.size + 2, 2, none⟩ = some (.int .i64 mo) := fun z => (S.out.later z.below).dat.cell 2 rfl
        have v3 : ∀ z : Later wr, z.w.cell? ⟨w.heap.size + 2, 3, none⟩ = some (.int .i64 x) := fun z => (S.out.later z.below).dat.cell 3 rfl
        have KO : ∀ z : Later wr, CR 163 #[.agg #[.int .i64 c, .int .i64 y, .int .i64 mo, .int .i64 x]] z.w (.bool (dateOk c y mo x)) := fun z => implDateOk c y mo x z.w (HT.out.later (S.out.later z.below).below)
        have KR : ∀ z : Later wr, CR 129 #[.agg #[.int .i64 c, .int .i64 y, .int .i64 mo, .int .i64 x]] z.w (romV (romanOf c y mo x)) := fun z => implRomanOf c y mo x z.w (HT.out.later (S.out.later z.below).below)
        by_cases hok : dateP c y mo x
        case neg =>
         have HN := hideP (HNO.out (fun h => hok h.1)).out
         rw [dateOk_false hok] at KO
         clear hok KR HNO
         go_wp2_with fail
         refine wp_region_later (W := wr) (Below.refl _ _) (by kernel_rfl) (by kernel_rfl) ?_
         repeat (go_big_quiet_step (first | (go_at_call 163; exact calls_later (KO _)) | (go_at_call 129; exact calls_later (KR _))))
         refine wpQuiet_nil ?_
         intro _ hw'
         obtain ⟨x5, rfl⟩ := hw'
         have s3 := v3 x5
         have f3 := (S.out.later x5.below).dat.thaw 3
         go_wp2
         exact ⟨⟨k + 1, wrap64 (x - 1), by omega, by go_num, (S.out.later x5.below).day _, HN.out⟩, by simp [intOf]; omega⟩
        rw [dateOk_true hok] at KO
        by_cases hr : romanOf c y mo x = ⟨cn, mk, mo, tw⟩
        · have HV := hideP (romDay_yes (show isDay c y ⟨cn, mk, mo, tw⟩ mo x from ⟨hok, hr⟩))
          rw [hr] at KR
          clear hok hr HNO
          go_wp2_with fail
          refine wp_region_later (W := wr) (Below.refl _ _) (by kernel_rfl) (by kernel_rfl) ?_
          repeat (go_big_quiet_step (first | (go_at_call 163; exact calls_later (KO _)) | (go_at_call 129; exact calls_later (KR _))))
          refine wpQuiet_nil ?_
          intro _ hw'
          obtain ⟨x5, rfl⟩ := hw'
          have s0 := v0 x5
          have s1 := v1 x5
          have s2 := v2 x5
          have s3 := v3 x5
          have q0 := (S.out.later x5.below).res.cell 0 rfl
          have q1 := (S.out.later x5.below).res.cell 1 rfl
          have q2 := (S.out.later x5.below).res.cell 2 rfl
          have q3 := (S.out.later x5.below).res.cell 3 rfl
          have f0 := (S.out.later x5.below).res.thaw 0
          have f1 := (S.out.later x5.below).res.thaw 1
          have f2 := (S.out.later x5.below).res.thaw 2
          have f3 := (S.out.later x5.below).res.thaw 3
          go_wp2_with fail
          rw [put4_eq]
          have Z := put4_blk (v0 := .int .i64 c) (v1 := .int .i64 y) (v2 := .int .i64 mo) (v3 := .int .i64 x) (S.out.later x5.below).res
          have z0 := Z.cell 0 rfl
          have z1 := Z.cell 1 rfl
          have z2 := Z.cell 2 rfl
          have z3 := Z.cell 3 rfl
          exact bodyPost_ret (by simp [results, Tryz.results262, go_sem, z0, z1, z2, z3]; try rfl) rfl ⟨by rw [HV.out], put4_below (S.out.later x5.below).below (by omega)⟩
        have HN := hideP (HNO.out (fun h => hr h.2)).out
        generalize romanOf c y mo x = ro at *
        obtain ⟨a0, a1, a2, a3⟩ := ro
        have hne : (a0 == cn) = false ∨ (a1 == mk) = false ∨ (a2 == mo) = false ∨ (a3 == tw) = false := by
         by_cases e0 : a0 = cn
         · by_cases e1 : a1 = mk
           · by_cases e2 : a2 = mo
             · by_cases e3 : a3 = tw
               · exact absurd (by rw [e0, e1, e2, e3]) hr
               · exact .inr (.inr (.inr (by simp [e3])))
             · exact .inr (.inr (.inl (by simp [e2])))
           · exact .inr (.inl (by simp [e1]))
         · exact .inl (by simp [e0])
        clear hr hok HNO
        rcases hne with he | he | he | he
        all_goals
         skip
         go_wp2_with fail
         refine wp_region_later (W := wr) (Below.refl _ _) (by kernel_rfl) (by kernel_rfl) ?_
         repeat (go_big_quiet_step (first | (go_at_call 163; exact calls_later (KO _)) | (go_at_call 129; exact calls_later (KR _))))
         refine wpQuiet_nil ?_
         intro _ hw'
         obtain ⟨x5, rfl⟩ := hw'
         have s3 := v3 x5
         have f3 := (S.out.later x5.below).dat.thaw 3
         go_wp2
         exact ⟨⟨k + 1, wrap64 (x - 1), by omega, by go_num, (S.out.later x5.below).day _, HN.out⟩, by simp [intOf]; omega⟩
      · have hk2 : k = 2 := by omega
        subst hk2
        have HV : Hid (dayOfRoman c y ⟨cn, mk, mo, tw⟩ = (0, 0, 0, 0)) := romDay_no fun m d h => by
         obtain ⟨rfl, hd⟩ := HQ.out m d h
         rcases HK.out with ⟨h0, _⟩ | ⟨h0, _⟩ | ⟨_, h1, h2⟩
         · omega
         · omega
         · rcases hd with rfl | rfl
           · exact h1 h
           · exact h2 h
        clear HK HQ
        have q0 := S.out.res.cell 0 rfl
        have q1 := S.out.res.cell 1 rfl
        have q2 := S.out.res.cell 2 rfl
        have q3 := S.out.res.cell 3 rfl
        have f0 := S.out.res.thaw 0
        have f1 := S.out.res.thaw 1
        have f2 := S.out.res.thaw 2
        have f3 := S.out.res.thaw 3
        go_wp2_with fail
        rw [put4_eq]
        have Z := put4_blk (v0 := .int .i64 0) (v1 := .int .i64 0) (v2 := .int .i64 0) (v3 := .int .i64 0) S.out.res
        have z0 := Z.cell 0 rfl
        have z1 := Z.cell 1 rfl
        have z2 := Z.cell 2 rfl
        have z3 := Z.cell 3 rfl
        exact bodyPost_ret (by simp [results, Tryz.results262, go_sem, z0, z1, z2, z3]; try rfl) rfl ⟨by rw [HV.out], put4_below S.out.below (by omega)⟩
def feaOk (s : ByteArray) (mv : Bool) (o m d : Int) : Bool := nameOk s && (if mv = true then inB o (-63) 63 && decide (m = 0) && decide (d = 0) else decide (o = 0) && inB d 1 (monthDays 1 1999 m))
def feaDay (c y : Int) (s : ByteArray) (mv : Bool) (o m d : Int) : Int := if feaOk s mv o m d = true ∧ yearP c y then (if mv = true then easter c y + o else dayOf c y m d) else 0
def Fea.ok (f : Fea) : Bool := feaOk f.name f.mv f.off f.m f.d
def Fea.day (f : Fea) (c y : Int) : Int := feaDay c y f.name f.mv f.off f.m f.d
theorem inB_iff {x a b : Int} : inB x a b = true ↔ a ≤ x ∧ x ≤ b := by simp [inB]
theorem days1 (m : Int) : monthDays 1 1999 m = monthDays 1 1 m := by
 by_cases h : 1 ≤ m ∧ m ≤ 12
 · rw [monthDays_plain (.inr rfl) h.1 h.2 (by rw [leap_gre]; omega), monthDays_plain (.inr rfl) h.1 h.2 (by rw [leap_gre]; omega)]
 · rw [monthDays_no (fun k => h k.2), monthDays_no (fun k => h k.2)]
theorem days_le {c : Int} (hc : c = 0 ∨ c = 1) (y m : Int) : monthDays 1 1999 m ≤ monthDays c y m := by
 by_cases h : 1 ≤ m ∧ m ≤ 12
 · rw [monthDays_plain (.inr rfl) h.1 h.2 (by rw [leap_gre]; omega)]
   by_cases hl : m = 2 ∧ leapP c y
   · rw [hl.1, monthDays_leap hc hl.2]
     decide
   · rw [monthDays_plain hc h.1 h.2 hl]
     omega
 · rw [monthDays_no (fun k => h k.2), monthDays_no (fun k => h k.2)]
   omega
theorem fixed_date {c y m d : Int} (hy : yearP c y) (h : inB d 1 (monthDays 1 1999 m) = true) : dateP c y m d := by
 have h1 := inB_iff.1 h
 have := days_le hy.1 y m
 exact ⟨hy.1, hy.2.1, hy.2.2, h1.1, by omega⟩
theorem fixed_day {c y m d : Int} (hy : yearP c y) (h : inB d 1 (monthDays 1 1999 m) = true) : dayOf c y m d = first c y + before c y (m - 1).toNat + d - 1 := by
 unfold dayOf
 rw [if_pos (fixed_date hy h)]
theorem easter_near {c y : Int} (h : yearP c y) : 0 < easter c y ∧ easter c y ≤ 3000000 := by
 have h1 := easter_fact h
 have h2 := march_b h
 rw [easter_eq h]
 omega
theorem feaDay_b (c y : Int) (s : ByteArray) (mv : Bool) (o m d : Int) : -3000 ≤ feaDay c y s mv o m d ∧ feaDay c y s mv o m d ≤ 3001000 := by
 unfold feaDay
 split
 · rename_i h
   cases mv
   · rw [if_neg (by decide)]
     have := dayOf_bound c y m d
     omega
   · rw [if_pos rfl]
     have h1 := easter_near h.2
     have h2 : inB o (-63) 63 = true := by
      have := h.1
      simp [feaOk] at this
      exact this.2.1.1
     have := inB_iff.1 h2
     omega
 · omega
theorem Fea.day_b (f : Fea) (c y : Int) : -3000 ≤ f.day c y ∧ f.day c y ≤ 3001000 := feaDay_b ..
theorem feaDay_no {c y : Int} {s : ByteArray} {mv : Bool} {o m d : Int} (h : feaOk s mv o m d = false) : feaDay c y s mv o m d = 0 := by
 unfold feaDay
 rw [if_neg (by rw [h]; simp)]
theorem feaDay_noYear {c y : Int} {s : ByteArray} {mv : Bool} {o m d : Int} (h : ¬ yearP c y) : feaDay c y s mv o m d = 0 := by
 unfold feaDay
 rw [if_neg (fun k => h k.2)]
theorem feaDay_mv {c y : Int} {s : ByteArray} {o m d : Int} (h : feaOk s true o m d = true) (hy : yearP c y) : feaDay c y s true o m d = easter c y + o := by
 unfold feaDay
 rw [if_pos ⟨h, hy⟩, if_pos rfl]
theorem feaDay_fix {c y : Int} {s : ByteArray} {o m d : Int} (h : feaOk s false o m d = true) (hy : yearP c y) : feaDay c y s false o m d = dayOf c y m d := by
 unfold feaDay
 rw [if_pos ⟨h, hy⟩, if_neg (by decide)]
theorem ok_mv {s : ByteArray} {o m d : Int} (h : feaOk s true o m d = true) : -63 ≤ o ∧ o ≤ 63 := by
 simp [feaOk] at h
 exact inB_iff.1 h.2.1.1
theorem ok_fix {s : ByteArray} {o m d : Int} (h : feaOk s false o m d = true) : inB d 1 (monthDays 1 1999 m) = true := by
 simp [feaOk] at h
 exact h.2.2
theorem take_at (k : Nat) (h : k < 20) : feasts.take (k + 1) = feasts.take k ++ [feaAt k] := by
 rw [List.take_succ_eq_append_getElem (show k < feasts.length from h)]
 unfold feaAt
 rw [List.getD, List.getElem?_eq_getElem (show k < feasts.length from h)]
 rfl
def lastStep (c y n : Int) (mv : Bool) (a : ByteArray × Int) (f : Fea) : ByteArray × Int := if f.mv = mv ∧ f.day c y ≤ n ∧ (a.1.size = 0 ∨ a.2 < f.day c y) then (f.name, f.day c y) else a
def lastTo (c y n : Int) (mv : Bool) (k : Nat) : ByteArray × Int := (feasts.take k).foldl (lastStep c y n mv) (⟨#[]⟩, 0)
theorem lastTo_succ (c y n : Int) (mv : Bool) (k : Nat) (h : k < 20) : lastTo c y n mv (k + 1) = lastStep c y n mv (lastTo c y n mv k) (feaAt k) := by
 unfold lastTo
 rw [take_at k h, List.foldl_append]
 rfl
theorem last_spec (c y n : Int) (mv : Bool) : ∀ k, k ≤ 20 → lastTo c y n mv k = (⟨#[]⟩, 0) ∨ ∃ i, i < k ∧ lastTo c y n mv k = ((feaAt i).name, (feaAt i).day c y) ∧ (feaAt i).mv = mv ∧ (feaAt i).day c y ≤ n
  | 0, _ => .inl rfl
  | k + 1, h => by
   rw [lastTo_succ _ _ _ _ _ (by omega)]
   unfold lastStep
   split
   · rename_i hk
     exact .inr ⟨k, by omega, rfl, hk.1, hk.2.1⟩
   · rcases last_spec c y n mv k (by omega) with e | ⟨i, hi, e, e2⟩
     · exact .inl e
     · exact .inr ⟨i, by omega, e, e2⟩
theorem last_b (c y n : Int) (mv : Bool) (k : Nat) (h : k ≤ 20) : (lastTo c y n mv k).1.size ≤ 16 ∧ -3000 ≤ (lastTo c y n mv k).2 ∧ (lastTo c y n mv k).2 ≤ 3001000 := by
 have hs : ∀ i : Fin 20, (feaAt i.val).name.size ≤ 16 := by decide
 rcases last_spec c y n mv k h with e | ⟨i, hi, e, _⟩
 · rw [e]
   refine ⟨by decide, ?_⟩
   simp
 · rw [e]
   exact ⟨hs ⟨i, by omega⟩, Fea.day_b _ c y⟩
end Go.Proofs.YtdmlhiailjnhcaaGreatDoor.ctr
