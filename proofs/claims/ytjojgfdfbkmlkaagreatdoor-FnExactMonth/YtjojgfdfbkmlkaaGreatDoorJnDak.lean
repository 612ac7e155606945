/- Plain laws of Easter, of no program: golden numbers, epacts, full moons, the closed forms; over the years 1 to 3000 of both calendars the closed form is the Sunday behind the full moon, from 22 March to 25 April. Contracts of the model's NameOk and of the program's NameOk: each answers the plain function nameOk at every string within the length limit. Feasts: the plain functions of their days and of those that a day is. -/
import Derived.Test.YtjojgfdfbkmlkaaGreatDoorJnDaj
import Derived.Test.YtjojgfdfbkmlkaaGreatDoorJnDaa
namespace Go.Proofs.YtjojgfdfbkmlkaaGreatDoor.ctr
open Go.RowKit
def yearP (c y : Int) : Prop := (c = 0 ∨ c = 1) ∧ 1 ≤ y ∧ y ≤ 3000
instance (c y : Int) : Decidable (yearP c y) := by unfold yearP; infer_instance
def yearB (c y : Int) : Bool := decide (yearP c y)
theorem yearB_true {c y : Int} (h : yearP c y) : yearB c y = true := decide_eq_true h
theorem yearB_false {c y : Int} (h : ¬ yearP c y) : yearB c y = false := decide_eq_false h
theorem dateOk_year (c y : Int) : dateOk c y 1 1 = yearB c y := by
  by_cases h : yearP c y
  · rw [yearB_true h, dateOk_true]
    have := monthDays_ge (y := y) h.1 (m := 1) (by omega) (by omega)
    exact ⟨h.1, h.2.1, h.2.2, by omega, by omega⟩
  · rw [yearB_false h, dateOk_false]
    exact fun k => h ⟨k.1, k.2.1, k.2.2.1⟩
theorem yearB_cal {c y : Int} (h : c = 0 ∨ c = 1) : yearB c y = inB y 1 3000 := by
  by_cases hp : yearP c y
  · rw [yearB_true hp, inB_true hp.2.1 hp.2.2]
  · rw [yearB_false hp, inB_false]
    unfold yearP at hp
    omega
theorem yearB_no {c y : Int} (h : ¬ (c = 0 ∨ c = 1)) : yearB c y = false := yearB_false fun k => h k.1
def e0G (g y : Int) : Int := (11 * g + 20 + (8 * (y / 100 + 1) + 5) / 25 - 5 - (3 * (y / 100 + 1) / 4 - 12)) % 30
def adjG (e g : Int) : Int := if e = 24 ∨ (e = 25 ∧ 11 < g) then e + 1 else e
def ep (c g y : Int) : Int := if c = 0 then 11 * (g - 1) % 30 else adjG (e0G g y) g
def moonN (c g e : Int) : Int := if c = 0 then 20 + (19 * (g - 1) + 15) % 30 else if 43 - e < 20 then 43 - e + 30 else 43 - e
def epact (c y : Int) : Int := if yearP c y then ep c (y % 19 + 1) y else 0
def moonOff (c y : Int) : Int := moonN c (y % 19 + 1) (ep c (y % 19 + 1) y)
def march (c y : Int) : Int := first c y + before c y 2
def fullMoon (c y : Int) : Int := if yearP c y then march c y + moonOff c y else 0
def dJ (y : Int) : Int := (19 * (y % 19) + 15) % 30
def sumJ (y : Int) : Int := dJ y + (2 * (y % 4) + 4 * (y % 7) - dJ y + 34) % 7 + 114
def gG (y : Int) : Int := (y / 100 - (y / 100 + 8) / 25 + 1) / 3
def hG (y : Int) : Int := (19 * (y % 19) + y / 100 - y / 100 / 4 - gG y + 15) % 30
def lG (y : Int) : Int := (32 + 2 * (y / 100 % 4) + 2 * (y % 100 / 4) - hG y - y % 100 % 4) % 7
def mG (y : Int) : Int := (y % 19 + 11 * hG y + 22 * lG y) / 451
def sumG (y : Int) : Int := hG y + lG y - 7 * mG y + 114
def sumE (c y : Int) : Int := if c = 0 then sumJ y else sumG y
def easter (c y : Int) : Int := if yearP c y then dayOf c y (sumE c y / 31) (sumE c y % 31 + 1) else 0
def all2 (f : Nat → Bool) : Nat → Nat → Bool
  | 0, lo => f lo
  | k + 1, lo => all2 f k lo && all2 f k (lo + 2 ^ k)
theorem all2_at {f : Nat → Bool} : ∀ {k lo n}, all2 f k lo = true → lo ≤ n → n < lo + 2 ^ k → f n = true
  | 0, lo, n, h, h1, h2 => by
    have : n = lo := by simp at h2; omega
    subst this; exact h
  | k + 1, lo, n, h, h1, h2 => by
    simp only [all2, Bool.and_eq_true] at h
    by_cases hn : n < lo + 2 ^ k
    · exact all2_at h.1 h1 hn
    · exact all2_at h.2 (by omega) (by rw [Nat.pow_succ] at h2; omega)
def dN (y : Nat) : Nat := (19 * (y % 19) + 15) % 30
def sN (y : Nat) : Nat := dN y + (2 * (y % 4) + 4 * (y % 7) + 34 - dN y) % 7
def chkJ (y : Nat) : Bool :=
  Nat.ble (20 + dN y + 1) (sN y + 21) && Nat.ble (sN y + 21) (20 + dN y + 7) && Nat.beq ((365 * (y - 1) + (y - 1) / 4 + 58 + (if y % 4 = 0 then 1 else 0) + (sN y + 21)) % 7) 0 && Nat.ble (sN y) 34
def hN (y : Nat) : Nat := (19 * (y % 19) + y / 100 - y / 100 / 4 - (y / 100 + 1 - (y / 100 + 8) / 25) / 3 + 15) % 30
def lN (y : Nat) : Nat := (32 + 2 * (y / 100 % 4) + 2 * (y % 100 / 4) - hN y - y % 100 % 4) % 7
def mN (y : Nat) : Nat := (y % 19 + 11 * hN y + 22 * lN y) / 451
def tN (y : Nat) : Nat := hN y + lN y - 7 * mN y
def e0N (y : Nat) : Nat := (11 * (y % 19 + 1) + 20 + (8 * (y / 100 + 1) + 5) / 25 + 37 - 3 * (y / 100 + 1) / 4) % 30
def eN (y : Nat) : Nat := if e0N y = 24 ∨ (e0N y = 25 ∧ 11 < y % 19 + 1) then e0N y + 1 else e0N y
def mooN (y : Nat) : Nat := if 23 < eN y then 73 - eN y else 43 - eN y
def chkG (y : Nat) : Bool :=
  Nat.ble (7 * mN y) (hN y + lN y) && Nat.ble (mooN y + 1) (tN y + 21) && Nat.ble (tN y + 21) (mooN y + 7) && Nat.beq ((365 * (y - 1) + (y - 1) / 4 - (y - 1) / 100 + (y - 1) / 400 + 60 + (if (y % 4 = 0 ∧ ¬ y % 100 = 0) ∨ y % 400 = 0 then 1 else 0) + (tN y + 21)) % 7) 0 && Nat.ble (tN y) 34
theorem allJ : all2 chkJ 12 1 = true := by decide +kernel
theorem allG : all2 chkG 12 1 = true := by decide +kernel
theorem before_2 {c y : Int} (hc : c = 0 ∨ c = 1) : before c y 2 = 59 + (if leapP c y then 1 else 0) := by
  have m1 := monthDays_plain (y := y) hc (m := 1) (by omega) (by omega) (by omega)
  by_cases hl : leapP c y
  · have m2 := monthDays_leap hc hl
    simp [before, m1, m2, hl, tab12]
  · have m2 := monthDays_plain (y := y) hc (m := 2) (by omega) (by omega) (fun h => hl h.2)
    simp [before, m1, m2, hl, tab12]
theorem before_3 {c y : Int} (hc : c = 0 ∨ c = 1) : before c y 3 = before c y 2 + 31 := by
  have m3 := monthDays_plain (y := y) hc (m := 3) (by omega) (by omega) (by omega)
  show before c y 2 + monthDays c y (2 + 1 : Nat) = _
  rw [show ((2 + 1 : Nat) : Int) = 3 from rfl, m3]
  rfl
theorem dN_cast (n : Nat) : (dN n : Int) = dJ n := by unfold dN dJ; omega
theorem dJ_b (y : Int) : 0 ≤ dJ y ∧ dJ y ≤ 29 := by unfold dJ; omega
theorem sN_cast (n : Nat) : (sN n : Int) = sumJ n - 114 := by
  unfold sN sumJ
  have h := dN_cast n
  have b := dJ_b n
  generalize dJ n = d at *
  generalize dN n = d' at *
  omega
theorem hG_b (y : Int) : 0 ≤ hG y ∧ hG y ≤ 29 := by unfold hG; omega
theorem gN_cast (b : Nat) : ((b + 1 - (b + 8) / 25 : Nat) : Int) = (b : Int) - ((b : Int) + 8) / 25 + 1 := by omega
theorem hN_cast (n : Nat) : (hN n : Int) = hG n := by
  unfold hN hG gG
  have e1 : (n : Int) / 100 = ((n / 100 : Nat) : Int) := by omega
  have e2 : (n : Int) % 19 = ((n % 19 : Nat) : Int) := by omega
  rw [e1, e2, ← gN_cast]
  generalize n % 19 = a
  have hg : n / 100 + 1 - (n / 100 + 8) / 25 ≤ n / 100 + 1 := Nat.sub_le _ _
  generalize n / 100 = b at *
  generalize b + 1 - (b + 8) / 25 = x at *
  have e3 : (b : Int) / 4 = ((b / 4 : Nat) : Int) := by omega
  have e4 : (x : Int) / 3 = ((x / 3 : Nat) : Int) := by omega
  rw [e3, e4]
  have h3 : b / 4 + x / 3 ≤ b + 1 := by omega
  generalize b / 4 = p at *
  generalize x / 3 = q at *
  by_cases hz : 19 * a + b < p + q
  · omega
  · omega
theorem lN_cast (n : Nat) : (lN n : Int) = lG n := by
  unfold lN lG
  have h := hN_cast n
  have b := hG_b n
  generalize hG n = d at *
  generalize hN n = d' at *
  have e1 : (n : Int) / 100 % 4 = ((n / 100 % 4 : Nat) : Int) := by omega
  have e2 : (n : Int) % 100 / 4 = ((n % 100 / 4 : Nat) : Int) := by omega
  have e3 : (n : Int) % 100 % 4 = ((n % 100 % 4 : Nat) : Int) := by omega
  rw [e1, e2, e3]
  have h3 : n % 100 % 4 ≤ 3 := by omega
  generalize n / 100 % 4 = x at *
  generalize n % 100 / 4 = y at *
  generalize n % 100 % 4 = z at *
  omega
theorem mN_cast (n : Nat) : (mN n : Int) = mG n := by
  unfold mN mG
  have h := hN_cast n
  have h' := lN_cast n
  generalize hG n = d at *
  generalize hN n = d' at *
  generalize lG n = e at *
  generalize lN n = e' at *
  omega
theorem e0N_cast (n : Nat) (hn : n ≤ 4096) : (e0N n : Int) = e0G ((n : Int) % 19 + 1) n := by
  unfold e0N e0G
  have e1 : (n : Int) / 100 = ((n / 100 : Nat) : Int) := by omega
  have e2 : (n : Int) % 19 = ((n % 19 : Nat) : Int) := by omega
  have hb : n / 100 ≤ 40 := by omega
  rw [e1, e2]
  generalize n % 19 = a
  generalize n / 100 = b at *
  have e3 : (8 * ((b : Int) + 1) + 5) / 25 = (((8 * (b + 1) + 5) / 25 : Nat) : Int) := by omega
  have e4 : 3 * ((b : Int) + 1) / 4 = ((3 * (b + 1) / 4 : Nat) : Int) := by omega
  rw [e3, e4]
  have h4 : 3 * (b + 1) / 4 ≤ 31 := by omega
  generalize (8 * (b + 1) + 5) / 25 = p at *
  generalize 3 * (b + 1) / 4 = q at *
  omega
theorem eN_cast (n : Nat) (hn : n ≤ 4096) : (eN n : Int) = ep 1 ((n : Int) % 19 + 1) n := by
  unfold eN ep adjG
  have h := e0N_cast n hn
  rw [if_neg (show ¬ (1 : Int) = 0 by omega)]
  generalize e0G ((n : Int) % 19 + 1) n = a at *
  generalize e0N n = b at *
  split <;> split <;> omega
theorem mooN_cast (n : Nat) (hn : n ≤ 4096) : (mooN n : Int) = moonOff 1 n := by
  unfold mooN moonOff moonN
  have h := eN_cast n hn
  have hb : eN n ≤ 30 := by
    unfold eN
    have : e0N n < 30 := by unfold e0N; omega
    split <;> omega
  rw [if_neg (show ¬ (1 : Int) = 0 by omega)]
  generalize ep 1 ((n : Int) % 19 + 1) n = a at *
  generalize eN n = b at *
  split <;> split <;> omega
theorem moonOff_jul (y : Int) : moonOff 0 y = 20 + dJ y := by
  unfold moonOff moonN dJ
  rw [if_pos rfl]
  omega
theorem easter_fact_at {c y : Int} (hc : c = 0 ∨ c = 1) (h1 : 1 ≤ y) (h2 : y ≤ 4000) : 114 ≤ sumE c y ∧ sumE c y ≤ 148 ∧ moonOff c y + 1 ≤ sumE c y - 93 ∧ sumE c y - 93 ≤ moonOff c y + 7 ∧ (march c y + (sumE c y - 93)) % 7 = 0 := by
  obtain ⟨n, rfl⟩ := Int.eq_ofNat_of_zero_le (show 0 ≤ y by omega)
  have hb := before_2 (y := (n : Int)) hc
  unfold march
  rw [hb]
  rcases hc with rfl | rfl
  · have k := all2_at allJ (n := n) (by omega) (by have : (2 : Nat) ^ 12 = 4096 := rfl; omega)
    simp only [chkJ, Bool.and_eq_true, Nat.ble_eq] at k
    obtain ⟨⟨⟨k1, k2⟩, k3⟩, k4⟩ := k
    have k3 := Nat.eq_of_beq_eq_true k3
    have e1 := sN_cast n
    have e2 := dN_cast n
    have e6 : ((n : Int) - 1) / 4 = (((n - 1) / 4 : Nat) : Int) := by omega
    rw [moonOff_jul, first_jul, e6]
    generalize (n - 1) / 4 = q4 at *
    have e3 : sumE 0 n = sumJ n := by unfold sumE; rw [if_pos rfl]
    rw [e3]
    clear hb e3
    generalize sumJ n = s at *
    generalize dJ n = d at *
    generalize sN n = s' at *
    generalize dN n = d' at *
    by_cases hl : leapP 0 n
    · rw [if_pos hl]
      rw [leap_jul] at hl
      rw [if_pos (by omega)] at k3
      omega
    · rw [if_neg hl]
      rw [leap_jul] at hl
      rw [if_neg (by omega)] at k3
      omega
  · have k := all2_at allG (n := n) (by omega) (by have : (2 : Nat) ^ 12 = 4096 := rfl; omega)
    simp only [chkG, Bool.and_eq_true, Nat.ble_eq] at k
    obtain ⟨⟨⟨⟨k0, k1⟩, k2⟩, k3⟩, k4⟩ := k
    have k3 := Nat.eq_of_beq_eq_true k3
    have e1 := hN_cast n
    have e2 := lN_cast n
    have e4 := mN_cast n
    have e5 := mooN_cast n (by omega)
    have e6 : ((n : Int) - 1) / 4 = (((n - 1) / 4 : Nat) : Int) := by omega
    have e7 : ((n : Int) - 1) / 100 = (((n - 1) / 100 : Nat) : Int) := by omega
    have e8 : ((n : Int) - 1) / 400 = (((n - 1) / 400 : Nat) : Int) := by omega
    have e9 : (n - 1) / 100 ≤ (n - 1) / 4 := by omega
    rw [first_gre, e6, e7, e8]
    clear e6 e7 e8
    generalize (n - 1) / 4 = q4 at *
    generalize (n - 1) / 100 = q100 at *
    generalize (n - 1) / 400 = q400 at *
    have e3 : sumE 1 n = sumG n := by unfold sumE; rw [if_neg (by omega)]
    rw [e3]
    unfold sumG
    unfold tN at k1 k2 k3 k4
    clear hb e3
    generalize hG n = s at *
    generalize lG n = d at *
    generalize mG n = m at *
    generalize hN n = s' at *
    generalize lN n = d' at *
    generalize mN n = m' at *
    generalize moonOff 1 n = o at *
    generalize mooN n = o' at *
    by_cases hl : leapP 1 n
    · rw [if_pos hl]
      rw [leap_gre] at hl
      rw [if_pos (by omega)] at k3
      omega
    · rw [if_neg hl]
      rw [leap_gre] at hl
      rw [if_neg (by omega)] at k3
      omega
theorem easter_fact {c y : Int} (h : yearP c y) : 114 ≤ sumE c y ∧ sumE c y ≤ 148 ∧ moonOff c y + 1 ≤ sumE c y - 93 ∧ sumE c y - 93 ≤ moonOff c y + 7 ∧ (march c y + (sumE c y - 93)) % 7 = 0 :=
  easter_fact_at h.1 h.2.1 (by have := h.2.2; omega)
def easL (c y : Int) : Int := first c y + before c y (sumE c y / 31 - 1).toNat + (sumE c y % 31 + 1) - 1
theorem sum_month {c y : Int} (h : yearP c y) : dateP c y (sumE c y / 31) (sumE c y % 31 + 1) := by
  have k := easter_fact h
  have h3 := monthDays_plain (y := y) h.1 (m := 3) (by omega) (by omega) (by omega)
  have h4 := monthDays_plain (y := y) h.1 (m := 4) (by omega) (by omega) (by omega)
  have h3' : monthDays c y 3 = 31 := h3
  have h4' : monthDays c y 4 = 30 := h4
  refine ⟨h.1, h.2.1, h.2.2, by omega, ?_⟩
  by_cases hm : sumE c y / 31 = 3
  · rw [hm, h3']; omega
  · rw [show sumE c y / 31 = 4 by omega, h4']; omega
theorem easter_eq {c y : Int} (h : yearP c y) : easter c y = march c y + (sumE c y - 93) := by
  have k := easter_fact h
  unfold easter dayOf march
  rw [if_pos h, if_pos (sum_month h)]
  have hb := before_3 (y := y) h.1
  by_cases hm : sumE c y / 31 = 3
  · rw [hm, show ((3 : Int) - 1).toNat = 2 from rfl]
    omega
  · rw [show sumE c y / 31 = 4 by omega, show ((4 : Int) - 1).toNat = 3 from rfl, hb]
    omega
theorem march_b {c y : Int} (h : yearP c y) : 0 < march c y ∧ march c y ≤ 2000000 := by
  have hb := before_2 (y := y) h.1
  unfold march
  rw [hb]
  obtain ⟨hc, h1, h2⟩ := h
  rcases hc with rfl | rfl
  · rw [first_jul]
    split <;> omega
  · rw [first_gre]
    split <;> omega
end Go.Proofs.YtjojgfdfbkmlkaaGreatDoor.ctr
namespace Go.Proofs.YtjojgfdfbkmlkaaGreatDoor.ctr
open Go.RowKit
def lowB (c : UInt8) : Bool := inB c.toNat 97 122
def lows (s : ByteArray) (k : Nat) : Bool := (s.data.toList.take k).all lowB
def nameOk (s : ByteArray) : Bool := inB s.size 1 16 && lows s s.size
theorem lows_succ (s : ByteArray) (k : Nat) (h : k < s.size) (h1 : lows s k = true) (h2 : lowB s[k] = true) : lows s (k + 1) = true := by
  unfold lows at *
  rw [take_snoc s k h, List.all_append, h1]
  simp [h2]
theorem lows_stop (s : ByteArray) (k : Nat) (h : k < s.size) (h2 : lowB s[k] = false) : nameOk s = false := by
  have : lows s s.size = false := by
    unfold lows
    rw [List.all_eq_false]
    refine ⟨s[k], ?_, by simp [h2]⟩
    rw [List.take_of_length_le (show s.data.toList.length ≤ s.size from Nat.le_refl _)]
    exact List.getElem_mem (l := s.data.toList) (n := k) h
  simp [nameOk, this]
theorem lows_done (s : ByteArray) (k : Nat) (h : k = s.size) (h1 : lows s k = true) : nameOk s = inB s.size 1 16 := by
  subst h
  simp [nameOk, h1]
set_option maxHeartbeats 400000 in
theorem specNameOk (s : ByteArray) (w : World) (hs : s.size ≤ maxLen) :
    Calls Tryz.prog 105 #[.string s] w fun e w' => e = .returned (.bool (nameOk s)) ∧ w' = w := by
  unfold maxLen at hs
  go_enter Tryz.func105, Tryz.ntmps105
  go_wp2
  go_loop [3] (fun i => ∃ k : Nat, k ≤ s.size ∧ i = .int .i64 k ∧ lows s k = true) (fun i => s.size - (intOf i).toNat)
  case atStart => exact ⟨0, Nat.zero_le _, rfl, by simp [lows]⟩
  case round =>
    obtain ⟨k, hk, rfl, hl⟩ := hrel
    have HL : Hid (lows s k = true) := hl
    clear hl
    by_cases hlt : k < s.size
    · cases hb : lowB s[k]
      · have HB : Hid (nameOk s = false) := lows_stop s k hlt hb
        have hb' : inB (wrap64 (s[k].toNat : Int)) 97 122 = false := by rw [byte64]; exact hb
        clear hb
        go_wp2_with (go_at_call 96; refine (l01In _ _ _ _).mono ?_; rintro e w' ⟨rfl, rfl⟩)
        go_ret
        exact ⟨ret_bool HB.out.symm, rfl⟩
      · have HN : Hid (lows s (k + 1) = true) := lows_succ s k hlt HL.out hb
        have hb' : inB (wrap64 (s[k].toNat : Int)) 97 122 = true := by rw [byte64]; exact hb
        clear hb
        go_wp2_with (go_at_call 96; refine (l01In _ _ _ _).mono ?_; rintro e w' ⟨rfl, rfl⟩)
        exact ⟨⟨k + 1, by omega, by go_num, HN.out⟩, by simp [intOf]; omega⟩
    · have HD : Hid (nameOk s = inB s.size 1 16) := lows_done s k (by omega) HL.out
      go_wp2_with (go_at_call 96; refine (l01In _ _ _ _).mono ?_; rintro e w' ⟨rfl, rfl⟩)
      go_ret
      exact ⟨ret_bool HD.out.symm, rfl⟩
set_option maxHeartbeats 400000 in
theorem implNameOk (s : ByteArray) (w : World) (hs : s.size ≤ maxLen) :
    Calls Tryz.prog 119 #[.string s] w fun e w' => e = .returned (.bool (nameOk s)) ∧ w' = w := by
  unfold maxLen at hs
  by_cases h1 : s.size < 1
  · have HB : Hid (nameOk s = false) := by unfold Hid nameOk; rw [inB_false (.inl (by omega))]; rfl
    go_enter Tryz.func119, Tryz.ntmps119
    go_wp2
    go_ret
    exact ⟨ret_bool HB.out.symm, rfl⟩
  by_cases h2 : 16 < s.size
  · have HB : Hid (nameOk s = false) := by unfold Hid nameOk; rw [inB_false (.inr (by omega))]; rfl
    go_enter Tryz.func119, Tryz.ntmps119
    go_wp2
    go_ret
    exact ⟨ret_bool HB.out.symm, rfl⟩
  go_enter Tryz.func119, Tryz.ntmps119
  go_wp2
  go_loop [14] (fun i => ∃ k : Nat, k ≤ s.size ∧ i = .int .i64 k ∧ lows s k = true) (fun i => s.size - (intOf i).toNat)
  case atStart => exact ⟨0, Nat.zero_le _, rfl, by simp [lows]⟩
  case round =>
    obtain ⟨k, hk, rfl, hl⟩ := hrel
    have HL : Hid (lows s k = true) := hl
    clear hl
    by_cases hlt : k < s.size
    · by_cases c1 : (s[k].toNat : Int) < 97
      · have HB : Hid (nameOk s = false) := lows_stop s k hlt (inB_false (.inl c1))
        go_wp2
        go_ret
        exact ⟨ret_bool HB.out.symm, rfl⟩
      · by_cases c2 : 122 < (s[k].toNat : Int)
        · have HB : Hid (nameOk s = false) := lows_stop s k hlt (inB_false (.inr c2))
          go_wp2
          go_ret
          exact ⟨ret_bool HB.out.symm, rfl⟩
        · have HN : Hid (lows s (k + 1) = true) := lows_succ s k hlt HL.out (inB_true (by omega) (by omega))
          go_wp2
          exact ⟨⟨k + 1, by omega, by go_num, HN.out⟩, by simp [intOf]; omega⟩
    · have HD : Hid (nameOk s = true) := by unfold Hid; rw [lows_done s k (by omega) HL.out, inB_true (by omega) (by omega)]
      go_wp2
      go_ret
      exact ⟨ret_bool HD.out.symm, rfl⟩
end Go.Proofs.YtjojgfdfbkmlkaaGreatDoor.ctr
namespace Go.Proofs.YtjojgfdfbkmlkaaGreatDoor.ctr
open Go.RowKit
def feaOk (s : ByteArray) (mv : Bool) (o m d : Int) : Bool := nameOk s && (if mv = true then inB o (-63) 63 && decide (m = 0) && decide (d = 0) else decide (o = 0) && inB d 1 (monthDays 1 1999 m))
def feaDay (c y : Int) (s : ByteArray) (mv : Bool) (o m d : Int) : Int := if feaOk s mv o m d = true ∧ yearP c y then (if mv = true then easter c y + o else dayOf c y m d) else 0
def Fea.ok (f : Fea) : Bool := feaOk f.name f.mv f.off f.m f.d
def Fea.day (f : Fea) (c y : Int) : Int := feaDay c y f.name f.mv f.off f.m f.d
theorem inB_iff {x a b : Int} : inB x a b = true ↔ a ≤ x ∧ x ≤ b := by simp [inB]
theorem days1 (m : Int) : monthDays 1 1999 m = monthDays 1 1 m := by
  by_cases h : 1 ≤ m ∧ m ≤ 12
  · rw [monthDays_plain (.inr rfl) h.1 h.2 (by rw [leap_gre]; omega), monthDays_plain (.inr rfl) h.1 h.2 (by rw [leap_gre]; omega)]
  · rw [monthDays_no (fun k => h k.2), monthDays_no (fun k => h k.2)]
theorem days_le {c : Int} (hc : c = 0 ∨ c = 1) (y m : Int) : monthDays 1 1999 m ≤ monthDays c y m := by
  by_cases h : 1 ≤ m ∧ m ≤ 12
  · rw [monthDays_plain (.inr rfl) h.1 h.2 (by rw [leap_gre]; omega)]
    by_cases hl : m = 2 ∧ leapP c y
    · rw [hl.1, monthDays_leap hc hl.2]
      decide
    · rw [monthDays_plain hc h.1 h.2 hl]
      omega
  · rw [monthDays_no (fun k => h k.2), monthDays_no (fun k => h k.2)]
    omega
theorem fixed_date {c y m d : Int} (hy : yearP c y) (h : inB d 1 (monthDays 1 1999 m) = true) : dateP c y m d := by
  have h1 := inB_iff.1 h
  have := days_le hy.1 y m
  exact ⟨hy.1, hy.2.1, hy.2.2, h1.1, by omega⟩
theorem fixed_day {c y m d : Int} (hy : yearP c y) (h : inB d 1 (monthDays 1 1999 m) = true) : dayOf c y m d = first c y + before c y (m - 1).toNat + d - 1 := by
  unfold dayOf
  rw [if_pos (fixed_date hy h)]
theorem easter_near {c y : Int} (h : yearP c y) : 0 < easter c y ∧ easter c y ≤ 3000000 := by
  have h1 := easter_fact h
  have h2 := march_b h
  rw [easter_eq h]
  omega
theorem feaDay_b (c y : Int) (s : ByteArray) (mv : Bool) (o m d : Int) : -3000 ≤ feaDay c y s mv o m d ∧ feaDay c y s mv o m d ≤ 3001000 := by
  unfold feaDay
  split
  · rename_i h
    cases mv
    · rw [if_neg (by decide)]
      have := dayOf_bound c y m d
      omega
    · rw [if_pos rfl]
      have h1 := easter_near h.2
      have h2 : inB o (-63) 63 = true := by
        have := h.1
        simp [feaOk] at this
        exact this.2.1.1
      have := inB_iff.1 h2
      omega
  · omega
theorem feaDay_no {c y : Int} {s : ByteArray} {mv : Bool} {o m d : Int} (h : feaOk s mv o m d = false) : feaDay c y s mv o m d = 0 := by
  unfold feaDay
  rw [if_neg (by rw [h]; simp)]
theorem feaDay_noYear {c y : Int} {s : ByteArray} {mv : Bool} {o m d : Int} (h : ¬ yearP c y) : feaDay c y s mv o m d = 0 := by
  unfold feaDay
  rw [if_neg (fun k => h k.2)]
theorem feaDay_mv {c y : Int} {s : ByteArray} {o m d : Int} (h : feaOk s true o m d = true) (hy : yearP c y) : feaDay c y s true o m d = easter c y + o := by
  unfold feaDay
  rw [if_pos ⟨h, hy⟩, if_pos rfl]
theorem feaDay_fix {c y : Int} {s : ByteArray} {o m d : Int} (h : feaOk s false o m d = true) (hy : yearP c y) : feaDay c y s false o m d = dayOf c y m d := by
  unfold feaDay
  rw [if_pos ⟨h, hy⟩, if_neg (by decide)]
theorem ok_mv {s : ByteArray} {o m d : Int} (h : feaOk s true o m d = true) : -63 ≤ o ∧ o ≤ 63 := by
  simp [feaOk] at h
  exact inB_iff.1 h.2.1.1
theorem ok_fix {s : ByteArray} {o m d : Int} (h : feaOk s false o m d = true) : inB d 1 (monthDays 1 1999 m) = true := by
  simp [feaOk] at h
  exact h.2.2
end Go.Proofs.YtjojgfdfbkmlkaaGreatDoor.ctr
