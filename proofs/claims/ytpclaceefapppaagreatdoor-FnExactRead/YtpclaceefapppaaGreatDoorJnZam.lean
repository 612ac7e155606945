/- The state of a loop that puts a list of ints together by append: they lie in a row of their own; and what else the law reaches. -/
import Derived.Test.YtpclaceefapppaaGreatDoorJnZah
import Derived.PlainAid
import Derived.Test.YtpclaceefapppaaGreatDoorJnZad
import Derived.Test.YtpclaceefapppaaGreatDoorJnZag
import Derived.Test.YtpclaceefapppaaGreatDoorJnZaa
import Derived.Test.YtpclaceefapppaaGreatDoorJnZaf
import Derived.Sort.Row
import Derived.Sort.Grow
import Derived.Lib.LazyBuf
set_option maxHeartbeats 1000000
namespace Go.Proofs.YtpclaceefapppaaGreatDoor.ctr
open Go.RowKit
theorem ibase {w : World} {base e size : Nat} {v : Value} {n : Nat} {xs : List Value} (h : w.ownsRow base e size v n xs) : ∀ k, v.ownBlock = some k → base ≤ k := by
 intro k hk
 rcases h.2 with ⟨rfl, _⟩ | ⟨g, cap, cur, rfl, hb, _⟩
 · cases hk
 · have : k = g := by simpa [Value.ownBlock] using hk.symm
   omega
theorem inew (W : World) (o : Obj) : (W.alloc o).heap.size = W.heap.size + 1 := by simp [World.alloc, -World.alloc_eq]
theorem iown_empty (w : World) (e : TypeId) : (w.alloc (.cells #[] e)).ownsRow w.heap.size e 1 (.slice (some ⟨w.heap.size, 0, none⟩) 0 0) 0 [] :=
 ⟨rfl, .inr ⟨w.heap.size, 0, #[], rfl, Nat.le_refl _, by simp [World.alloc, -World.alloc_eq], Nat.le_refl _, Nat.zero_le _, rfl, rfl⟩⟩
theorem iown_later {w w' : World} {base e size : Nat} {v : Value} {n : Nat} {xs : List Value} (h : w.ownsRow base e size v n xs) (hb : Below w.heap.size w w') : w'.ownsRow base e size v n xs :=
 h.kept (row := none) ⟨hb.os, hb.tape, hb.output, hb.size, fun k hk _ => hb.block k hk⟩ (Classical.em _)
structure ISt (w : World) (o : Value) (xs : List Int) (W : World) : Prop where
 row : W.ownsRow w.heap.size 3 1 o xs.length (xs.map (Value.int .i64))
 below : Below w.heap.size w W
theorem ISt.later {w : World} {o : Value} {xs : List Int} {W W' : World} (h : ISt w o xs W) (hb : Below W.heap.size W W') : ISt w o xs W' := ⟨iown_later h.row hb, h.below.trans (hb.mono h.below.size)⟩
theorem ISt.app {w : World} {o o' : Value} {xs : List Int} {W W' : World} {ob : Obj} (h : ISt w o xs W) (z : Int) (hr : W'.ownsRow w.heap.size 3 1 o' (xs.length + 1) (xs.map (Value.int .i64) ++ [.int .i64 z])) (hg : (W.alloc ob).grownBy W' o.ownBlock) : ISt w o' (xs ++ [z]) W' := by
 refine ⟨?_, (h.below.alloc h.below.size ob).grown hg (by have := h.below.size; rw [inew]; omega) (ibase h.row)⟩
 rw [List.length_append, List.map_append]
 exact hr
theorem ISt.nil (w : World) : ISt w (.slice none 0 0) [] w := ⟨World.ownsRow_nil _ _ _ _, Below.refl _ _⟩
theorem own_mono1 {w : World} {b b' e size : Nat} {v : Value} {n : Nat} {xs : List Value} (h : w.ownsRow b e size v n xs) (hb : b' ≤ b) : w.ownsRow b' e size v n xs := by
 obtain ⟨h1, h | ⟨g, cap, cur, hv, hg, hr⟩⟩ := h
 · exact ⟨h1, .inl h⟩
 · exact ⟨h1, .inr ⟨g, cap, cur, hv, Nat.le_trans hb hg, hr⟩⟩
theorem ISt.done {w w0 W : World} {o : Value} {xs : List Int} (h : ISt w o xs W) (hb : Below w0.heap.size w0 w) : MovRow w0 W o xs ∧ Below w0.heap.size w0 W :=
 ⟨own_ints (e := 3) (own_mono1 h.row hb.size), hb.trans (h.below.mono hb.size)⟩
def yearP (c y : Int) : Prop := (c = 0 ∨ c = 1) ∧ 1 ≤ y ∧ y ≤ 3000
instance (c y : Int) : Decidable (yearP c y) := by unfold yearP; infer_instance
def yearB (c y : Int) : Bool := decide (yearP c y)
theorem yearB_true {c y : Int} (h : yearP c y) : yearB c y = true := decide_eq_true h
theorem yearB_false {c y : Int} (h : ¬ yearP c y) : yearB c y = false := decide_eq_false h
theorem dateOk_year (c y : Int) : dateOk c y 1 1 = yearB c y := by
 by_cases h : yearP c y
 · rw [yearB_true h, dateOk_true]
   have := monthDays_ge (y := y) h.1 (m := 1) (by omega) (by omega)
   exact ⟨h.1, h.2.1, h.2.2, by omega, by omega⟩
 · rw [yearB_false h, dateOk_false]
   exact fun k => h ⟨k.1, k.2.1, k.2.2.1⟩
theorem yearB_cal {c y : Int} (h : c = 0 ∨ c = 1) : yearB c y = inB y 1 3000 := by
 by_cases hp : yearP c y
 · rw [yearB_true hp, inB_true hp.2.1 hp.2.2]
 · rw [yearB_false hp, inB_false]
   unfold yearP at hp
   omega
theorem yearB_no {c y : Int} (h : ¬ (c = 0 ∨ c = 1)) : yearB c y = false := yearB_false fun k => h k.1
def e0G (g y : Int) : Int := (11 * g + 20 + (8 * (y / 100 + 1) + 5) / 25 - 5 - (3 * (y / 100 + 1) / 4 - 12)) % 30
def adjG (e g : Int) : Int := if e = 24 ∨ (e = 25 ∧ 11 < g) then e + 1 else e
def ep (c g y : Int) : Int := if c = 0 then 11 * (g - 1) % 30 else adjG (e0G g y) g
def moonN (c g e : Int) : Int := if c = 0 then 20 + (19 * (g - 1) + 15) % 30 else if 43 - e < 20 then 43 - e + 30 else 43 - e
def epact (c y : Int) : Int := if yearP c y then ep c (y % 19 + 1) y else 0
def moonOff (c y : Int) : Int := moonN c (y % 19 + 1) (ep c (y % 19 + 1) y)
def march (c y : Int) : Int := first c y + before c y 2
def fullMoon (c y : Int) : Int := if yearP c y then march c y + moonOff c y else 0
def dJ (y : Int) : Int := (19 * (y % 19) + 15) % 30
def sumJ (y : Int) : Int := dJ y + (2 * (y % 4) + 4 * (y % 7) - dJ y + 34) % 7 + 114
def gG (y : Int) : Int := (y / 100 - (y / 100 + 8) / 25 + 1) / 3
def hG (y : Int) : Int := (19 * (y % 19) + y / 100 - y / 100 / 4 - gG y + 15) % 30
def lG (y : Int) : Int := (32 + 2 * (y / 100 % 4) + 2 * (y % 100 / 4) - hG y - y % 100 % 4) % 7
def mG (y : Int) : Int := (y % 19 + 11 * hG y + 22 * lG y) / 451
def sumG (y : Int) : Int := hG y + lG y - 7 * mG y + 114
def sumE (c y : Int) : Int := if c = 0 then sumJ y else sumG y
def easter (c y : Int) : Int := if yearP c y then dayOf c y (sumE c y / 31) (sumE c y % 31 + 1) else 0
def all2 (f : Nat → Bool) : Nat → Nat → Bool
  | 0, lo => f lo
  | k + 1, lo => all2 f k lo && all2 f k (lo + 2 ^ k)
theorem all2_at {f : Nat → Bool} : ∀ {k lo n}, all2 f k lo = true → lo ≤ n → n < lo + 2 ^ k → f n = true
  | 0, lo, n, h, h1, h2 => by
   have : n = lo := by simp at h2; omega
   subst this; exact h
  | k + 1, lo, n, h, h1, h2 => by
   simp only [all2, Bool.and_eq_true] at h
   by_cases hn : n < lo + 2 ^ k
   · exact all2_at h.1 h1 hn
   · exact all2_at h.2 (by omega) (by rw [Nat.pow_succ] at h2; omega)
def dN (y : Nat) : Nat := (19 * (y % 19) + 15) % 30
def sN (y : Nat) : Nat := dN y + (2 * (y % 4) + 4 * (y % 7) + 34 - dN y) % 7
def chkJ (y : Nat) : Bool :=
 Nat.ble (20 + dN y + 1) (sN y + 21) && Nat.ble (sN y + 21) (20 + dN y + 7) && Nat.beq ((365 * (y - 1) + (y - 1) / 4 + 58 + (if y % 4 = 0 then 1 else 0) + (sN y + 21)) % 7) 0 && Nat.ble (sN y) 34
def hN (y : Nat) : Nat := (19 * (y % 19) + y / 100 - y / 100 / 4 - (y / 100 + 1 - (y / 100 + 8) / 25) / 3 + 15) % 30
def lN (y : Nat) : Nat := (32 + 2 * (y / 100 % 4) + 2 * (y % 100 / 4) - hN y - y % 100 % 4) % 7
def mN (y : Nat) : Nat := (y % 19 + 11 * hN y + 22 * lN y) / 451
def tN (y : Nat) : Nat := hN y + lN y - 7 * mN y
def e0N (y : Nat) : Nat := (11 * (y % 19 + 1) + 20 + (8 * (y / 100 + 1) + 5) / 25 + 37 - 3 * (y / 100 + 1) / 4) % 30
def eN (y : Nat) : Nat := if e0N y = 24 ∨ (e0N y = 25 ∧ 11 < y % 19 + 1) then e0N y + 1 else e0N y
def mooN (y : Nat) : Nat := if 23 < eN y then 73 - eN y else 43 - eN y
def chkG (y : Nat) : Bool :=
 Nat.ble (7 * mN y) (hN y + lN y) && Nat.ble (mooN y + 1) (tN y + 21) && Nat.ble (tN y + 21) (mooN y + 7) && Nat.beq ((365 * (y - 1) + (y - 1) / 4 - (y - 1) / 100 + (y - 1) / 400 + 60 + (if (y % 4 = 0 ∧ ¬ y % 100 = 0) ∨ y % 400 = 0 then 1 else 0) + (tN y + 21)) % 7) 0 && Nat.ble (tN y) 34
theorem allJ : all2 chkJ 12 1 = true := by decide +kernel
theorem allG : all2 chkG 12 1 = true := by decide +kernel
theorem before_2 {c y : Int} (hc : c = 0 ∨ c = 1) : before c y 2 = 59 + (if leapP c y then 1 else 0) := by
 have m1 := monthDays_plain (y := y) hc (m := 1) (by omega) (by omega) (by omega)
 by_cases hl : leapP c y
 · have m2 := monthDays_leap hc hl
   simp [before, m1, m2, hl, tab12]
 · have m2 := monthDays_plain (y := y) hc (m := 2) (by omega) (by omega) (fun h => hl h.2)
   simp [before, m1, m2, hl, tab12]
theorem before_3 {c y : Int} (hc : c = 0 ∨ c = 1) : before c y 3 = before c y 2 + 31 := by
 have m3 := monthDays_plain (y := y) hc (m := 3) (by omega) (by omega) (by omega)
 show before c y 2 + monthDays c y (2 + 1 : Nat) = _
 rw [show ((2 + 1 : Nat) : Int) = 3 from rfl, m3]
 rfl
theorem dN_cast (n : Nat) : (dN n : Int) = dJ n := by unfold dN dJ; omega
theorem dJ_b (y : Int) : 0 ≤ dJ y ∧ dJ y ≤ 29 := by unfold dJ; omega
theorem sN_cast (n : Nat) : (sN n : Int) = sumJ n - 114 := by
 unfold sN sumJ
 have h := dN_cast n
 have b := dJ_b n
 generalize dJ n = d at *
 generalize dN n = d' at *
 omega
theorem hG_b (y : Int) : 0 ≤ hG y ∧ hG y ≤ 29 := by unfold hG; omega
theorem gN_cast (b : Nat) : ((b + 1 - (b + 8) / 25 : Nat) : Int) = (b : Int) - ((b : Int) + 8) / 25 + 1 := by omega
theorem hN_cast (n : Nat) : (hN n : Int) = hG n := by
 unfold hN hG gG
 have e1 : (n : Int) / 100 = ((n / 100 : Nat) : Int) := by omega
 have e2 : (n : Int) % 19 = ((n % 19 : Nat) : Int) := by omega
 rw [e1, e2, ← gN_cast]
 generalize n % 19 = a
 have hg : n / 100 + 1 - (n / 100 + 8) / 25 ≤ n / 100 + 1 := Nat.sub_le _ _
 generalize n / 100 = b at *
 generalize b + 1 - (b + 8) / 25 = x at *
 have e3 : (b : Int) / 4 = ((b / 4 : Nat) : Int) := by omega
 have e4 : (x : Int) / 3 = ((x / 3 : Nat) : Int) := by omega
 rw [e3, e4]
 have h3 : b / 4 + x / 3 ≤ b + 1 := by omega
 generalize b / 4 = p at *
 generalize x / 3 = q at *
 by_cases hz : 19 * a + b < p + q
 · omega
 · omega
theorem lN_cast (n : Nat) : (lN n : Int) = lG n := by
 unfold lN lG
 have h := hN_cast n
 have b := hG_b n
 generalize hG n = d at *
 generalize hN n = d' at *
 have e1 : (n : Int) / 100 % 4 = ((n / 100 % 4 : Nat) : Int) := by omega
 have e2 : (n : Int) % 100 / 4 = ((n % 100 / 4 : Nat) : Int) := by omega
 have e3 : (n : Int) % 100 % 4 = ((n % 100 % 4 : Nat) : Int) := by omega
 rw [e1, e2, e3]
 have h3 : n % 100 % 4 ≤ 3 := by omega
 generalize n / 100 % 4 = x at *
 generalize n % 100 / 4 = y at *
 generalize n % 100 % 4 = z at *
 omega
theorem mN_cast (n : Nat) : (mN n : Int) = mG n := by
 unfold mN mG
 have h := hN_cast n
 have h' := lN_cast n
 generalize hG n = d at *
 generalize hN n = d' at *
 generalize lG n = e at *
 generalize lN n = e' at *
 omega
theorem e0N_cast (n : Nat) (hn : n ≤ 4096) : (e0N n : Int) = e0G ((n : Int) % 19 + 1) n := by
 unfold e0N e0G
 have e1 : (n : Int) / 100 = ((n / 100 : Nat) : Int) := by omega
 have e2 : (n : Int) % 19 = ((n % 19 : Nat) : Int) := by omega
 have hb : n / 100 ≤ 40 := by omega
 rw [e1, e2]
 generalize n % 19 = a
 generalize n / 100 = b at *
 have e3 : (8 * ((b : Int) + 1) + 5) / 25 = (((8 * (b + 1) + 5) / 25 : Nat) : Int) := by omega
 have e4 : 3 * ((b : Int) + 1) / 4 = ((3 * (b + 1) / 4 : Nat) : Int) := by omega
 rw [e3, e4]
 have h4 : 3 * (b + 1) / 4 ≤ 31 := by omega
 generalize (8 * (b + 1) + 5) / 25 = p at *
 generalize 3 * (b + 1) / 4 = q at *
 omega
theorem eN_cast (n : Nat) (hn : n ≤ 4096) : (eN n : Int) = ep 1 ((n : Int) % 19 + 1) n := by
 unfold eN ep adjG
 have h := e0N_cast n hn
 rw [if_neg (show ¬ (1 : Int) = 0 by omega)]
 generalize e0G ((n : Int) % 19 + 1) n = a at *
 generalize e0N n = b at *
 split <;> split <;> omega
theorem mooN_cast (n : Nat) (hn : n ≤ 4096) : (mooN n : Int) = moonOff 1 n := by
 unfold mooN moonOff moonN
 have h := eN_cast n hn
 have hb : eN n ≤ 30 := by
  unfold eN
  have : e0N n < 30 := by unfold e0N; omega
  split <;> omega
 rw [if_neg (show ¬ (1 : Int) = 0 by omega)]
 generalize ep 1 ((n : Int) % 19 + 1) n = a at *
 generalize eN n = b at *
 split <;> split <;> omega
theorem moonOff_jul (y : Int) : moonOff 0 y = 20 + dJ y := by
 unfold moonOff moonN dJ
 rw [if_pos rfl]
 omega
theorem easter_fact_at {c y : Int} (hc : c = 0 ∨ c = 1) (h1 : 1 ≤ y) (h2 : y ≤ 4000) : 114 ≤ sumE c y ∧ sumE c y ≤ 148 ∧ moonOff c y + 1 ≤ sumE c y - 93 ∧ sumE c y - 93 ≤ moonOff c y + 7 ∧ (march c y + (sumE c y - 93)) % 7 = 0 := by
 obtain ⟨n, rfl⟩ := Int.eq_ofNat_of_zero_le (show 0 ≤ y by omega)
 have hb := before_2 (y := (n : Int)) hc
 unfold march
 rw [hb]
 rcases hc with rfl | rfl
 · have k := all2_at allJ (n := n) (by omega) (by have : (2 : Nat) ^ 12 = 4096 := rfl; omega)
   simp only [chkJ, Bool.and_eq_true, Nat.ble_eq] at k
   obtain ⟨⟨⟨k1, k2⟩, k3⟩, k4⟩ := k
   have k3 := Nat.eq_of_beq_eq_true k3
   have e1 := sN_cast n
   have e2 := dN_cast n
   have e6 : ((n : Int) - 1) / 4 = (((n - 1) / 4 : Nat) : Int) := by omega
   rw [moonOff_jul, first_jul, e6]
   generalize (n - 1) / 4 = q4 at *
   have e3 : sumE 0 n = sumJ n := by unfold sumE; rw [if_pos rfl]
   rw [e3]
   clear hb e3
   generalize sumJ n = s at *
   generalize dJ n = d at *
   generalize sN n = s' at *
   generalize dN n = d' at *
   by_cases hl : leapP 0 n
   · rw [if_pos hl]
     rw [leap_jul] at hl
     rw [if_pos (by omega)] at k3
     omega
   · rw [if_neg hl]
     rw [leap_jul] at hl
     rw [if_neg (by omega)] at k3
     omega
 · have k := all2_at allG (n := n) (by omega) (by have : (2 : Nat) ^ 12 = 4096 := rfl; omega)
   simp only [chkG, Bool.and_eq_true, Nat.ble_eq] at k
   obtain ⟨⟨⟨⟨k0, k1⟩, k2⟩, k3⟩, k4⟩ := k
   have k3 := Nat.eq_of_beq_eq_true k3
   have e1 := hN_cast n
   have e2 := lN_cast n
   have e4 := mN_cast n
   have e5 := mooN_cast n (by omega)
   have e6 : ((n : Int) - 1) / 4 = (((n - 1) / 4 : Nat) : Int) := by omega
   have e7 : ((n : Int) - 1) / 100 = (((n - 1) / 100 : Nat) : Int) := by omega
   have e8 : ((n : Int) - 1) / 400 = (((n - 1) / 400 : Nat) : Int) := by omega
   have e9 : (n - 1) / 100 ≤ (n - 1) / 4 := by omega
   rw [first_gre, e6, e7, e8]
   clear e6 e7 e8
   generalize (n - 1) / 4 = q4 at *
   generalize (n - 1) / 100 = q100 at *
   generalize (n - 1) / 400 = q400 at *
   have e3 : sumE 1 n = sumG n := by unfold sumE; rw [if_neg (by omega)]
   rw [e3]
   unfold sumG
   unfold tN at k1 k2 k3 k4
   clear hb e3
   generalize hG n = s at *
   generalize lG n = d at *
   generalize mG n = m at *
   generalize hN n = s' at *
   generalize lN n = d' at *
   generalize mN n = m' at *
   generalize moonOff 1 n = o at *
   generalize mooN n = o' at *
   by_cases hl : leapP 1 n
   · rw [if_pos hl]
     rw [leap_gre] at hl
     rw [if_pos (by omega)] at k3
     omega
   · rw [if_neg hl]
     rw [leap_gre] at hl
     rw [if_neg (by omega)] at k3
     omega
theorem easter_fact {c y : Int} (h : yearP c y) : 114 ≤ sumE c y ∧ sumE c y ≤ 148 ∧ moonOff c y + 1 ≤ sumE c y - 93 ∧ sumE c y - 93 ≤ moonOff c y + 7 ∧ (march c y + (sumE c y - 93)) % 7 = 0 :=
 easter_fact_at h.1 h.2.1 (by have := h.2.2; omega)
def easL (c y : Int) : Int := first c y + before c y (sumE c y / 31 - 1).toNat + (sumE c y % 31 + 1) - 1
theorem sum_month {c y : Int} (h : yearP c y) : dateP c y (sumE c y / 31) (sumE c y % 31 + 1) := by
 have k := easter_fact h
 have h3 := monthDays_plain (y := y) h.1 (m := 3) (by omega) (by omega) (by omega)
 have h4 := monthDays_plain (y := y) h.1 (m := 4) (by omega) (by omega) (by omega)
 have h3' : monthDays c y 3 = 31 := h3
 have h4' : monthDays c y 4 = 30 := h4
 refine ⟨h.1, h.2.1, h.2.2, by omega, ?_⟩
 by_cases hm : sumE c y / 31 = 3
 · rw [hm, h3']; omega
 · rw [show sumE c y / 31 = 4 by omega, h4']; omega
theorem easter_eq {c y : Int} (h : yearP c y) : easter c y = march c y + (sumE c y - 93) := by
 have k := easter_fact h
 unfold easter dayOf march
 rw [if_pos h, if_pos (sum_month h)]
 have hb := before_3 (y := y) h.1
 by_cases hm : sumE c y / 31 = 3
 · rw [hm, show ((3 : Int) - 1).toNat = 2 from rfl]
   omega
 · rw [show sumE c y / 31 = 4 by omega, show ((4 : Int) - 1).toNat = 3 from rfl, hb]
   omega
theorem march_b {c y : Int} (h : yearP c y) : 0 < march c y ∧ march c y ≤ 2000000 := by
 have hb := before_2 (y := y) h.1
 unfold march
 rw [hb]
 obtain ⟨hc, h1, h2⟩ := h
 rcases hc with rfl | rfl
 · rw [first_jul]
   split <;> omega
 · rw [first_gre]
   split <;> omega
theorem specYearOk (c y : Int) (w : World) : CS 110 #[.int .i64 c, .int .i64 y] w (.bool (yearB c y)) := by
 by_cases hc : c = 0 ∨ c = 1
 · have hC : calB c = true := calB_iff.2 hc
   rw [yearB_cal hc]
   clear hc
   cases hI : inB y 1 3000
   all_goals
    go_enter Tryz.func110, Tryz.ntmps110
    go_wp2_with fail
    refine sameC (specCal _ _) ?_
    rw [hC]
    go_wp2_with fail
    refine sameC (l01In _ _ _ _) ?_
    rw [hI]
    go_wp2
    go_ret
    exact ⟨rfl, rfl⟩
 · have hC : calB c = false := calB_no hc
   rw [yearB_no hc]
   clear hc
   go_enter Tryz.func110, Tryz.ntmps110
   go_wp2_with fail
   refine sameC (specCal _ _) ?_
   rw [hC]
   go_wp2
   go_ret
   exact ⟨rfl, rfl⟩
theorem specJulian (y : Int) (w : World) (h1 : 1 ≤ y) (h2 : y ≤ 4000) : CS 225 #[.int .i64 y] w (.int .i64 (sumJ y)) := by
 obtain ⟨R, hR⟩ : ∃ R, R = sumJ y := ⟨_, rfl⟩
 rw [← hR]
 have HR := hideP hR
 clear hR
 have hd := dJ_b y
 unfold sumJ at HR
 go_enter Tryz.func225, Tryz.ntmps225
 go_wp2
 go_ret
 exact ⟨ret_int (by rw [HR.out]; unfold dJ; omega), rfl⟩
theorem specGregorian (y : Int) (w : World) (h1 : 1 ≤ y) (h2 : y ≤ 4000) : CS 224 #[.int .i64 y] w (.int .i64 (sumG y)) := by
 obtain ⟨R, hR⟩ : ∃ R, R = sumG y := ⟨_, rfl⟩
 rw [← hR]
 have HR := hideP hR
 clear hR
 go_enter Tryz.func224, Tryz.ntmps224
 go_wp2
 go_ret
 exact ⟨ret_int (by rw [HR.out]; unfold sumG mG lG hG gG; rw [show y % 100 % 4 = y % 4 by omega]), rfl⟩
theorem easter_day {c y : Int} (h : yearP c y) : easter c y = first c y + before c y (sumE c y / 31 - 1).toNat + (sumE c y % 31 + 1) - 1 := by
 unfold easter dayOf
 rw [if_pos h, if_pos (sum_month h)]
theorem specL03 (c y : Int) (w : World) (hc : c = 0 ∨ c = 1) (hy1 : 1 ≤ y) (hy2 : y ≤ 4000) : CR 157 #[.int .i64 c, .int .i64 y] w (.int .i64 (easL c y)) := by
 have k := easter_fact_at hc hy1 hy2
 have KJ : ∀ W, CS 225 #[.int .i64 y] W (.int .i64 (sumJ y)) := fun W => specJulian y W hy1 hy2
 have KG : ∀ W, CS 224 #[.int .i64 y] W (.int .i64 (sumG y)) := fun W => specGregorian y W hy1 hy2
 have KD : ∀ W, CR 156 #[.int .i64 c, .int .i64 y, .int .i64 (sumE c y / 31), .int .i64 (sumE c y % 31 + 1)] W (.int .i64 (easL c y)) := fun W => by
  exact specDay c y _ _ W hc (by omega) (by omega) (by omega) (by omega) (by omega)
 have k1 := k.1
 have k2 := k.2.1
 clear k
 generalize easL c y = R at *
 rcases hc with rfl | rfl
 · rw [show sumE 0 y = sumJ y from by unfold sumE; rw [if_pos rfl]] at *
   generalize sumJ y = s at *
   generalize sumG y = s' at *
   go_enter Tryz.func157, Tryz.ntmps157
   go_wp2_with fail
   refine sameC (KG _) ?_
   go_wp2_with fail
   refine sameC (KJ _) ?_
   go_wp2_with fail
   refine (KD _).mono ?_
   rintro e w1 ⟨rfl, hb⟩
   go_wp2
   go_ret
   exact ⟨rfl, hb⟩
 · rw [show sumE 1 y = sumG y from by unfold sumE; rw [if_neg (by omega)]] at *
   generalize sumG y = s at *
   go_enter Tryz.func157, Tryz.ntmps157
   go_wp2_with fail
   refine sameC (KG _) ?_
   go_wp2_with fail
   refine (KD _).mono ?_
   rintro e w1 ⟨rfl, hb⟩
   go_wp2
   go_ret
   exact ⟨rfl, hb⟩
theorem specL03Easter (c y : Int) (w : World) (h : yearP c y) : CR 157 #[.int .i64 c, .int .i64 y] w (.int .i64 (easter c y)) := by
 rw [show easter c y = easL c y from easter_day h]
 exact specL03 c y w h.1 h.2.1 (by have := h.2.2; omega)
theorem specEaster (c y : Int) (w : World) : CR 231 #[.int .i64 c, .int .i64 y] w (.int .i64 (easter c y)) := by
 have KY : ∀ W, CS 110 #[.int .i64 c, .int .i64 y] W (.bool (yearB c y)) := specYearOk c y
 by_cases h : yearP c y
 · rw [yearB_true h] at KY
   have KE : ∀ W, CR 157 #[.int .i64 c, .int .i64 y] W (.int .i64 (easter c y)) := fun W => specL03Easter c y W h
   clear h
   generalize easter c y = R at *
   go_enter Tryz.func231, Tryz.ntmps231
   go_wp2_with fail
   refine sameC (KY _) ?_
   go_wp2_with fail
   refine (KE _).mono ?_
   rintro e w1 ⟨rfl, hb⟩
   go_wp2
   go_ret
   exact ⟨rfl, hb⟩
 · rw [yearB_false h] at KY
   have HR : Hid (easter c y = 0) := by unfold Hid easter; rw [if_neg h]
   clear h
   go_enter Tryz.func231, Tryz.ntmps231
   go_wp2_with fail
   refine sameC (KY _) ?_
   go_wp2
   go_ret
   exact ⟨ret_int HR.out.symm, Below.refl _ _⟩
def markL (k : Int) : List UInt8 := if k = 0 then [107, 97, 108] else if k = 1 then [110, 111, 110] else [105, 100]
def countL (n : Int) : List UInt8 := if n = 1 then [] else if n = 2 then [112, 114, 105, 100, 32] else (putRoman n).data.toList ++ [32]
def twiceL (b : Bool) : List UInt8 := if b = true then [98, 105, 115, 32] else []
def romL (r : Rom) : List UInt8 := twiceL r.twice ++ countL r.count ++ markL r.mark ++ [32] ++ (monthText r.month).data.toList
def romanText (r : Rom) : ByteArray := if romB r = true then ⟨(romL r).toArray⟩ else ⟨#[]⟩
def bisB : ByteArray := ⟨#[98, 105, 115]⟩
def pridB : ByteArray := ⟨#[112, 114, 105, 100]⟩
def kalB : ByteArray := ⟨#[107, 97, 108]⟩
def nonB : ByteArray := ⟨#[110, 111, 110]⟩
def idB : ByteArray := ⟨#[105, 100]⟩
def countOf (a : ByteArray) : Int := if a = pridB then 2 else getRoman a
def markI (b : ByteArray) : Int := if b = kalB then 0 else if b = nonB then 1 else if b = idB then 2 else -1
def markS (b : ByteArray) : Int := if b = nonB then 1 else if b = idB then 2 else 0
def wordsR (mk : ByteArray → Int) (tw : Bool) : List ByteArray → Option Rom
  | [a, b, c] => some ⟨countOf a, mk b, monOf c, tw⟩
  | [b, c] => some ⟨1, mk b, monOf c, tw⟩
  | _ => none
def parseS (s : ByteArray) : Option Rom := if (cut s 32).getD 0 ⟨#[]⟩ = bisB then wordsR markS true ((cut s 32).drop 1) else wordsR markS false (cut s 32)
def bisP (s : ByteArray) : Bool := (s.data.toList.take 4) == [98, 105, 115, 32]
def restOf (s : ByteArray) : ByteArray := if bisP s = true then s.extract 4 s.size else s
def parseI (s : ByteArray) : Option Rom := wordsR markI (bisP s) (cut (restOf s) 32)
def readBy (p : Option Rom) (s : ByteArray) : Rom × Bool :=
 match p with
 | some r => if romanText r = s ∧ s.size ≠ 0 then (r, true) else (⟨0, 0, 0, false⟩, false)
 | none => (⟨0, 0, 0, false⟩, false)
def readRoman (s : ByteArray) : Rom × Bool := readBy (parseS s) s
def backB (m d : Nat) : Bool := decide (dateP 0 4 m d → (parseS (romanText (romanOf 0 4 m d)) = some (romanOf 0 4 m d) ∧ parseI (romanText (romanOf 0 4 m d)) = some (romanOf 0 4 m d) ∧ (romanText (romanOf 0 4 m d)).size ≠ 0 ∧ (romanText (romanOf 0 4 m d)).size ≤ 30))
theorem back_all : ∀ m : Fin 13, ∀ d : Fin 32, backB m.val d.val = true := by decide +kernel
theorem text_all {r : Rom} (h : romB r = true) : parseS (romanText r) = some r ∧ parseI (romanText r) = some r ∧ (romanText r).size ≠ 0 ∧ (romanText r).size ≤ 30 := by
 obtain ⟨hd, hr⟩ := dayR_is (show dayR 0 4 r = true from h)
 obtain ⟨m1, m2⟩ := dateP_month hd
 obtain ⟨d1, d2⟩ := dateP_day hd
 generalize invM r = m at *
 generalize invD 0 4 r = d at *
 obtain ⟨m, rfl⟩ := Int.eq_ofNat_of_zero_le (show 0 ≤ m by omega)
 obtain ⟨d, rfl⟩ := Int.eq_ofNat_of_zero_le (show 0 ≤ d by omega)
 have := back_all ⟨m, by omega⟩ ⟨d, by omega⟩
 unfold backB at this
 have k := of_decide_eq_true this hd
 rw [hr] at k
 exact k
theorem text_no {r : Rom} (h : romB r = false) : romanText r = ⟨#[]⟩ := by unfold romanText; rw [h]; rfl
theorem text_yes {r : Rom} (h : romB r = true) : romanText r = ⟨(romL r).toArray⟩ := by unfold romanText; rw [if_pos h]
theorem text_some {r : Rom} (h : (romanText r).size ≠ 0) : romB r = true := by
 cases hb : romB r
 · rw [text_no hb] at h
   exact absurd rfl h
 · rfl
theorem text_size (r : Rom) : (romanText r).size ≤ 30 := by
 cases hb : romB r
 · rw [text_no hb]
   exact Nat.zero_le _
 · exact (text_all hb).2.2.2
theorem readBy_yes {s : ByteArray} {r : Rom} (h : romanText r = s) (h0 : s.size ≠ 0) : readBy (some r) s = (r, true) := by
 show (if romanText r = s ∧ s.size ≠ 0 then (r, true) else _) = _
 rw [if_pos ⟨h, h0⟩]
theorem readBy_not {s : ByteArray} {r : Rom} (h : romanText r ≠ s ∨ s.size = 0) : readBy (some r) s = (⟨0, 0, 0, false⟩, false) := by
 show (if romanText r = s ∧ s.size ≠ 0 then (r, true) else _) = _
 rw [if_neg]
 rintro ⟨h1, h2⟩
 rcases h with h | h
 · exact h h1
 · exact h2 h
theorem readBy_ways (p : Option Rom) (s : ByteArray) : (∃ r, p = some r ∧ romanText r = s ∧ s.size ≠ 0 ∧ readBy p s = (r, true)) ∨ readBy p s = (⟨0, 0, 0, false⟩, false) := by
 cases p with
 | none => exact .inr rfl
 | some r =>
  by_cases h : romanText r = s ∧ s.size ≠ 0
  · exact .inl ⟨r, rfl, h.1, h.2, readBy_yes h.1 h.2⟩
  · refine .inr (readBy_not ?_)
    by_cases h1 : romanText r = s
    · exact .inr (by
       by_cases h2 : s.size = 0
       · exact h2
       · exact absurd ⟨h1, h2⟩ h)
    · exact .inl h1
theorem romRead_same (s : ByteArray) : readBy (parseI s) s = readRoman s := by
 unfold readRoman
 rcases readBy_ways (parseI s) s with ⟨r, _, h2, h3, h4⟩ | h
 · have hb := text_some (r := r) (by rw [h2]; exact h3)
   have := (text_all hb).1
   rw [h2] at this
   rw [h4, this, readBy_yes h2 h3]
 · rcases readBy_ways (parseS s) s with ⟨r, _, h2, h3, h4⟩ | h'
   · have hb := text_some (r := r) (by rw [h2]; exact h3)
     have := (text_all hb).2.1
     rw [h2] at this
     rw [h4, this, readBy_yes h2 h3]
   · rw [h, h']
def feaOk (s : ByteArray) (mv : Bool) (o m d : Int) : Bool := nameOk s && (if mv = true then inB o (-63) 63 && decide (m = 0) && decide (d = 0) else decide (o = 0) && inB d 1 (monthDays 1 1999 m))
def feaDay (c y : Int) (s : ByteArray) (mv : Bool) (o m d : Int) : Int := if feaOk s mv o m d = true ∧ yearP c y then (if mv = true then easter c y + o else dayOf c y m d) else 0
def Fea.ok (f : Fea) : Bool := feaOk f.name f.mv f.off f.m f.d
def Fea.day (f : Fea) (c y : Int) : Int := feaDay c y f.name f.mv f.off f.m f.d
theorem inB_iff {x a b : Int} : inB x a b = true ↔ a ≤ x ∧ x ≤ b := by simp [inB]
theorem days1 (m : Int) : monthDays 1 1999 m = monthDays 1 1 m := by
 by_cases h : 1 ≤ m ∧ m ≤ 12
 · rw [monthDays_plain (.inr rfl) h.1 h.2 (by rw [leap_gre]; omega), monthDays_plain (.inr rfl) h.1 h.2 (by rw [leap_gre]; omega)]
 · rw [monthDays_no (fun k => h k.2), monthDays_no (fun k => h k.2)]
theorem days_le {c : Int} (hc : c = 0 ∨ c = 1) (y m : Int) : monthDays 1 1999 m ≤ monthDays c y m := by
 by_cases h : 1 ≤ m ∧ m ≤ 12
 · rw [monthDays_plain (.inr rfl) h.1 h.2 (by rw [leap_gre]; omega)]
   by_cases hl : m = 2 ∧ leapP c y
   · rw [hl.1, monthDays_leap hc hl.2]
     decide
   · rw [monthDays_plain hc h.1 h.2 hl]
     omega
 · rw [monthDays_no (fun k => h k.2), monthDays_no (fun k => h k.2)]
   omega
theorem fixed_date {c y m d : Int} (hy : yearP c y) (h : inB d 1 (monthDays 1 1999 m) = true) : dateP c y m d := by
 have h1 := inB_iff.1 h
 have := days_le hy.1 y m
 exact ⟨hy.1, hy.2.1, hy.2.2, h1.1, by omega⟩
theorem fixed_day {c y m d : Int} (hy : yearP c y) (h : inB d 1 (monthDays 1 1999 m) = true) : dayOf c y m d = first c y + before c y (m - 1).toNat + d - 1 := by
 unfold dayOf
 rw [if_pos (fixed_date hy h)]
theorem easter_near {c y : Int} (h : yearP c y) : 0 < easter c y ∧ easter c y ≤ 3000000 := by
 have h1 := easter_fact h
 have h2 := march_b h
 rw [easter_eq h]
 omega
theorem feaDay_b (c y : Int) (s : ByteArray) (mv : Bool) (o m d : Int) : -3000 ≤ feaDay c y s mv o m d ∧ feaDay c y s mv o m d ≤ 3001000 := by
 unfold feaDay
 split
 · rename_i h
   cases mv
   · rw [if_neg (by decide)]
     have := dayOf_bound c y m d
     omega
   · rw [if_pos rfl]
     have h1 := easter_near h.2
     have h2 : inB o (-63) 63 = true := by
      have := h.1
      simp [feaOk] at this
      exact this.2.1.1
     have := inB_iff.1 h2
     omega
 · omega
theorem feaDay_no {c y : Int} {s : ByteArray} {mv : Bool} {o m d : Int} (h : feaOk s mv o m d = false) : feaDay c y s mv o m d = 0 := by
 unfold feaDay
 rw [if_neg (by rw [h]; simp)]
theorem feaDay_noYear {c y : Int} {s : ByteArray} {mv : Bool} {o m d : Int} (h : ¬ yearP c y) : feaDay c y s mv o m d = 0 := by
 unfold feaDay
 rw [if_neg (fun k => h k.2)]
theorem feaDay_mv {c y : Int} {s : ByteArray} {o m d : Int} (h : feaOk s true o m d = true) (hy : yearP c y) : feaDay c y s true o m d = easter c y + o := by
 unfold feaDay
 rw [if_pos ⟨h, hy⟩, if_pos rfl]
theorem feaDay_fix {c y : Int} {s : ByteArray} {o m d : Int} (h : feaOk s false o m d = true) (hy : yearP c y) : feaDay c y s false o m d = dayOf c y m d := by
 unfold feaDay
 rw [if_pos ⟨h, hy⟩, if_neg (by decide)]
theorem ok_mv {s : ByteArray} {o m d : Int} (h : feaOk s true o m d = true) : -63 ≤ o ∧ o ≤ 63 := by
 simp [feaOk] at h
 exact inB_iff.1 h.2.1.1
theorem ok_fix {s : ByteArray} {o m d : Int} (h : feaOk s false o m d = true) : inB d 1 (monthDays 1 1999 m) = true := by
 simp [feaOk] at h
 exact h.2.2
theorem fea_box (w : World) (s : ByteArray) (mv : Bool) (o m d : Int) (t : TypeId) : ∃ W0, W0 = w.alloc (.cells #[.string s, .bool mv, .int .i64 o, .int .i64 m, .int .i64 d] t) ∧ (∀ x : Later W0, x.w.cell? ⟨w.heap.size, 0, none⟩ = some (.string s)) ∧ (∀ x : Later W0, x.w.cell? ⟨w.heap.size, 1, none⟩ = some (.bool mv)) ∧ (∀ x : Later W0, x.w.cell? ⟨w.heap.size, 2, none⟩ = some (.int .i64 o)) ∧ (∀ x : Later W0, x.w.cell? ⟨w.heap.size, 3, none⟩ = some (.int .i64 m)) ∧ (∀ x : Later W0, x.w.cell? ⟨w.heap.size, 4, none⟩ = some (.int .i64 d)) ∧ ∀ x : Later W0, Below w.heap.size w x.w :=
 ⟨_, rfl, Later.new rfl 0 rfl, Later.new rfl 1 rfl, Later.new rfl 2 rfl, Later.new rfl 3 rfl, Later.new rfl 4 rfl, fun x => below_alloc x.below⟩
theorem later_same {W w' : World} (h : w' = W) : ∃ x : Later W, w' = x.w := ⟨⟨w', by rw [h]; exact Below.refl _ _⟩, rfl⟩
theorem specFeaOk (s : ByteArray) (mv : Bool) (o m d : Int) (w : World) (hs : s.size ≤ maxLen) : CR 230 #[.agg #[.string s, .bool mv, .int .i64 o, .int .i64 m, .int .i64 d]] w (.bool (feaOk s mv o m d)) := by
 have KN : ∀ W, CS 57 #[.string s] W (.bool (nameOk s)) := fun W => specNameOk s W hs
 obtain ⟨W0, hW0, c0, c1, c2, c3, c4, hBl⟩ := fea_box w s mv o m d 126
 have HW0 := hideP hW0
 have HBl := hideP hBl
 clear hs hW0 hBl
 unfold feaOk
 generalize nameOk s = nb at *
 cases nb
 · rw [Bool.false_and]
   go_enter Tryz.func230, Tryz.ntmps230
   go_wp2_with fail
   rw [← HW0.out]
   refine (KN _).mono ?_
   rintro e w1 ⟨rfl, hw⟩
   obtain ⟨x1, rfl⟩ := later_same hw
   clear hw
   go_wp2
   go_ret
   exact ⟨rfl, HBl.out x1⟩
 rw [Bool.true_and]
 cases mv
 · rw [if_neg (by decide)]
   have KM : ∀ W, CR 220 #[.int .i64 1, .int .i64 1999, .int .i64 m] W (.int .i64 (monthDays 1 1999 m)) := specMonthDays 1 1999 m
   have KD : ∀ W, CS 98 #[.int .i64 d, .int .i64 1, .int .i64 (monthDays 1 1999 m)] W (.bool (inB d 1 (monthDays 1 1999 m))) := l01In d 1 (monthDays 1 1999 m)
   generalize inB d 1 (monthDays 1 1999 m) = bd at *
   generalize monthDays 1 1999 m = md at *
   by_cases ho : o = 0
   · subst ho
     rw [decide_eq_true rfl, Bool.true_and]
     go_enter Tryz.func230, Tryz.ntmps230
     go_wp2_with fail
     rw [← HW0.out]
     refine (KN _).mono ?_
     rintro e w1 ⟨rfl, hw⟩
     obtain ⟨x1, rfl⟩ := later_same hw
     clear hw
     go_wp2_with fail
     refine wp_region_later (W := W0) x1.below (by kernel_rfl) (by kernel_rfl) ?_
     repeat (go_big_quiet_step (first | (go_at_call 98; exact calls_same (KD _)) | (go_at_call 220; exact calls_later (KM _))))
     refine quietE fun x => ?_
     go_wp2
     go_ret
     exact ⟨rfl, HBl.out x⟩
   · have ho' : (o == 0) = false := by simp [ho]
     rw [decide_eq_false ho, Bool.false_and]
     clear KM KD
     go_enter Tryz.func230, Tryz.ntmps230
     go_wp2_with fail
     rw [← HW0.out]
     refine (KN _).mono ?_
     rintro e w1 ⟨rfl, hw⟩
     obtain ⟨x1, rfl⟩ := later_same hw
     clear hw
     go_wp2_with fail
     refine wp_region_later (W := W0) x1.below (by kernel_rfl) (by kernel_rfl) ?_
     repeat (go_big_quiet_step (fail))
     refine quietE fun x => ?_
     go_wp2
     go_ret
     exact ⟨rfl, HBl.out x⟩
 · rw [if_pos rfl]
   have KO : ∀ W, CS 98 #[.int .i64 o, .int .i64 (-63), .int .i64 63] W (.bool (inB o (-63) 63)) := l01In o (-63) 63
   generalize inB o (-63) 63 = bo at *
   cases bo
   · rw [Bool.false_and, Bool.false_and]
     go_enter Tryz.func230, Tryz.ntmps230
     go_wp2_with fail
     rw [← HW0.out]
     refine (KN _).mono ?_
     rintro e w1 ⟨rfl, hw⟩
     obtain ⟨x1, rfl⟩ := later_same hw
     clear hw
     go_wp2_with fail
     refine sameC (KO _) ?_
     go_wp2
     go_ret
     exact ⟨rfl, HBl.out x1⟩
   rw [Bool.true_and]
   by_cases hm : m = 0
   · subst hm
     rw [decide_eq_true rfl, Bool.true_and]
     have hd : decide (d = 0) = (d == 0) := by rw [Bool.eq_iff_iff]; simp
     rw [hd]
     go_enter Tryz.func230, Tryz.ntmps230
     go_wp2_with fail
     rw [← HW0.out]
     refine (KN _).mono ?_
     rintro e w1 ⟨rfl, hw⟩
     obtain ⟨x1, rfl⟩ := later_same hw
     clear hw
     go_wp2_with fail
     refine sameC (KO _) ?_
     go_wp2
     go_ret
     exact ⟨rfl, HBl.out x1⟩
   · have hm' : (m == 0) = false := by simp [hm]
     rw [decide_eq_false hm, Bool.false_and]
     go_enter Tryz.func230, Tryz.ntmps230
     go_wp2_with fail
     rw [← HW0.out]
     refine (KN _).mono ?_
     rintro e w1 ⟨rfl, hw⟩
     obtain ⟨x1, rfl⟩ := later_same hw
     clear hw
     go_wp2_with fail
     refine sameC (KO _) ?_
     go_wp2
     go_ret
     exact ⟨rfl, HBl.out x1⟩
theorem implFeaNamed (s : ByteArray) (mv : Bool) (o m d : Int) (w : World) (hs : s.size ≤ maxLen) : CR 349 #[.agg #[.string s, .bool mv, .int .i64 o, .int .i64 m, .int .i64 d]] w (.bool (nameOk s)) := by
 have KN : ∀ W, CS 73 #[.string s] W (.bool (nameOk s)) := fun W => implNameOk s W hs
 clear hs
 go_enter Tryz.func349, Tryz.ntmps349
 go_wp2_with fail
 refine sameC (KN _) ?_
 go_wp2
 go_ret
 exact ⟨rfl, (Below.refl _ _).alloc (Nat.le_refl _) _⟩
theorem implDateIn (s : ByteArray) (mv : Bool) (o m d c y : Int) (w : World) : CR 348 #[.agg #[.string s, .bool mv, .int .i64 o, .int .i64 m, .int .i64 d], .int .i64 c, .int .i64 y] w (.agg #[.int .i64 c, .int .i64 y, .int .i64 m, .int .i64 d]) := by
 go_enter Tryz.func348, Tryz.ntmps348
 go_wp2
 go_returns
 refine ⟨rfl, ?_⟩
 go_grown
theorem implMovOk (s : ByteArray) (o m d : Int) (w : World) (hs : s.size ≤ maxLen) : CR 345 #[.agg #[.string s, .bool true, .int .i64 o, .int .i64 m, .int .i64 d]] w (.bool (feaOk s true o m d)) := by
 have KN : ∀ W, CR 349 #[.agg #[.string s, .bool true, .int .i64 o, .int .i64 m, .int .i64 d]] W (.bool (nameOk s)) := fun W => implFeaNamed s true o m d W hs
 obtain ⟨W0, hW0, c0, c1, c2, c3, c4, hBl⟩ := fea_box w s true o m d 194
 have HW0 := hideP hW0
 have HBl := hideP hBl
 clear hW0 hBl
 clear hs
 unfold feaOk
 rw [if_pos rfl]
 generalize nameOk s = nb at *
 cases nb
 · rw [Bool.false_and]
   go_enter Tryz.func345, Tryz.ntmps345
   go_wp2_with fail
   rw [← HW0.out]
   refine (KN _).mono ?_
   rintro e w1 ⟨rfl, hb⟩
   obtain ⟨x1, rfl⟩ := Later.of hb
   clear hb
   go_wp2
   go_ret
   exact ⟨rfl, HBl.out x1⟩
 rw [Bool.true_and]
 by_cases hm : m = 0
 case neg =>
  have hm' : (m == 0) = false := by simp [hm]
  have HR : Hid ((inB o (-63) 63 && decide (m = 0) && decide (d = 0)) = false) := by unfold Hid; rw [decide_eq_false hm, Bool.and_false, Bool.false_and]
  rw [HR.out]
  go_enter Tryz.func345, Tryz.ntmps345
  go_wp2_with fail
  rw [← HW0.out]
  refine (KN _).mono ?_
  rintro e w1 ⟨rfl, hb⟩
  obtain ⟨x1, rfl⟩ := Later.of hb
  clear hb
  go_wp2
  go_ret
  exact ⟨rfl, HBl.out x1⟩
 subst hm
 by_cases hd : d = 0
 case neg =>
  have hd' : (d == 0) = false := by simp [hd]
  have HR : Hid ((inB o (-63) 63 && decide ((0 : Int) = 0) && decide (d = 0)) = false) := by unfold Hid; rw [decide_eq_false hd, Bool.and_false]
  rw [HR.out]
  go_enter Tryz.func345, Tryz.ntmps345
  go_wp2_with fail
  rw [← HW0.out]
  refine (KN _).mono ?_
  rintro e w1 ⟨rfl, hb⟩
  obtain ⟨x1, rfl⟩ := Later.of hb
  clear hb
  go_wp2
  go_ret
  exact ⟨rfl, HBl.out x1⟩
 subst hd
 by_cases h1 : -63 ≤ o
 case neg =>
  have HR : Hid ((inB o (-63) 63 && decide ((0 : Int) = 0) && decide ((0 : Int) = 0)) = false) := by unfold Hid; rw [inB_false (.inl (by omega))]; rfl
  rw [HR.out]
  go_enter Tryz.func345, Tryz.ntmps345
  go_wp2_with fail
  rw [← HW0.out]
  refine (KN _).mono ?_
  rintro e w1 ⟨rfl, hb⟩
  obtain ⟨x1, rfl⟩ := Later.of hb
  clear hb
  go_wp2
  go_ret
  exact ⟨rfl, HBl.out x1⟩
 by_cases h2 : o ≤ 63
 case neg =>
  have HR : Hid ((inB o (-63) 63 && decide ((0 : Int) = 0) && decide ((0 : Int) = 0)) = false) := by unfold Hid; rw [inB_false (.inr (by omega))]; rfl
  rw [HR.out]
  go_enter Tryz.func345, Tryz.ntmps345
  go_wp2_with fail
  rw [← HW0.out]
  refine (KN _).mono ?_
  rintro e w1 ⟨rfl, hb⟩
  obtain ⟨x1, rfl⟩ := Later.of hb
  clear hb
  go_wp2
  go_ret
  exact ⟨ret_bool (decide_eq_false (by omega)), HBl.out x1⟩
 have HR : Hid ((inB o (-63) 63 && decide ((0 : Int) = 0) && decide ((0 : Int) = 0)) = true) := by unfold Hid; rw [inB_true h1 h2]; rfl
 rw [HR.out]
 go_enter Tryz.func345, Tryz.ntmps345
 go_wp2_with fail
 rw [← HW0.out]
 refine (KN _).mono ?_
 rintro e w1 ⟨rfl, hb⟩
 obtain ⟨x1, rfl⟩ := Later.of hb
 clear hb
 go_wp2
 go_ret
 exact ⟨rfl, HBl.out x1⟩
theorem fix_date (m d : Int) : dateOk 1 1 m d = inB d 1 (monthDays 1 1999 m) := by
 rw [days1]
 by_cases h : 1 ≤ d ∧ d ≤ monthDays 1 1 m
 · rw [inB_true h.1 h.2, dateOk_true ⟨.inr rfl, by omega, by omega, h.1, h.2⟩]
 · rw [inB_false (by omega), dateOk_false (fun k => h ⟨k.2.2.2.1, k.2.2.2.2⟩)]
theorem implFixOk (s : ByteArray) (o m d : Int) (w : World) (hs : s.size ≤ maxLen) (hT : Tab w) : CR 346 #[.agg #[.string s, .bool false, .int .i64 o, .int .i64 m, .int .i64 d]] w (.bool (feaOk s false o m d)) := by
 have KN : ∀ W, CR 349 #[.agg #[.string s, .bool false, .int .i64 o, .int .i64 m, .int .i64 d]] W (.bool (nameOk s)) := fun W => implFeaNamed s false o m d W hs
 have KI : ∀ W, CR 348 #[.agg #[.string s, .bool false, .int .i64 o, .int .i64 m, .int .i64 d], .int .i64 1, .int .i64 1] W (.agg #[.int .i64 1, .int .i64 1, .int .i64 m, .int .i64 d]) := implDateIn s false o m d 1 1
 obtain ⟨W0, hW0, c0, c1, c2, c3, c4, hBl⟩ := fea_box w s false o m d 126
 have HW0 := hideP hW0
 have HBl := hideP hBl
 clear hW0 hBl
 have KD : ∀ x : Later W0, CR 252 #[.agg #[.int .i64 1, .int .i64 1, .int .i64 m, .int .i64 d]] x.w (.bool (inB d 1 (monthDays 1 1999 m))) := fun x => by
  rw [← fix_date]
  exact implDateOk 1 1 m d x.w (hT.later (HBl.out x))
 clear hs hT
 unfold feaOk
 rw [if_neg (by decide)]
 generalize nameOk s = nb at *
 generalize inB d 1 (monthDays 1 1999 m) = bd at *
 cases nb
 · rw [Bool.false_and]
   go_enter Tryz.func346, Tryz.ntmps346
   go_wp2_with fail
   rw [← HW0.out]
   refine (KN _).mono ?_
   rintro e w1 ⟨rfl, hb⟩
   obtain ⟨x1, rfl⟩ := Later.of hb
   clear hb
   go_wp2
   go_ret
   exact ⟨rfl, HBl.out x1⟩
 rw [Bool.true_and]
 by_cases ho : o = 0
 · subst ho
   rw [decide_eq_true rfl, Bool.true_and]
   go_enter Tryz.func346, Tryz.ntmps346
   go_wp2_with fail
   rw [← HW0.out]
   refine (KN _).mono ?_
   rintro e w1 ⟨rfl, hb⟩
   obtain ⟨x1, rfl⟩ := Later.of hb
   clear hb
   go_wp2_with fail
   refine (KI _).mono ?_
   rintro e w2 ⟨rfl, hb⟩
   obtain ⟨x2, rfl⟩ := x1.next hb
   clear hb
   go_wp2_with fail
   refine (KD _).mono ?_
   rintro e w3 ⟨rfl, hb⟩
   obtain ⟨x3, rfl⟩ := x2.next hb
   clear hb
   go_wp2
   go_ret
   exact ⟨rfl, HBl.out x3⟩
 · have ho' : (o == 0) = false := by simp [ho]
   rw [decide_eq_false ho, Bool.false_and]
   go_enter Tryz.func346, Tryz.ntmps346
   go_wp2_with fail
   rw [← HW0.out]
   refine (KN _).mono ?_
   rintro e w1 ⟨rfl, hb⟩
   obtain ⟨x1, rfl⟩ := Later.of hb
   clear hb
   go_wp2
   go_ret
   exact ⟨rfl, HBl.out x1⟩
theorem implFeaOk (s : ByteArray) (mv : Bool) (o m d : Int) (w : World) (hs : s.size ≤ maxLen) (hT : Tab w) : CR 339 #[.agg #[.string s, .bool mv, .int .i64 o, .int .i64 m, .int .i64 d]] w (.bool (feaOk s mv o m d)) := by
 obtain ⟨W0, hW0, c0, c1, c2, c3, c4, hBl⟩ := fea_box w s mv o m d 126
 have HW0 := hideP hW0
 have HBl := hideP hBl
 clear hW0 hBl
 have KT : ∀ x : Later W0, Tab x.w := fun x => hT.later (HBl.out x)
 obtain ⟨x0, hx0⟩ := Later.of (Below.refl W0.heap.size W0)
 cases mv
 · have K := implFixOk s o m d x0.w hs (KT x0)
   clear hs hT KT
   generalize feaOk s false o m d = r at *
   go_enter Tryz.func339, Tryz.ntmps339
   go_wp2_with fail
   rw [← HW0.out]
   refine (show Calls _ _ _ W0 _ from by rw [hx0]; exact K).mono ?_
   rintro e w1 ⟨rfl, hb⟩
   obtain ⟨x1, rfl⟩ := x0.next hb
   clear hb
   go_wp2
   go_ret
   exact ⟨rfl, HBl.out x1⟩
 · have K := implMovOk s o m d x0.w hs
   clear hs hT KT
   generalize feaOk s true o m d = r at *
   go_enter Tryz.func339, Tryz.ntmps339
   go_wp2_with fail
   rw [← HW0.out]
   refine (show Calls _ _ _ W0 _ from by rw [hx0]; exact K).mono ?_
   rintro e w1 ⟨rfl, hb⟩
   obtain ⟨x1, rfl⟩ := x0.next hb
   clear hb
   go_wp2
   go_ret
   exact ⟨rfl, HBl.out x1⟩
def RowI (W : World) (g : Nat) (xs : List Int) : Prop := ∃ cs t, Blk W g cs t ∧ ∀ j, j < xs.length → cs[j]? = some (.int .i64 (xs.getD j 0))
theorem RowI.cell {W : World} {g : Nat} {xs : List Int} (h : RowI W g xs) {j : Nat} (hj : j < xs.length) : W.cell? ⟨g, j, none⟩ = some (.int .i64 (xs.getD j 0)) := by
 obtain ⟨cs, t, hb, hc⟩ := h
 exact hb.cell j (hc j hj)
theorem RowI.thaw {W : World} {g : Nat} {xs : List Int} (h : RowI W g xs) (j : Nat) : W.frozen? ⟨g, j, none⟩ = false := by
 obtain ⟨cs, t, hb, hc⟩ := h
 exact hb.thaw j
theorem RowI.lt {W : World} {g : Nat} {xs : List Int} (h : RowI W g xs) : g < W.heap.size := by
 obtain ⟨cs, t, hb, hc⟩ := h
 exact hb.lt
theorem RowI.below {W W' : World} {g : Nat} {xs : List Int} (h : RowI W g xs) (hb : Below W.heap.size W W') : RowI W' g xs := by
 obtain ⟨cs, t, hk, hc⟩ := h
 exact ⟨cs, t, hk.below hb hk.lt, hc⟩
theorem RowI.set {W : World} {g : Nat} {xs : List Int} (h : RowI W g xs) {i : Nat} (hi : i < xs.length) (u : Int) : RowI (W.setCell ⟨g, i, none⟩ (.int .i64 u)) g (xs.set i u) := by
 obtain ⟨cs, t, hb, hc⟩ := h
 refine ⟨_, t, hb.set i _, fun j hj => ?_⟩
 rw [List.length_set] at hj
 have hs : i < cs.size := by
  by_cases k : i < cs.size
  · exact k
  · have := hc i hi
    rw [Array.getElem?_eq_none (by omega)] at this
    cases this
 by_cases e : i = j
 · subst e
   rw [Array.getElem?_setIfInBounds_self_of_lt hs]
   simp [List.getD, hi]
 · rw [Array.getElem?_setIfInBounds_ne e, hc j hj]
   simp [List.getD, List.getElem?_set_ne e]
theorem RowI.take {W : World} {g : Nat} {xs : List Int} (h : RowI W g xs) (k : Nat) : RowI W g (xs.take k) := by
 obtain ⟨cs, t, hb, hc⟩ := h
 refine ⟨cs, t, hb, fun j hj => ?_⟩
 rw [List.length_take] at hj
 rw [hc j (by omega)]
 simp [List.getD, show j < k by omega]
theorem blk_setCells {g : Nat} {t : TypeId} : ∀ (vs : List Value) (o : Nat) (w : World) (cs : Array Value), Blk w g cs t → ∃ cs', Blk (w.setCells g o vs) g cs' t ∧ ∀ j, j < o → cs'[j]? = cs[j]?
  | [], o, w, cs, h => ⟨cs, h, fun _ _ => rfl⟩
  | v :: vs, o, w, cs, h => by
   obtain ⟨cs', h1, h2⟩ := blk_setCells vs (o + 1) (w.setCell ⟨g, o, none⟩ v) _ (h.set o v)
   exact ⟨cs', h1, fun j hj => by rw [h2 j (by omega), Array.getElem?_setIfInBounds_ne (by omega)]⟩
theorem RowI.clear {W : World} {g : Nat} {xs : List Int} (h : RowI W g xs) {k : Nat} (vs : List Value) : RowI (W.setCells g k vs) g (xs.take k) := by
 obtain ⟨cs, t, hb, hc⟩ := h
 obtain ⟨cs', h1, h2⟩ := blk_setCells vs k W cs hb
 refine ⟨cs', t, h1, fun j hj => ?_⟩
 rw [List.length_take] at hj
 rw [h2 j (by omega), hc j (by omega)]
 simp [List.getD, show j < k by omega]
theorem RowI.holds {W : World} {g : Nat} {xs : List Int} (h : RowI W g xs) : Sort.Holds (Value.int .i64) W g 0 xs.toArray := fun j hj => by
 have hj' : j < xs.length := by simpa using hj
 rw [Nat.zero_add]
 refine ⟨?_, h.thaw j⟩
 rw [h.cell hj']
 simp [List.getD, hj', getElem!_pos]
theorem blk_map {w : World} {g : Nat} {cs : Array Value} {t : TypeId} (h : Blk w g cs t) (f : Array Value → Array Value) : Blk (Sort.mapBlock w g f) g (f cs) t := by
 unfold Blk at h ⊢
 simp [Sort.mapBlock, Array.getElem?_modify, h, Sort.onCells]
theorem below_map {B : Nat} {w W : World} {g : Nat} (h : Below B w W) (hg : B ≤ g) (f : Array Value → Array Value) : Below B w (Sort.mapBlock W g f) :=
 ⟨h.os, h.tape, h.output, by show _ ≤ (W.heap.modify g _).size; rw [Array.size_modify]; exact h.size, fun k hk => by
  show (W.heap.modify g _)[k]? = _
  rw [Array.getElem?_modify, if_neg (by omega)]
  exact h.block k hk⟩
theorem below_ahead {B : Nat} {w W : World} (h : Below B w W) (n : Nat) : Below B w (Sort.ahead W n) := ⟨h.os, h.tape, h.output, h.size, h.block⟩
theorem below_grow {B : Nat} {w W : World} (h : Below B w W) (hB : B ≤ W.heap.size) (os : Array Obj) : Below B w (Sort.grow W os) :=
 ⟨h.os, h.tape, h.output, Nat.le_trans h.size (by show _ ≤ (W.heap ++ os).size; rw [Array.size_append]; omega), fun k hk => by
  show (W.heap ++ os)[k]? = _
  rw [Array.getElem?_append_left (by omega)]
  exact h.block k hk⟩
theorem RowI.put {W : World} {g : Nat} {xs ys : List Int} (h : RowI W g xs) (hl : ys.length = xs.length) (n : Nat) : RowI (Sort.putRow (Value.int .i64) (Sort.ahead W n) g 0 ys.toArray) g ys := by
 have hh := Sort.cell?_putRow (Value.int .i64) (Sort.ahead W n) g 0 xs.toArray ys.toArray (Sort.holds_ahead _ _ n _ _ _ h.holds) (by simpa using hl)
 obtain ⟨cs, t, hb, _⟩ := h
 have hb' : Blk (Sort.ahead W n) g cs t := hb
 have hq := blk_map hb' (Sort.putCells (Value.int .i64) 0 ys.toArray)
 refine ⟨_, t, hq, fun j hj => ?_⟩
 have h1 := hh j (by simpa using hj)
 unfold Sort.putRow at h1
 unfold Blk at hq
 rw [Nat.zero_add] at h1
 unfold World.cell? at h1
 simp only [hq] at h1
 simpa [List.getD, hj, getElem!_pos] using h1
theorem RowI.grow {W : World} {g : Nat} {xs : List Int} (h : RowI W g xs) (os : Array Obj) : RowI (Sort.grow W os) g xs := h.below (below_grow (Below.refl _ _) (Nat.le_refl _) os)
theorem RowI.mov {w W : World} {g cap : Nat} {xs : List Int} (h : RowI W g xs) (hg : w.heap.size ≤ g) : MovRow w W (.slice (some ⟨g, 0, none⟩) xs.length cap) xs := by
 obtain ⟨cs, t, hb, hc⟩ := h
 refine ⟨_, cap, rfl, .inr ⟨g, t, (cs.toList.drop xs.length).toArray, rfl, hg, ?_⟩⟩
 have e : cs = ints xs ++ (cs.toList.drop xs.length).toArray := by
  have hs : xs.length ≤ cs.size := by
   by_cases k : xs.length ≤ cs.size
   · exact k
   · have := hc cs.size (by omega)
     rw [Array.getElem?_eq_none (Nat.le_refl _)] at this
     cases this
  apply Array.toList_inj.1
  rw [Array.toList_append]
  show cs.toList = (xs.map (Value.int .i64)) ++ cs.toList.drop xs.length
  have e1 : xs.map (Value.int .i64) = cs.toList.take xs.length := by
   apply List.ext_getElem?
   intro j
   by_cases hj : j < xs.length
   · have := hc j hj
     have h2 : cs.toList[j]? = some (.int .i64 (xs.getD j 0)) := (Array.getElem?_toList ..).trans this
     rw [List.getElem?_take, if_pos hj, h2]
     simp [List.getD, hj]
   · rw [List.getElem?_take, if_neg hj, List.getElem?_eq_none (by simp; omega)]
  rw [e1, List.take_append_drop]
 unfold Blk at hb ⊢
 rw [← e]
 exact hb
theorem own_rowI {w W : World} {v : Value} {xs : List Int} {e : TypeId} (h : W.ownsRow w.heap.size e 1 v xs.length (xs.map (Value.int .i64))) : (xs = [] ∧ v = .slice none 0 0) ∨ ∃ g cap, v = .slice (some ⟨g, 0, none⟩) xs.length cap ∧ xs.length ≤ cap ∧ w.heap.size ≤ g ∧ RowI W g xs := by
 rcases h.2 with ⟨hv, h0⟩ | ⟨g, cap, cur, hv, hb, hh, hcap, _, hsz, htake⟩
 · exact .inl ⟨List.length_eq_zero_iff.1 h0, by rw [hv]⟩
 · refine .inr ⟨g, cap, hv, hcap, hb, cur, e, hh, fun j hj => ?_⟩
   have e1 := congrArg (fun l : List Value => l[j]?) htake
   simp only [List.getElem?_take, show j < xs.length * 1 by omega, if_true, List.getElem?_map, Array.getElem?_toList] at e1
   rw [e1]
   simp [List.getD, hj]
structure Kpt (p : Int → Bool) (xs L : List Int) (i j : Nat) : Prop where
 len : L.length = xs.length
 lt : i < j
 le : j ≤ xs.length
 low : L.take i = (xs.take j).filter p
 high : L.drop j = xs.drop j
theorem Kpt.start {p : Int → Bool} {xs : List Int} {k : Nat} (hk : k < xs.length) (h0 : p (xs.getD k 0) = false) (h : ∀ j, j < k → p (xs.getD j 0) = true) : Kpt p xs xs k (k + 1) where
 len := rfl
 lt := Nat.lt_succ_self _
 le := hk
 low := by
  rw [List.take_succ_eq_append_getElem hk, List.filter_append]
  have e : xs[k] = xs.getD k 0 := by simp [List.getD, hk]
  rw [e, List.filter_cons_of_neg (by rw [h0]; simp), List.filter_nil, List.append_nil]
  refine (List.filter_eq_self.2 (fun a ha => ?_)).symm
  obtain ⟨j, hj, rfl⟩ := List.getElem_of_mem ha
  rw [List.length_take] at hj
  have := h j (by omega)
  rw [List.getElem_take]
  simpa [List.getD, show j < xs.length by omega] using this
 high := rfl
theorem Kpt.at {p : Int → Bool} {xs L : List Int} {i j : Nat} (h : Kpt p xs L i j) : L.getD j 0 = xs.getD j 0 := by
 have e := congrArg (fun l : List Int => l.getD 0 0) h.high
 simpa [List.getD] using e
theorem Kpt.keep {p : Int → Bool} {xs L : List Int} {i j : Nat} (h : Kpt p xs L i j) (hj : j < xs.length) (hp : p (xs.getD j 0) = true) : Kpt p xs (L.set i (xs.getD j 0)) (i + 1) (j + 1) where
 len := by rw [List.length_set, h.len]
 lt := by have := h.lt; omega
 le := hj
 low := by
  have hi : i < L.length := by have := h.lt; have := h.len; omega
  have e : xs[j] = xs.getD j 0 := by simp [List.getD, hj]
  rw [List.take_succ_eq_append_getElem hj, List.filter_append, ← h.low, e, List.filter_cons_of_pos hp, List.filter_nil]
  rw [List.take_succ_eq_append_getElem (by rw [List.length_set]; exact hi), List.getElem_set_self, List.take_set_of_le (Nat.le_refl _)]
 high := by
  rw [List.drop_set_of_lt (by have := h.lt; omega)]
  have e := congrArg (List.drop 1) h.high
  simpa [List.drop_drop] using e
theorem Kpt.skip {p : Int → Bool} {xs L : List Int} {i j : Nat} (h : Kpt p xs L i j) (hj : j < xs.length) (hp : p (xs.getD j 0) = false) : Kpt p xs L i (j + 1) where
 len := h.len
 lt := by have := h.lt; omega
 le := hj
 low := by
  have e : xs[j] = xs.getD j 0 := by simp [List.getD, hj]
  rw [List.take_succ_eq_append_getElem hj, List.filter_append, ← h.low, e, List.filter_cons_of_neg (by rw [hp]; simp), List.filter_nil, List.append_nil]
 high := by
  have e := congrArg (List.drop 1) h.high
  simpa [List.drop_drop] using e
theorem Kpt.done {p : Int → Bool} {xs L : List Int} {i : Nat} (h : Kpt p xs L i xs.length) : L.take i = xs.filter p ∧ i = (xs.filter p).length := by
 have e : L.take i = xs.filter p := by rw [h.low, List.take_length]
 refine ⟨e, ?_⟩
 rw [← e, List.length_take]
 have := h.lt
 have := h.len
 omega
end Go.Proofs.YtpclaceefapppaaGreatDoor.ctr
