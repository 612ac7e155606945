/- A number comes back from its digits. -/
import Derived.Test.YtifekkehbaegiaaGreatDoorReadCtr
namespace Go.Proofs.YtifekkehbaegiaaGreatDoor.ctr
open Go.RowKit

theorem valL_snoc (l : List UInt8) (c : UInt8) : valL (l ++ [c]) = 10 * valL l + (c.toNat : Int) - 48 := by
  unfold valL
  rw [List.foldl_append]
  rfl
theorem dig_nat (k : Nat) (h : k < 10) : (UInt8.ofNat (48 + k)).toNat = 48 + k := by
  show (48 + k) % 256 = 48 + k
  omega
theorem valL_dec (u : Nat) : valL (Lib.decDigits u) = (u : Int) := by
  induction u using Nat.strongRecOn with
  | ind u ih =>
    rw [Lib.decDigits]
    by_cases h : u < 10
    · rw [dif_pos h]
      have := dig_nat u h
      have e := valL_snoc [] (UInt8.ofNat (48 + u))
      rw [List.nil_append] at e
      rw [e, this]
      simp [valL]
      omega
    · rw [dif_neg h, valL_snoc, ih (u / 10) (by omega), dig_nat (u % 10) (by omega)]
      omega
theorem dec_digs (u : Nat) : (Lib.decDigits u).all digB = true := by
  induction u using Nat.strongRecOn with
  | ind u ih =>
    rw [Lib.decDigits]
    by_cases h : u < 10
    · rw [dif_pos h]
      simp only [List.all_cons, List.all_nil, Bool.and_true]
      unfold digB
      rw [dig_nat u h]
      exact inB_true (by omega) (by omega)
    · rw [dif_neg h, List.all_append, ih (u / 10) (by omega)]
      simp only [List.all_cons, List.all_nil, Bool.and_true, Bool.true_and]
      unfold digB
      rw [dig_nat (u % 10) (by omega)]
      exact inB_true (by omega) (by omega)
theorem read_back (e : Int) (h0 : 0 ≤ e) (h1 : e ≤ 999999999) : readDec (itoaB e) = e := by
  have hi : Lib.itoa e = Lib.decDigits e.toNat := by unfold Lib.itoa; rw [if_neg (by omega)]
  have hs : (itoaB e).size = (Lib.decDigits e.toNat).length := by show (Lib.itoa e).length = _; rw [hi]
  have hl : (itoaB e).data.toList = Lib.decDigits e.toNat := by show (Lib.itoa e).toArray.toList = _; rw [hi]
  have ht : (itoaB e).data.toList.take (itoaB e).size = Lib.decDigits e.toNat := by rw [take_all, hl]
  have hv : val (itoaB e) (itoaB e).size = e := by unfold val; rw [ht, valL_dec]; omega
  have hp : (10 : Nat) ^ (8 + 1) = 1000000000 := by decide
  have h9 : (itoaB e).size ≤ 9 := by rw [hs]; exact dec_len 8 e.toNat (by rw [hp]; omega)
  have hd : digs (itoaB e) (itoaB e).size = true := by unfold digs; rw [ht]; exact dec_digs _
  have := read_good (itoaB e) h9 hd (by rw [hv])
  rw [this, hv]
end Go.Proofs.YtifekkehbaegiaaGreatDoor.ctr
