/- Contract of the model's DecText: at every int it answers the decimal numeral (the library's plain function Lib.itoa); nothing is written. -/
import Derived.Test.YtoofnjccpoeomaaGreatDoorBase
import Derived.Lib.ItoaNum
namespace Go.Proofs.YtoofnjccpoeomaaGreatDoor.ctr
open Go.RowKit

/-- What is left to write of m ahead of what stands. -/
def left (m : Int) : List UInt8 := if m = 0 then [] else Lib.decDigits m.natAbs
theorem left_step (m : Int) (h : m ≠ 0) : left m = left (m.tdiv 10) ++ [UInt8.ofNat (48 + m.natAbs % 10)] := by
  have e : (m.tdiv 10).natAbs = m.natAbs / 10 := by rw [Int.natAbs_tdiv]; rfl
  unfold left
  rw [if_neg h, Lib.decDigits]
  by_cases h0 : m.natAbs < 10
  · rw [dif_pos h0, if_pos (by omega), Nat.mod_eq_of_lt h0]
    rfl
  · rw [dif_neg h0, if_neg (by omega), e]
theorem dec_len : ∀ (k u : Nat), u < 10 ^ (k + 1) → (Lib.decDigits u).length ≤ k + 1
  | 0, u, h => by rw [Lib.decDigits, dif_pos (by simpa using h)]; simp
  | k + 1, u, h => by
    rw [Lib.decDigits]
    by_cases h0 : u < 10
    · rw [dif_pos h0]; simp
    · rw [dif_neg h0, List.length_append]
      have := dec_len k (u / 10) (by rw [Nat.pow_succ] at h; omega)
      simp
      omega
theorem left_len (n : Int) (h0 : -9223372036854775808 ≤ n) (h1 : n ≤ 9223372036854775807) : (left n).length ≤ 20 := by
  unfold left
  by_cases h : n = 0
  · rw [if_pos h]; simp
  · rw [if_neg h]
    exact dec_len 19 n.natAbs (by have : (10 : Nat) ^ (19 + 1) = 100000000000000000000 := by decide
                                  omega)
theorem out_len {m n : Int} {out : List UInt8} (h : left m ++ out = left n) (h0 : -9223372036854775808 ≤ n) (h1 : n ≤ 9223372036854775807) : out.length ≤ 20 := by
  have := left_len n h0 h1
  rw [← h, List.length_append] at this
  omega
theorem digits_one : ∀ i : Fin 10, (⟨#[48, 49, 50, 51, 52, 53, 54, 55, 56, 57]⟩ : ByteArray).extract i.val (i.val + 1) = ⟨#[UInt8.ofNat (48 + i.val)]⟩ := by decide
theorem digit_join (d : Int) (k : Nat) (h0 : 0 ≤ d) (h1 : d < 10) (hk : d.toNat = k) (out : List UInt8) :
    Value.string ((⟨#[48, 49, 50, 51, 52, 53, 54, 55, 56, 57]⟩ : ByteArray).extract d.toNat (d + 1).toNat ++ ⟨out.toArray⟩) = .string ⟨(UInt8.ofNat (48 + k) :: out).toArray⟩ := by
  have e : (d + 1).toNat = d.toNat + 1 := by omega
  rw [e, hk, digits_one ⟨k, by omega⟩]
  congr 1
theorem itoa_left (n : Int) (h : n ≠ 0) : Lib.itoa n = if n < 0 then 45 :: left n else left n := by
  unfold Lib.itoa left
  rw [if_neg h]
  by_cases hn : n < 0
  · rw [if_pos hn, if_pos hn]
  · rw [if_neg hn, if_neg hn, show n.toNat = n.natAbs from by omega]

set_option maxHeartbeats 400000 in
theorem specDecText (n : Int) (w : World) (h0 : -9223372036854775808 ≤ n) (h1 : n ≤ 9223372036854775807) :
    Calls Tryz.prog 18 #[.int .i64 n] w fun e w' => e = .returned (.string ⟨(Lib.itoa n).toArray⟩) ∧ w' = w := by
  by_cases hz : n = 0
  · subst hz
    go_enter Tryz.func18, Tryz.ntmps18
    go_wp2
    go_ret
    exact ⟨ret_str (by unfold Lib.itoa; rw [if_neg (by decide), Lib.decDigits]; rfl), rfl⟩
  have hz' : (n == 0) = false := by simp [hz]
  go_enter Tryz.func18, Tryz.ntmps18
  go_wp2
  go_loop [3, 4] (fun o t => ∃ (m : Int) (out : List UInt8), t = .int .i64 m ∧ o = .string ⟨out.toArray⟩ ∧ -9223372036854775808 ≤ m ∧ m ≤ 9223372036854775807 ∧ left m ++ out = left n) (fun _ t => (intOf t).natAbs)
  case atStart => exact ⟨n, [], rfl, rfl, h0, h1, by simp⟩
  case round =>
    obtain ⟨m, out, rfl, rfl, b0, b1, hl⟩ := hrel
    have HL : Hid (left m ++ out = left n) := hl
    have ho := out_len hl h0 h1
    clear hl
    by_cases hm : m = 0
    · subst hm
      by_cases hn : n < 0
      · go_wp2
        go_ret
        refine ⟨ret_str ?_, rfl⟩
        rw [itoa_left n hz, if_pos hn, ← HL.out]
        rfl
      · go_wp2
        go_ret
        refine ⟨ret_str ?_, rfl⟩
        rw [itoa_left n hz, if_neg (by omega), ← HL.out]
        rfl
    · have hm' : (m != 0) = true := by simp [hm]
      have t1 : -10 < m.tmod 10 := Int.lt_tmod_of_pos m (by omega)
      have t2 : m.tmod 10 < 10 := Int.tmod_lt_of_pos m (by omega)
      have HA : Hid ((m.tmod 10).natAbs = m.natAbs % 10) := by unfold Hid; rw [Int.natAbs_tmod]; rfl
      have HQ : Hid ((m.tdiv 10).natAbs = m.natAbs / 10) := by unfold Hid; rw [Int.natAbs_tdiv]; rfl
      by_cases hr : m.tmod 10 < 0
      · go_wp2
        refine ⟨⟨m.tdiv 10, UInt8.ofNat (48 + m.natAbs % 10) :: out, rfl, ?_, ?_, ?_, ?_⟩, ?_⟩
        · exact digit_join (-m.tmod 10) _ (by omega) (by omega) (by have := HA.out; omega) out
        · have := HQ.out; omega
        · have := HQ.out; omega
        · rw [← HL.out, left_step m hm]; simp
        · show (m.tdiv 10).natAbs < m.natAbs
          rw [HQ.out]; omega
      · go_wp2
        refine ⟨⟨m.tdiv 10, UInt8.ofNat (48 + m.natAbs % 10) :: out, rfl, ?_, ?_, ?_, ?_⟩, ?_⟩
        · exact digit_join (m.tmod 10) _ (by omega) (by omega) (by have := HA.out; omega) out
        · have := HQ.out; omega
        · have := HQ.out; omega
        · rw [← HL.out, left_step m hm]; simp
        · show (m.tdiv 10).natAbs < m.natAbs
          rw [HQ.out]; omega
end Go.Proofs.YtoofnjccpoeomaaGreatDoor.ctr
