/- Contracts of the model's l01Many, l01Digit and PutRoman: PutRoman answers the plain function putRoman at every int; nothing is written. -/
import Derived.Test.YtoofnjccpoeomaaGreatDoorBase
import Derived.Handy
namespace Go.Proofs.YtoofnjccpoeomaaGreatDoor.ctr
open Go.RowKit

/-- A digit by the signs of its rank. -/
def digL (d : Nat) (a b c : UInt8) : List UInt8 :=
  match d with
  | 1 => [a] | 2 => [a, a] | 3 => [a, a, a] | 4 => [a, b] | 5 => [b] | 6 => [b, a] | 7 => [b, a, a] | 8 => [b, a, a, a] | 9 => [a, c] | _ => []
theorem digL_len (d : Nat) (a b c : UInt8) : (digL d a b c).length ≤ 4 := by unfold digL; split <;> simp
def manyL (c : UInt8) (n : Nat) : List UInt8 := List.replicate n c
theorem manyL_len (c : UInt8) (n : Nat) : (manyL c n).length = n := by simp [manyL]
theorem manyL_snoc (c : UInt8) (n : Nat) : manyL c n ++ [c] = manyL c (n + 1) := by simp [manyL, List.replicate_succ']
def roman (n : Nat) : List UInt8 := manyL 77 (n / 1000) ++ digL (n / 100 % 10) 67 68 77 ++ digL (n / 10 % 10) 88 76 67 ++ digL (n % 10) 73 86 88
def putRoman (n : Int) : ByteArray := ⟨(if 1 ≤ n ∧ n ≤ 3999 then roman n.toNat else []).toArray⟩
theorem roman_int (n : Int) (h : 0 ≤ n) : roman n.toNat = manyL 77 (n / 1000).toNat ++ digL (n / 100 % 10).toNat 67 68 77 ++ digL (n / 10 % 10).toNat 88 76 67 ++ digL (n % 10).toNat 73 86 88 := by
  unfold roman
  rw [show (n / 1000).toNat = n.toNat / 1000 from by omega, show (n / 100 % 10).toNat = n.toNat / 100 % 10 from by omega, show (n / 10 % 10).toNat = n.toNat / 10 % 10 from by omega, show (n % 10).toNat = n.toNat % 10 from by omega]
theorem putRoman_no {n : Int} (h : n < 1 ∨ 3999 < n) : putRoman n = ⟨#[]⟩ := by unfold putRoman; rw [if_neg (by omega)]
theorem join_list (a b : List UInt8) : (⟨a.toArray⟩ : ByteArray) ++ ⟨b.toArray⟩ = ⟨(a ++ b).toArray⟩ := by
  apply WideShapes.bytes_inj
  simp
theorem digit_cases {d : Int} (h0 : 0 ≤ d) (h1 : d ≤ 9) : d = 0 ∨ d = 1 ∨ d = 2 ∨ d = 3 ∨ d = 4 ∨ d = 5 ∨ d = 6 ∨ d = 7 ∨ d = 8 ∨ d = 9 := by omega

set_option maxHeartbeats 400000 in
theorem l01Many (c : UInt8) (n : Int) (w : World) (h0 : 0 ≤ n) (h3 : n ≤ 1000) :
    Calls Tryz.prog 68 #[.string ⟨#[c]⟩, .int .i64 n] w fun e w' => e = .returned (.string ⟨(manyL c n.toNat).toArray⟩) ∧ w' = w := by
  go_enter Tryz.func68, Tryz.ntmps68
  go_wp2
  go_loop [5, 6] (fun o i => ∃ k : Nat, (k : Int) ≤ n ∧ i = .int .i64 k ∧ ∃ l : List UInt8, l.length = k ∧ o = .string ⟨l.toArray⟩ ∧ Hid (l = manyL c k)) (fun _ i => n.toNat - (intOf i).toNat)
  case atStart => exact ⟨0, by omega, rfl, [], rfl, rfl, rfl⟩
  case round =>
    obtain ⟨k, hk, rfl, l, hl, rfl, HL⟩ := hrel
    have hl' : l.length ≤ 1000 := by omega
    have HK : Hid (l.length = k) := hl
    clear hl
    by_cases hlt : (k : Int) < n
    · go_wp2
      refine ⟨⟨k + 1, by omega, by go_num, l ++ [c], by simp [HK.out], ?_, by unfold Hid; rw [HL.out, manyL_snoc]⟩, by simp [intOf]; omega⟩
      exact congrArg Value.string (join_list l [c])
    · have e : n.toNat = k := by omega
      have HE : Hid (n.toNat = k) := e
      clear e
      go_wp2
      go_ret
      exact ⟨ret_str (by rw [HE.out, HL.out]), rfl⟩

set_option maxHeartbeats 1000000 in
theorem l01Digit (d : Int) (a b c : UInt8) (w : World) (h0 : 0 ≤ d) (h9 : d ≤ 9) :
    Calls Tryz.prog 69 #[.int .i64 d, .string ⟨#[a]⟩, .string ⟨#[b]⟩, .string ⟨#[c]⟩] w fun e w' => e = .returned (.string ⟨(digL d.toNat a b c).toArray⟩) ∧ w' = w := by
  rcases digit_cases h0 h9 with rfl | rfl | rfl | rfl | rfl | rfl | rfl | rfl | rfl | rfl
  all_goals
    go_enter Tryz.func69, Tryz.ntmps69
    go_wp2_with (go_at_call 68; refine (l01Many _ _ _ (by omega) (by omega)).mono ?_; rintro e w' ⟨rfl, rfl⟩)
    go_ret
    exact ⟨rfl, rfl⟩

set_option maxHeartbeats 400000 in
theorem specPutRoman (n : Int) (w : World) :
    Calls Tryz.prog 44 #[.int .i64 n] w fun e w' => e = .returned (.string (putRoman n)) ∧ w' = w := by
  by_cases hin : 1 ≤ n ∧ n ≤ 3999
  · obtain ⟨h1, h2⟩ := hin
    have HP : Hid (putRoman n = ⟨(roman n.toNat).toArray⟩) := by unfold Hid putRoman; rw [if_pos ⟨h1, h2⟩]
    have hi : inB n 1 3999 = true := inB_true h1 h2
    go_enter Tryz.func44, Tryz.ntmps44
    go_wp2_with (go_at_call 40; refine (l01In _ _ _ _).mono ?_; rintro e w' ⟨rfl, rfl⟩)
    refine (l01Many _ _ _ (by omega) (by omega)).mono ?_
    rintro e w' ⟨rfl, rfl⟩
    have l1 := manyL_len 77 (n / 1000).toNat
    generalize hx1 : manyL 77 (n / 1000).toNat = x1 at *
    have hl1 : x1.length ≤ 3 := by omega
    have H1 : Hid (manyL 77 (n / 1000).toNat = x1) := hx1
    clear hx1 l1
    go_wp2_with fail
    refine (l01Digit _ _ _ _ _ (by omega) (by omega)).mono ?_
    rintro e w' ⟨rfl, rfl⟩
    have hl2 := digL_len (n / 100 % 10).toNat 67 68 77
    generalize hx2 : digL (n / 100 % 10).toNat 67 68 77 = x2 at *
    have H2 : Hid (digL (n / 100 % 10).toNat 67 68 77 = x2) := hx2
    clear hx2
    go_wp2_with fail
    refine (l01Digit _ _ _ _ _ (by omega) (by omega)).mono ?_
    rintro e w' ⟨rfl, rfl⟩
    have hl3 := digL_len (n / 10 % 10).toNat 88 76 67
    generalize hx3 : digL (n / 10 % 10).toNat 88 76 67 = x3 at *
    have H3 : Hid (digL (n / 10 % 10).toNat 88 76 67 = x3) := hx3
    clear hx3
    go_wp2_with fail
    refine (l01Digit _ _ _ _ _ (by omega) (by omega)).mono ?_
    rintro e w' ⟨rfl, rfl⟩
    have hl4 := digL_len (n % 10).toNat 73 86 88
    generalize hx4 : digL (n % 10).toNat 73 86 88 = x4 at *
    have H4 : Hid (digL (n % 10).toNat 73 86 88 = x4) := hx4
    clear hx4
    go_wp2
    go_ret
    refine ⟨ret_str ?_, rfl⟩
    rw [join_list, join_list, join_list, HP.out, roman_int n (by omega), H1.out, H2.out, H3.out, H4.out]
  · have HP := putRoman_no (n := n) (by omega)
    rw [HP]
    clear HP
    have hi : inB n 1 3999 = false := inB_false (by omega)
    go_enter Tryz.func44, Tryz.ntmps44
    go_wp2_with (go_at_call 40; refine (l01In _ _ _ _).mono ?_; rintro e w' ⟨rfl, rfl⟩)
    go_ret
    exact ⟨rfl, rfl⟩
end Go.Proofs.YtoofnjccpoeomaaGreatDoor.ctr
