/- Contracts of the model's l01Worth and GetRoman: GetRoman answers the plain function getRoman at every text of at most 1048576 bytes; nothing is written. -/
import Derived.Test.YtoofnjccpoeomaaGreatDoorRomanCtr
namespace Go.Proofs.YtoofnjccpoeomaaGreatDoor.ctr
open Go.RowKit

def worth (x : Int) : Int := if x = 73 then 1 else if x = 86 then 5 else if x = 88 then 10 else if x = 76 then 50 else if x = 67 then 100 else if x = 68 then 500 else if x = 77 then 1000 else 0
theorem worth_bd (x : Int) : 0 ≤ worth x ∧ worth x ≤ 1000 := by
  unfold worth
  repeat' split
  all_goals omega
def byteAt (s : ByteArray) (k : Nat) : Int := ((s.data.toList.getD k 0).toNat : Int)
theorem byteAt_eq (s : ByteArray) (k : Nat) (h : k < s.size) : (s[k].toNat : Int) = byteAt s k := by
  have h' : k < s.data.toList.length := h
  unfold byteAt
  rw [List.getD, List.getElem?_eq_getElem h']
  rfl
def stepAt (s : ByteArray) (k : Nat) : Int := if k + 1 < s.size ∧ worth (byteAt s k) < worth (byteAt s (k + 1)) then -worth (byteAt s k) else worth (byteAt s k)
def sumR (s : ByteArray) : Nat → Int
  | 0 => 0
  | k + 1 => sumR s k + stepAt s k
theorem step_bd (s : ByteArray) (k : Nat) : -1000 ≤ stepAt s k ∧ stepAt s k ≤ 1000 := by
  have := worth_bd (byteAt s k)
  unfold stepAt
  split <;> omega
theorem sum_bd (s : ByteArray) : ∀ k : Nat, -1000 * (k : Int) ≤ sumR s k ∧ sumR s k ≤ 1000 * (k : Int)
  | 0 => by simp [sumR]
  | k + 1 => by
    have h1 := sum_bd s k
    have h2 := step_bd s k
    unfold sumR
    omega
def getRoman (s : ByteArray) : Int := if putRoman (sumR s s.size) = s then sumR s s.size else 0
def goodB (c : UInt8) : Bool := worth (c.toNat : Int) != 0
theorem digL_all (p : UInt8 → Bool) (d : Nat) (a b c : UInt8) (ha : p a = true) (hb : p b = true) (hc : p c = true) : (digL d a b c).all p = true := by
  unfold digL
  split <;> simp [ha, hb, hc]
theorem roman_good (n : Int) : (putRoman n).data.toList.all goodB = true ∧ (putRoman n).size ≤ 15 := by
  unfold putRoman
  by_cases h : 1 ≤ n ∧ n ≤ 3999
  · rw [if_pos h]
    unfold roman
    constructor
    · simp only [List.all_append, Bool.and_eq_true]
      refine ⟨⟨⟨?_, digL_all _ _ _ _ _ (by decide) (by decide) (by decide)⟩, digL_all _ _ _ _ _ (by decide) (by decide) (by decide)⟩, digL_all _ _ _ _ _ (by decide) (by decide) (by decide)⟩
      simp [manyL]
      exact .inr (by decide)
    · show (manyL 77 (n.toNat / 1000) ++ digL (n.toNat / 100 % 10) 67 68 77 ++ digL (n.toNat / 10 % 10) 88 76 67 ++ digL (n.toNat % 10) 73 86 88).length ≤ 15
      have h1 := manyL_len 77 (n.toNat / 1000)
      have h2 := digL_len (n.toNat / 100 % 10) 67 68 77
      have h3 := digL_len (n.toNat / 10 % 10) 88 76 67
      have h4 := digL_len (n.toNat % 10) 73 86 88
      simp only [List.length_append]
      omega
  · rw [if_neg h]
    exact ⟨rfl, Nat.zero_le _⟩
theorem get_zero (s : ByteArray) (h : putRoman (sumR s s.size) ≠ s) : getRoman s = 0 := by unfold getRoman; rw [if_neg h]
theorem get_long (s : ByteArray) (h : 15 < s.size) : getRoman s = 0 := by
  apply get_zero
  intro e
  have := (roman_good (sumR s s.size)).2
  rw [e] at this
  omega
theorem get_bad (s : ByteArray) (k : Nat) (h : k < s.size) (hw : worth (byteAt s k) = 0) : getRoman s = 0 := by
  apply get_zero
  intro e
  have := (roman_good (sumR s s.size)).1
  rw [e, List.all_eq_true] at this
  have h' : k < s.data.toList.length := h
  have hg := this _ (List.getElem_mem h')
  unfold goodB at hg
  have : byteAt s k = ((s.data.toList[k]).toNat : Int) := by unfold byteAt; rw [List.getD, List.getElem?_eq_getElem h']; rfl
  rw [← this, hw] at hg
  simp at hg
theorem get_sum (s : ByteArray) (h : putRoman (sumR s s.size) = s) : getRoman s = sumR s s.size := by unfold getRoman; rw [if_pos h]
theorem get_empty (s : ByteArray) (h : s.size = 0) : getRoman s = 0 := by
  unfold getRoman
  rw [h]
  split <;> rfl

set_option maxHeartbeats 1000000 in
theorem l01Worth (x : Int) (w : World) : Calls Tryz.prog 94 #[.int .u8 x] w fun e w' => e = .returned (.int .i64 (worth x)) ∧ w' = w := by
  by_cases c1 : x = 73
  · subst c1; go_enter Tryz.func94, Tryz.ntmps94; go_wp2; go_ret; exact ⟨rfl, rfl⟩
  by_cases c2 : x = 86
  · subst c2; go_enter Tryz.func94, Tryz.ntmps94; go_wp2; go_ret; exact ⟨rfl, rfl⟩
  by_cases c3 : x = 88
  · subst c3; go_enter Tryz.func94, Tryz.ntmps94; go_wp2; go_ret; exact ⟨rfl, rfl⟩
  by_cases c4 : x = 76
  · subst c4; go_enter Tryz.func94, Tryz.ntmps94; go_wp2; go_ret; exact ⟨rfl, rfl⟩
  by_cases c5 : x = 67
  · subst c5; go_enter Tryz.func94, Tryz.ntmps94; go_wp2; go_ret; exact ⟨rfl, rfl⟩
  by_cases c6 : x = 68
  · subst c6; go_enter Tryz.func94, Tryz.ntmps94; go_wp2; go_ret; exact ⟨rfl, rfl⟩
  by_cases c7 : x = 77
  · subst c7; go_enter Tryz.func94, Tryz.ntmps94; go_wp2; go_ret; exact ⟨rfl, rfl⟩
  have HW : Hid (worth x = 0) := by unfold Hid worth; simp [c1, c2, c3, c4, c5, c6, c7]
  go_enter Tryz.func94, Tryz.ntmps94
  go_wp2
  go_ret
  exact ⟨ret_int HW.out.symm, rfl⟩

set_option maxHeartbeats 1000000 in
theorem specGetRoman (s : ByteArray) (w : World) (hs : s.size ≤ 1048576) :
    Calls Tryz.prog 74 #[.string s] w fun e w' => e = .returned (.int .i64 (getRoman s)) ∧ w' = w := by
  go_enter Tryz.func74, Tryz.ntmps74
  go_wp2
  go_loop [3, 4] (fun n i => ∃ (k : Nat) (v : Int), k ≤ s.size ∧ i = .int .i64 k ∧ n = .int .i64 v ∧ -1048576000 ≤ v ∧ v ≤ 1048576000 ∧ Hid (v = sumR s k)) (fun _ i => s.size - (intOf i).toNat)
  case atStart => exact ⟨0, 0, Nat.zero_le _, rfl, rfl, by omega, by omega, rfl⟩
  case round =>
    obtain ⟨k, v, hk, rfl, rfl, v0, v1, HV⟩ := hrel
    by_cases hlt : k < s.size
    · have hx := byteAt_eq s k hlt
      obtain ⟨u0, u1⟩ := worth_bd (byteAt s k)
      by_cases hz : worth (byteAt s k) = 0
      · have HB : Hid (getRoman s = 0) := get_bad s k hlt hz
        have hz' : (worth (byteAt s k) == 0) = true := by simp [hz]
        clear hz
        go_wp2_with (go_at_call 94; refine (l01Worth _ _).mono ?_; rintro e w' ⟨rfl, rfl⟩)
        go_ret
        exact ⟨ret_int HB.out.symm, rfl⟩
      have hz' : (worth (byteAt s k) == 0) = false := by simp [hz]
      clear hz
      by_cases h15 : 15 < s.size
      · have HB : Hid (getRoman s = 0) := get_long s h15
        go_wp2_with (go_at_call 94; refine (l01Worth _ _).mono ?_; rintro e w' ⟨rfl, rfl⟩)
        go_ret
        exact ⟨ret_int HB.out.symm, rfl⟩
      have hsb := sum_bd s (k + 1)
      obtain ⟨sb0, sb1⟩ : -1048576000 ≤ sumR s (k + 1) ∧ sumR s (k + 1) ≤ 1048576000 := by omega
      clear hsb
      have HS : Hid (sumR s (k + 1) = v + stepAt s k) := by unfold Hid; rw [HV.out]; rfl
      by_cases hn : k + 1 < s.size
      · have hx2 := byteAt_eq s (k + 1) hn
        obtain ⟨y0, y1⟩ := worth_bd (byteAt s (k + 1))
        by_cases hg : worth (byteAt s k) < worth (byteAt s (k + 1))
        · have HT : Hid (stepAt s k = -worth (byteAt s k)) := by unfold Hid stepAt; rw [if_pos ⟨hn, hg⟩]
          go_wp2_with (go_at_call 94; refine (l01Worth _ _).mono ?_; rintro e w' ⟨rfl, rfl⟩)
          exact ⟨⟨k + 1, sumR s (k + 1), by omega, by go_num, by rw [HS.out, HT.out], sb0, sb1, rfl⟩, by simp [intOf]; omega⟩
        · have HT : Hid (stepAt s k = worth (byteAt s k)) := by unfold Hid stepAt; rw [if_neg (by omega)]
          go_wp2_with (go_at_call 94; refine (l01Worth _ _).mono ?_; rintro e w' ⟨rfl, rfl⟩)
          exact ⟨⟨k + 1, sumR s (k + 1), by omega, by go_num, by rw [HS.out, HT.out], sb0, sb1, rfl⟩, by simp [intOf]; omega⟩
      · have HT : Hid (stepAt s k = worth (byteAt s k)) := by unfold Hid stepAt; rw [if_neg (by omega)]
        go_wp2_with (go_at_call 94; refine (l01Worth _ _).mono ?_; rintro e w' ⟨rfl, rfl⟩)
        exact ⟨⟨k + 1, sumR s (k + 1), by omega, by go_num, by rw [HS.out, HT.out], sb0, sb1, rfl⟩, by simp [intOf]; omega⟩
    · have hks : k = s.size := by omega
      by_cases hz : s.size = 0
      · have HB : Hid (getRoman s = 0) := get_empty s hz
        have hz' : s.toList.isEmpty = true := by rw [ByteArray.toList_eq]; simp; exact Array.eq_empty_of_size_eq_zero hz
        go_wp2
        go_ret
        exact ⟨ret_int HB.out.symm, rfl⟩
      · have hz' : s.toList.isEmpty = false := by rw [ByteArray.toList_eq]; simp; intro e; exact hz (by show s.data.size = 0; rw [e]; rfl)
        cases hq : ((putRoman v).toList == s.toList)
        · have HB : Hid (getRoman s = 0) := get_zero s (by rw [← hks, ← HV.out]; exact str_ne hq)
          clear hks
          go_wp2_with (go_at_call 44; refine (specPutRoman _ _).mono ?_; rintro e w' ⟨rfl, rfl⟩)
          go_ret
          exact ⟨ret_int HB.out.symm, rfl⟩
        · have HB : Hid (getRoman s = v) := by unfold Hid; rw [HV.out, hks]; exact get_sum s (by rw [← hks, ← HV.out]; exact str_eq hq)
          clear hks
          go_wp2_with (go_at_call 44; refine (specPutRoman _ _).mono ?_; rintro e w' ⟨rfl, rfl⟩)
          go_ret
          exact ⟨ret_int HB.out.symm, rfl⟩
end Go.Proofs.YtoofnjccpoeomaaGreatDoor.ctr
