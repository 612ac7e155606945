/- Contracts of the model's NameOk and of the program's NameOk: each answers the plain function nameOk at every string within the length limit. -/
import Derived.Test.YtilpencbbdpgfaaGreatDoorJnPaa
namespace Go.Proofs.YtilpencbbdpgfaaGreatDoor.ctr
open Go.RowKit
def lowB (c : UInt8) : Bool := inB c.toNat 97 122
def lows (s : ByteArray) (k : Nat) : Bool := (s.data.toList.take k).all lowB
def nameOk (s : ByteArray) : Bool := inB s.size 1 16 && lows s s.size
theorem lows_succ (s : ByteArray) (k : Nat) (h : k < s.size) (h1 : lows s k = true) (h2 : lowB s[k] = true) : lows s (k + 1) = true := by
  unfold lows at *
  rw [take_snoc s k h, List.all_append, h1]
  simp [h2]
theorem lows_stop (s : ByteArray) (k : Nat) (h : k < s.size) (h2 : lowB s[k] = false) : nameOk s = false := by
  have : lows s s.size = false := by
    unfold lows
    rw [List.all_eq_false]
    refine ⟨s[k], ?_, by simp [h2]⟩
    rw [List.take_of_length_le (show s.data.toList.length ≤ s.size from Nat.le_refl _)]
    exact List.getElem_mem (l := s.data.toList) (n := k) h
  simp [nameOk, this]
theorem lows_done (s : ByteArray) (k : Nat) (h : k = s.size) (h1 : lows s k = true) : nameOk s = inB s.size 1 16 := by
  subst h
  simp [nameOk, h1]
set_option maxHeartbeats 400000 in
theorem specNameOk (s : ByteArray) (w : World) (hs : s.size ≤ maxLen) :
    Calls Tryz.prog 100 #[.string s] w fun e w' => e = .returned (.bool (nameOk s)) ∧ w' = w := by
  unfold maxLen at hs
  go_enter Tryz.func100, Tryz.ntmps100
  go_wp2
  go_loop [3] (fun i => ∃ k : Nat, k ≤ s.size ∧ i = .int .i64 k ∧ lows s k = true) (fun i => s.size - (intOf i).toNat)
  case atStart => exact ⟨0, Nat.zero_le _, rfl, by simp [lows]⟩
  case round =>
    obtain ⟨k, hk, rfl, hl⟩ := hrel
    have HL : Hid (lows s k = true) := hl
    clear hl
    by_cases hlt : k < s.size
    · cases hb : lowB s[k]
      · have HB : Hid (nameOk s = false) := lows_stop s k hlt hb
        have hb' : inB (wrap64 (s[k].toNat : Int)) 97 122 = false := by rw [byte64]; exact hb
        clear hb
        go_wp2_with (go_at_call 88; refine (l01In _ _ _ _).mono ?_; rintro e w' ⟨rfl, rfl⟩)
        go_ret
        exact ⟨ret_bool HB.out.symm, rfl⟩
      · have HN : Hid (lows s (k + 1) = true) := lows_succ s k hlt HL.out hb
        have hb' : inB (wrap64 (s[k].toNat : Int)) 97 122 = true := by rw [byte64]; exact hb
        clear hb
        go_wp2_with (go_at_call 88; refine (l01In _ _ _ _).mono ?_; rintro e w' ⟨rfl, rfl⟩)
        exact ⟨⟨k + 1, by omega, by go_num, HN.out⟩, by simp [intOf]; omega⟩
    · have HD : Hid (nameOk s = inB s.size 1 16) := lows_done s k (by omega) HL.out
      go_wp2_with (go_at_call 88; refine (l01In _ _ _ _).mono ?_; rintro e w' ⟨rfl, rfl⟩)
      go_ret
      exact ⟨ret_bool HD.out.symm, rfl⟩
set_option maxHeartbeats 400000 in
theorem implNameOk (s : ByteArray) (w : World) (hs : s.size ≤ maxLen) :
    Calls Tryz.prog 122 #[.string s] w fun e w' => e = .returned (.bool (nameOk s)) ∧ w' = w := by
  unfold maxLen at hs
  by_cases h1 : s.size < 1
  · have HB : Hid (nameOk s = false) := by unfold Hid nameOk; rw [inB_false (.inl (by omega))]; rfl
    go_enter Tryz.func122, Tryz.ntmps122
    go_wp2
    go_ret
    exact ⟨ret_bool HB.out.symm, rfl⟩
  by_cases h2 : 16 < s.size
  · have HB : Hid (nameOk s = false) := by unfold Hid nameOk; rw [inB_false (.inr (by omega))]; rfl
    go_enter Tryz.func122, Tryz.ntmps122
    go_wp2
    go_ret
    exact ⟨ret_bool HB.out.symm, rfl⟩
  go_enter Tryz.func122, Tryz.ntmps122
  go_wp2
  go_loop [14] (fun i => ∃ k : Nat, k ≤ s.size ∧ i = .int .i64 k ∧ lows s k = true) (fun i => s.size - (intOf i).toNat)
  case atStart => exact ⟨0, Nat.zero_le _, rfl, by simp [lows]⟩
  case round =>
    obtain ⟨k, hk, rfl, hl⟩ := hrel
    have HL : Hid (lows s k = true) := hl
    clear hl
    by_cases hlt : k < s.size
    · by_cases c1 : (s[k].toNat : Int) < 97
      · have HB : Hid (nameOk s = false) := lows_stop s k hlt (inB_false (.inl c1))
        go_wp2
        go_ret
        exact ⟨ret_bool HB.out.symm, rfl⟩
      · by_cases c2 : 122 < (s[k].toNat : Int)
        · have HB : Hid (nameOk s = false) := lows_stop s k hlt (inB_false (.inr c2))
          go_wp2
          go_ret
          exact ⟨ret_bool HB.out.symm, rfl⟩
        · have HN : Hid (lows s (k + 1) = true) := lows_succ s k hlt HL.out (inB_true (by omega) (by omega))
          go_wp2
          exact ⟨⟨k + 1, by omega, by go_num, HN.out⟩, by simp [intOf]; omega⟩
    · have HD : Hid (nameOk s = true) := by unfold Hid; rw [lows_done s k (by omega) HL.out, inB_true (by omega) (by omega)]
      go_wp2
      go_ret
      exact ⟨ret_bool HD.out.symm, rfl⟩
end Go.Proofs.YtilpencbbdpgfaaGreatDoor.ctr
