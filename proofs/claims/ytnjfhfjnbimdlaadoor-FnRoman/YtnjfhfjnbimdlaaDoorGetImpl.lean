/- Contracts of the program's signValue and GetRoman: GetRoman answers the plain function getRoman at every text of at most 1048576 bytes, where the program's table of shapes holds its texts; nothing that was there turns. -/
import Derived.Test.YtnjfhfjnbimdlaaDoorGetCtr
import Derived.Test.YtnjfhfjnbimdlaaDoorRomanPut
namespace Go.Proofs.YtnjfhfjnbimdlaaDoor.ctr
open Go.RowKit

set_option maxHeartbeats 1000000 in
theorem signValue (x : Int) (w : World) : Calls Tryd.prog 109 #[.int .u8 x] w fun e w' => e = .returned (.int .i64 (worth x)) ∧ w' = w := by
  by_cases c1 : x = 73
  · subst c1; go_enter Tryd.func109, Tryd.ntmps109; go_wp2; go_ret; exact ⟨rfl, rfl⟩
  by_cases c2 : x = 86
  · subst c2; go_enter Tryd.func109, Tryd.ntmps109; go_wp2; go_ret; exact ⟨rfl, rfl⟩
  by_cases c3 : x = 88
  · subst c3; go_enter Tryd.func109, Tryd.ntmps109; go_wp2; go_ret; exact ⟨rfl, rfl⟩
  by_cases c4 : x = 76
  · subst c4; go_enter Tryd.func109, Tryd.ntmps109; go_wp2; go_ret; exact ⟨rfl, rfl⟩
  by_cases c5 : x = 67
  · subst c5; go_enter Tryd.func109, Tryd.ntmps109; go_wp2; go_ret; exact ⟨rfl, rfl⟩
  by_cases c6 : x = 68
  · subst c6; go_enter Tryd.func109, Tryd.ntmps109; go_wp2; go_ret; exact ⟨rfl, rfl⟩
  by_cases c7 : x = 77
  · subst c7; go_enter Tryd.func109, Tryd.ntmps109; go_wp2; go_ret; exact ⟨rfl, rfl⟩
  have HW : Hid (worth x = 0) := by unfold Hid worth; simp [c1, c2, c3, c4, c5, c6, c7]
  go_enter Tryd.func109, Tryd.ntmps109
  go_wp2
  go_ret
  exact ⟨ret_int HW.out.symm, rfl⟩

set_option maxHeartbeats 1000000 in
theorem implGetRoman (s : ByteArray) (w : World) (hs : s.size ≤ 1048576) (hT : kit.StrIs Tryd.prog w "loop.example/g00638/impl.digitShapes" shapes) :
    Calls Tryd.prog 98 #[.string s] w fun e w' => e = .returned (.int .i64 (getRoman s)) ∧ Below w.heap.size w w' := by
  have HTab : Hid (kit.StrIs Tryd.prog w "loop.example/g00638/impl.digitShapes" shapes) := hT
  clear hT
  go_enter Tryd.func98, Tryd.ntmps98
  go_wp2
  go_loop [3, 8] (fun n i => ∃ (k : Nat) (v : Int), k ≤ s.size ∧ i = .int .i64 k ∧ n = .int .i64 v ∧ -1048576000 ≤ v ∧ v ≤ 1048576000 ∧ Hid (v = sumR s k)) (fun _ i => s.size - (intOf i).toNat)
  case atStart => exact ⟨0, 0, Nat.zero_le _, rfl, rfl, by omega, by omega, rfl⟩
  case round =>
    obtain ⟨k, v, hk, rfl, rfl, v0, v1, HV⟩ := hrel
    by_cases hlt : k < s.size
    · have hx := byteAt_eq s k hlt
      obtain ⟨u0, u1⟩ := worth_bd (byteAt s k)
      have hsb := sum_bd s (k + 1)
      obtain ⟨sb0, sb1⟩ : -1048576000 ≤ sumR s (k + 1) ∧ sumR s (k + 1) ≤ 1048576000 := by omega
      clear hsb
      have HS : Hid (sumR s (k + 1) = v + stepAt s k) := by unfold Hid; rw [HV.out]; rfl
      by_cases hn : k + 1 < s.size
      · have hx2 := byteAt_eq s (k + 1) hn
        obtain ⟨y0, y1⟩ := worth_bd (byteAt s (k + 1))
        by_cases hg : worth (byteAt s k) < worth (byteAt s (k + 1))
        · have HT : Hid (stepAt s k = -worth (byteAt s k)) := by unfold Hid stepAt; rw [if_pos ⟨hn, hg⟩]
          go_wp2_with (go_at_call 109; refine (signValue _ _).mono ?_; rintro e w' ⟨rfl, rfl⟩)
          exact ⟨⟨k + 1, sumR s (k + 1), by omega, by go_num, by rw [HS.out, HT.out], sb0, sb1, rfl⟩, by simp [intOf]; omega⟩
        · have HT : Hid (stepAt s k = worth (byteAt s k)) := by unfold Hid stepAt; rw [if_neg (by omega)]
          go_wp2_with (go_at_call 109; refine (signValue _ _).mono ?_; rintro e w' ⟨rfl, rfl⟩)
          exact ⟨⟨k + 1, sumR s (k + 1), by omega, by go_num, by rw [HS.out, HT.out], sb0, sb1, rfl⟩, by simp [intOf]; omega⟩
      · have HT : Hid (stepAt s k = worth (byteAt s k)) := by unfold Hid stepAt; rw [if_neg (by omega)]
        go_wp2_with (go_at_call 109; refine (signValue _ _).mono ?_; rintro e w' ⟨rfl, rfl⟩)
        exact ⟨⟨k + 1, sumR s (k + 1), by omega, by go_num, by rw [HS.out, HT.out], sb0, sb1, rfl⟩, by simp [intOf]; omega⟩
    · have hks : k = s.size := by omega
      cases hq : ((putRoman v).toList == s.toList)
      · have HB : Hid (getRoman s = 0) := get_zero s (by rw [← hks, ← HV.out]; exact str_ne hq)
        clear hks
        go_wp2_with (go_at_call 95; refine (implPutRoman _ _ HTab.out).mono ?_; rintro e w' ⟨rfl, hb⟩)
        go_ret
        exact ⟨ret_int HB.out.symm, hb⟩
      · have HB : Hid (getRoman s = v) := by unfold Hid; rw [HV.out, hks]; exact get_sum s (by rw [← hks, ← HV.out]; exact str_eq hq)
        clear hks
        go_wp2_with (go_at_call 95; refine (implPutRoman _ _ HTab.out).mono ?_; rintro e w' ⟨rfl, hb⟩)
        go_ret
        exact ⟨ret_int HB.out.symm, hb⟩
end Go.Proofs.YtnjfhfjnbimdlaaDoor.ctr
