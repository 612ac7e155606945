/- Contract of the program's DecText: at every int it answers the decimal numeral (Lib.itoa), where the library's table of powers of ten holds its numbers; nothing that was there turns. Contract of the program's ReadDec: at every text within the length limit it answers the plain function readDec, where the library's table of powers of ten holds its numbers; nothing that was there turns. -/
import Derived.Test.YtdmlhiailjnhcaaGreatDoorJnYai
import Derived.Test.YtdmlhiailjnhcaaGreatDoorShelfY
import Derived.Test.YtdmlhiailjnhcaaGreatDoorVarsKitY
namespace Go.Proofs.YtdmlhiailjnhcaaGreatDoor.ctr
open Go.RowKit
theorem implDecText (n : Int) (w : World) (h0 : -9223372036854775808 ≤ n) (h1 : n ≤ 9223372036854775807)
    (hT : Lib.TabIs Tryz.prog w "internal/strconv.uint64pow10" .u64 Lib.pow10Tab) :
    CR 100 #[.int .i64 n] w (.string ⟨(Lib.itoa n).toArray⟩) := by
  have HT : Hid (Lib.TabIs Tryz.prog w "internal/strconv.uint64pow10" .u64 Lib.pow10Tab) := hT
  clear hT
  go_enter Tryz.func100, Tryz.ntmps100
  go_wp2_with fail
  refine (Tryz.strconv_Itoa n h0 h1 _ HT.out).mono ?_
  rintro e w1 ⟨rfl, k, os, hw⟩
  have hb : Below w.heap.size w w1 := by rw [hw]; exact below_grown _ _ _
  clear hw
  go_wp2
  go_ret
  exact ⟨rfl, hb⟩
end Go.Proofs.YtdmlhiailjnhcaaGreatDoor.ctr
namespace Go.Proofs.YtdmlhiailjnhcaaGreatDoor.ctr
open Go.RowKit
set_option maxHeartbeats 400000 in
theorem implReadDec (s : ByteArray) (w : World) (hs : s.size ≤ maxLen) (hT : Lib.TabIs Tryz.prog w "internal/strconv.uint64pow10" .u64 Lib.pow10Tab) :
    CR 214 #[.string s] w (.int .i64 (readDec s)) := by
  unfold maxLen at hs
  have HT : Hid (Lib.TabIs Tryz.prog w "internal/strconv.uint64pow10" .u64 Lib.pow10Tab) := hT
  clear hT
  by_cases h9 : 9 < s.size
  · have HB : Hid (readDec s = -1) := read_long s h9
    go_enter Tryz.func214, Tryz.ntmps214
    go_wp2
    go_ret
    exact ⟨ret_int HB.out.symm, Below.refl _ _⟩
  go_enter Tryz.func214, Tryz.ntmps214
  go_wp2
  go_loop [3, 10] (fun n i => ∃ (k : Nat) (v : Int), k ≤ s.size ∧ k ≤ 9 ∧ i = .int .i64 k ∧ n = .int .i64 v ∧ 0 ≤ v ∧ v ≤ 999999999 ∧ digs s k = true ∧ v = val s k) (fun _ i => s.size - (intOf i).toNat)
  case atStart => exact ⟨0, 0, Nat.zero_le _, Nat.zero_le _, rfl, rfl, by omega, by omega, by simp [digs], by simp [val, valL]⟩
  case round =>
   obtain ⟨k, v, hk, hk9, rfl, rfl, v0, v1, hd, hv⟩ := hrel
   have HD : Hid (digs s k = true) := hd
   have HV : Hid (v = val s k) := hv
   clear hd hv
   by_cases hlt : k < s.size
   · by_cases c1 : (s[k].toNat : Int) < 48
     · have HB : Hid (readDec s = -1) := read_stop s k hlt (inB_false (.inl c1))
       go_wp2
       go_ret
       exact ⟨ret_int HB.out.symm, Below.refl _ _⟩
     · by_cases c2 : 57 < (s[k].toNat : Int)
       · have HB : Hid (readDec s = -1) := read_stop s k hlt (inB_false (.inr c2))
         go_wp2
         go_ret
         exact ⟨ret_int HB.out.symm, Below.refl _ _⟩
       · have hb : digB s[k] = true := inB_true (by omega) (by omega)
         have HN : Hid (digs s (k + 1) = true) := by unfold Hid; rw [digs_succ s k hlt, HD.out, hb]; rfl
         have HS : Hid (val s (k + 1) = 10 * v + (s[k].toNat : Int) - 48) := by unfold Hid; rw [val_succ s k hlt, HV.out]
         clear hb
         go_wp2
         have hB := val_bd9 s (k + 1) (by omega) (by omega) HN.out
         rw [HS.out] at hB
         exact ⟨⟨k + 1, 10 * v + (s[k].toNat : Int) - 48, by omega, by omega, by go_num, by rw [show v * 10 + ((s[k].toNat : Int) - 48) = 10 * v + (s[k].toNat : Int) - 48 from by omega], by omega, by omega, HN.out, HS.out.symm⟩, by simp [intOf]; omega⟩
   · have hks : k = s.size := by omega
     cases hq : (Lib.itoa v == s.toList)
     · have HB : Hid (readDec s = -1) := read_bad s (by rw [← hks, ← HV.out]; exact itoa_ne hq)
       clear hks
       go_wp2_with (go_at_call 100; refine (implDecText _ _ (by omega) (by omega) HT.out).mono ?_; rintro e w' ⟨rfl, hb⟩)
       go_ret
       exact ⟨ret_int HB.out.symm, hb⟩
     · have HB : Hid (readDec s = v) := by unfold Hid; rw [HV.out, hks]; exact read_good s (by omega) (by rw [← hks]; exact HD.out) (by rw [← hks, ← HV.out]; exact itoa_eq hq)
       clear hks
       go_wp2_with (go_at_call 100; refine (implDecText _ _ (by omega) (by omega) HT.out).mono ?_; rintro e w' ⟨rfl, hb⟩)
       go_ret
       exact ⟨ret_int HB.out.symm, hb⟩
end Go.Proofs.YtdmlhiailjnhcaaGreatDoor.ctr
