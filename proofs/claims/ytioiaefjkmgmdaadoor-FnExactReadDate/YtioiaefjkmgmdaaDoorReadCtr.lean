/- Contract of the model's ReadDec: at every text within the length limit it answers the plain function readDec; nothing is written. -/
import Derived.Test.YtioiaefjkmgmdaaDoorDecCtr
namespace Go.Proofs.YtioiaefjkmgmdaaDoor.ctr
open Go.RowKit

/-- 0 .. 9. -/
def digB (c : UInt8) : Bool := inB c.toNat 48 57
def digs (s : ByteArray) (k : Nat) : Bool := (s.data.toList.take k).all digB
def valL (l : List UInt8) : Int := l.foldl (fun n c => 10 * n + (c.toNat : Int) - 48) 0
def val (s : ByteArray) (k : Nat) : Int := valL (s.data.toList.take k)
def itoaB (n : Int) : ByteArray := ⟨(Lib.itoa n).toArray⟩
def readDec (s : ByteArray) : Int := if s.size ≤ 9 ∧ digs s s.size = true ∧ itoaB (val s s.size) = s then val s s.size else -1
theorem val_succ (s : ByteArray) (k : Nat) (h : k < s.size) : val s (k + 1) = 10 * val s k + (s[k].toNat : Int) - 48 := by
  unfold val valL
  rw [take_snoc s k h, List.foldl_append]
  rfl
theorem digs_succ (s : ByteArray) (k : Nat) (h : k < s.size) : digs s (k + 1) = (digs s k && digB s[k]) := by
  unfold digs
  rw [take_snoc s k h, List.all_append]
  simp
theorem dig_of {c : UInt8} (h : digB c = true) : 48 ≤ (c.toNat : Int) ∧ (c.toNat : Int) ≤ 57 := by
  simpa [digB, inB] using h
theorem val_bd (s : ByteArray) : ∀ k, k ≤ s.size → digs s k = true → 0 ≤ val s k ∧ val s k < (10 : Int) ^ k
  | 0, _, _ => by simp [val, valL]
  | k + 1, hk, h => by
    rw [digs_succ s k (by omega), Bool.and_eq_true] at h
    have := val_bd s k (by omega) h.1
    have hd := dig_of h.2
    rw [val_succ s k (by omega), Int.pow_succ]
    omega
theorem val_bd9 (s : ByteArray) (k : Nat) (hk : k ≤ s.size) (h9 : k ≤ 9) (h : digs s k = true) : 0 ≤ val s k ∧ val s k ≤ 999999999 := by
  have := val_bd s k hk h
  have h2 : (10 : Int) ^ k ≤ 10 ^ 9 := by
    have : (10 : Nat) ^ k ≤ 10 ^ 9 := Nat.pow_le_pow_right (by omega) h9
    exact_mod_cast this
  have h3 : (10 : Int) ^ 9 = 1000000000 := by decide
  omega
theorem digs_up (s : ByteArray) : ∀ k j, k + j ≤ s.size → digs s (k + j) = true → digs s k = true
  | k, 0, _, h => h
  | k, j + 1, hk, h => by
    rw [show k + (j + 1) = (k + j) + 1 from by omega, digs_succ s (k + j) (by omega), Bool.and_eq_true] at h
    exact digs_up s k j (by omega) h.1
theorem read_stop (s : ByteArray) (k : Nat) (h : k < s.size) (h2 : digB s[k] = false) : readDec s = -1 := by
  unfold readDec
  rw [if_neg]
  rintro ⟨_, hd, _⟩
  have := digs_up s (k + 1) (s.size - (k + 1)) (by omega) (by rw [show k + 1 + (s.size - (k + 1)) = s.size from by omega]; exact hd)
  rw [digs_succ s k h, h2] at this
  simp at this
theorem read_long (s : ByteArray) (h : 9 < s.size) : readDec s = -1 := by
  unfold readDec
  rw [if_neg (by omega)]
theorem read_bad (s : ByteArray) (h : itoaB (val s s.size) ≠ s) : readDec s = -1 := by
  unfold readDec
  rw [if_neg (by rintro ⟨_, _, e⟩; exact h e)]
theorem read_good (s : ByteArray) (h9 : s.size ≤ 9) (hd : digs s s.size = true) (h : itoaB (val s s.size) = s) : readDec s = val s s.size := by
  unfold readDec
  rw [if_pos ⟨h9, hd, h⟩]
theorem itoa_eq {v : Int} {s : ByteArray} (h : (Lib.itoa v == s.toList) = true) : itoaB v = s := by
  rw [ByteArray.toList_eq, beq_iff_eq] at h
  unfold itoaB
  rw [h]
theorem itoa_ne {v : Int} {s : ByteArray} (h : (Lib.itoa v == s.toList) = false) : itoaB v ≠ s := by
  rintro rfl
  rw [ByteArray.toList_eq] at h
  simp [itoaB] at h
theorem itoaB_empty (n : Int) (s : ByteArray) (h : s.size = 0) : itoaB n ≠ s := by
  intro e
  have h1 : (itoaB n).size = 0 := by rw [e, h]
  have h2 : (Lib.itoa n).length = 0 := h1
  rw [List.length_eq_zero_iff] at h2
  unfold Lib.itoa at h2
  split at h2
  · simp at h2
  · rw [Lib.decDigits] at h2
    split at h2 <;> simp at h2

set_option maxHeartbeats 400000 in
theorem specReadDec (s : ByteArray) (w : World) (hs : s.size ≤ maxLen) :
    Calls Tryd.prog 22 #[.string s] w fun e w' => e = .returned (.int .i64 (readDec s)) ∧ w' = w := by
  unfold maxLen at hs
  go_enter Tryd.func22, Tryd.ntmps22
  go_wp2
  go_loop [3, 4] (fun n i => ∃ (k : Nat) (v : Int), k ≤ s.size ∧ k ≤ 9 ∧ i = .int .i64 k ∧ n = .int .i64 v ∧ 0 ≤ v ∧ v ≤ 999999999 ∧ digs s k = true ∧ v = val s k) (fun _ i => s.size - (intOf i).toNat)
  case atStart => exact ⟨0, 0, Nat.zero_le _, Nat.zero_le _, rfl, rfl, by omega, by omega, by simp [digs], by simp [val, valL]⟩
  case round =>
    obtain ⟨k, v, hk, hk9, rfl, rfl, v0, v1, hd, hv⟩ := hrel
    have HD : Hid (digs s k = true) := hd
    have HV : Hid (v = val s k) := hv
    clear hd hv
    by_cases hlt : k < s.size
    · cases hb : digB s[k]
      · have HB : Hid (readDec s = -1) := read_stop s k hlt hb
        have hb' : inB (wrap64 (s[k].toNat : Int)) 48 57 = false := by rw [byte64]; exact hb
        clear hb
        go_wp2_with (go_at_call 26; refine (l01In _ _ _ _).mono ?_; rintro e w' ⟨rfl, rfl⟩)
        go_ret
        exact ⟨ret_int HB.out.symm, rfl⟩
      · have hb' : inB (wrap64 (s[k].toNat : Int)) 48 57 = true := by rw [byte64]; exact hb
        by_cases h9 : 9 < s.size
        · have HB : Hid (readDec s = -1) := read_long s h9
          clear hb
          go_wp2_with (go_at_call 26; refine (l01In _ _ _ _).mono ?_; rintro e w' ⟨rfl, rfl⟩)
          go_ret
          exact ⟨ret_int HB.out.symm, rfl⟩
        · have HN : Hid (digs s (k + 1) = true) := by unfold Hid; rw [digs_succ s k hlt, HD.out, hb]; rfl
          have HS : Hid (val s (k + 1) = 10 * v + (s[k].toNat : Int) - 48) := by unfold Hid; rw [val_succ s k hlt, HV.out]
          have hbd := dig_of hb
          obtain ⟨d0, d1⟩ := hbd
          have hb2 : inB (s[k].toNat : Int) 48 57 = true := hb
          clear hb hb'
          go_wp2_with (go_at_call 26; refine (l01In _ _ _ _).mono ?_; rintro e w' ⟨rfl, rfl⟩)
          have hB := val_bd9 s (k + 1) (by omega) (by omega) HN.out
          rw [HS.out] at hB
          exact ⟨⟨k + 1, 10 * v + (s[k].toNat : Int) - 48, by omega, by omega, by go_num, by go_num, by omega, by omega, HN.out, HS.out.symm⟩, by simp [intOf]; omega⟩
    · have hks : k = s.size := by omega
      by_cases hz : s.size = 0
      · have HB : Hid (readDec s = -1) := read_bad s (itoaB_empty _ s hz)
        have hz' : s.toList.isEmpty = true := by rw [ByteArray.toList_eq]; simp; exact Array.eq_empty_of_size_eq_zero hz
        go_wp2_with (go_at_call 16; refine (specDecText _ _ (by omega) (by omega)).mono ?_; rintro e w' ⟨rfl, rfl⟩)
        go_ret
        exact ⟨ret_int HB.out.symm, rfl⟩
      · have hz' : s.toList.isEmpty = false := by rw [ByteArray.toList_eq]; simp; intro e; exact hz (by show s.data.size = 0; rw [e]; rfl)
        cases hq : (Lib.itoa v == s.toList)
        · have HB : Hid (readDec s = -1) := read_bad s (by rw [← hks, ← HV.out]; exact itoa_ne hq)
          clear hks
          go_wp2_with (go_at_call 16; refine (specDecText _ _ (by omega) (by omega)).mono ?_; rintro e w' ⟨rfl, rfl⟩)
          go_ret
          exact ⟨ret_int HB.out.symm, rfl⟩
        · have HB : Hid (readDec s = v) := by unfold Hid; rw [HV.out, hks]; exact read_good s (by omega) (by rw [← hks]; exact HD.out) (by rw [← hks, ← HV.out]; exact itoa_eq hq)
          clear hks
          go_wp2_with (go_at_call 16; refine (specDecText _ _ (by omega) (by omega)).mono ?_; rintro e w' ⟨rfl, rfl⟩)
          go_ret
          exact ⟨ret_int HB.out.symm, rfl⟩
end Go.Proofs.YtioiaefjkmgmdaaDoor.ctr
