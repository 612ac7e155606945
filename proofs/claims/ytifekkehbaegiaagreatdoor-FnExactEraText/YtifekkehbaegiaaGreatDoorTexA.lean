/- Contract of the model's DecText: at every int it answers the decimal numeral (the library's plain function Lib.itoa); nothing is written. Contract of the model's ReadDec: at every text within the length limit it answers the plain function readDec; nothing is written. A number comes back from its digits. Contract of the program's DecText: at every int it answers the decimal numeral (Lib.itoa), where the library's table of powers of ten holds its numbers; nothing that was there turns. Plain laws of cut texts, of no program: a text cut at every sign of a kind, its first such sign, how long the parts are; a text with a sign that is no digit is no number. Contracts of YearText of both sides: each answers its plain function at every two ints, where the library's table of powers of ten holds its numbers; and the plain reading of a text of years. Contract of strings.Cut at one sign: at every text of at most 1048576 bytes it answers what is ahead of the first such sign and what is behind it, or the whole text. Contract of the program's ReadDec: at every text within the length limit it answers the plain function readDec, where the library's table of powers of ten holds its numbers; nothing that was there turns. Contracts of ReadYear of both sides: each answers the plain reading of a text of years, at every text of at most 1048576 bytes, where the library's table of powers of ten holds its numbers. -/
import Derived.Test.YtifekkehbaegiaaGreatDoorBase
import Derived.Lib.ItoaNum
import Derived.Test.YtifekkehbaegiaaGreatDoorShelf
import Derived.Test.YtifekkehbaegiaaGreatDoorVarsKit
import Derived.Test.YtifekkehbaegiaaGreatDoorCutCtr
import Derived.Lib.CutLaws
import Derived.Lib.IndexBytes
import Derived.Lib.IndexLaws
import Derived.Test.YtifekkehbaegiaaGreatDoorLaterKit
import Derived.PlainAid
import Derived.Test.YtifekkehbaegiaaGreatDoorRowBase
namespace Go.Proofs.YtifekkehbaegiaaGreatDoor.ctr
open Go.RowKit

/-- What is left to write of m ahead of what stands. -/
def left (m : Int) : List UInt8 := if m = 0 then [] else Lib.decDigits m.natAbs
theorem left_step (m : Int) (h : m ≠ 0) : left m = left (m.tdiv 10) ++ [UInt8.ofNat (48 + m.natAbs % 10)] := by
  have e : (m.tdiv 10).natAbs = m.natAbs / 10 := by rw [Int.natAbs_tdiv]; rfl
  unfold left
  rw [if_neg h, Lib.decDigits]
  by_cases h0 : m.natAbs < 10
  · rw [dif_pos h0, if_pos (by omega), Nat.mod_eq_of_lt h0]
    rfl
  · rw [dif_neg h0, if_neg (by omega), e]
theorem dec_len : ∀ (k u : Nat), u < 10 ^ (k + 1) → (Lib.decDigits u).length ≤ k + 1
  | 0, u, h => by rw [Lib.decDigits, dif_pos (by simpa using h)]; simp
  | k + 1, u, h => by
    rw [Lib.decDigits]
    by_cases h0 : u < 10
    · rw [dif_pos h0]; simp
    · rw [dif_neg h0, List.length_append]
      have := dec_len k (u / 10) (by rw [Nat.pow_succ] at h; omega)
      simp
      omega
theorem left_len (n : Int) (h0 : -9223372036854775808 ≤ n) (h1 : n ≤ 9223372036854775807) : (left n).length ≤ 20 := by
  unfold left
  by_cases h : n = 0
  · rw [if_pos h]; simp
  · rw [if_neg h]
    exact dec_len 19 n.natAbs (by have : (10 : Nat) ^ (19 + 1) = 100000000000000000000 := by decide
                                  omega)
theorem out_len {m n : Int} {out : List UInt8} (h : left m ++ out = left n) (h0 : -9223372036854775808 ≤ n) (h1 : n ≤ 9223372036854775807) : out.length ≤ 20 := by
  have := left_len n h0 h1
  rw [← h, List.length_append] at this
  omega
theorem digits_one : ∀ i : Fin 10, (⟨#[48, 49, 50, 51, 52, 53, 54, 55, 56, 57]⟩ : ByteArray).extract i.val (i.val + 1) = ⟨#[UInt8.ofNat (48 + i.val)]⟩ := by decide
theorem digit_join (d : Int) (k : Nat) (h0 : 0 ≤ d) (h1 : d < 10) (hk : d.toNat = k) (out : List UInt8) :
    Value.string ((⟨#[48, 49, 50, 51, 52, 53, 54, 55, 56, 57]⟩ : ByteArray).extract d.toNat (d + 1).toNat ++ ⟨out.toArray⟩) = .string ⟨(UInt8.ofNat (48 + k) :: out).toArray⟩ := by
  have e : (d + 1).toNat = d.toNat + 1 := by omega
  rw [e, hk, digits_one ⟨k, by omega⟩]
  congr 1
theorem itoa_left (n : Int) (h : n ≠ 0) : Lib.itoa n = if n < 0 then 45 :: left n else left n := by
  unfold Lib.itoa left
  rw [if_neg h]
  by_cases hn : n < 0
  · rw [if_pos hn, if_pos hn]
  · rw [if_neg hn, if_neg hn, show n.toNat = n.natAbs from by omega]

set_option maxHeartbeats 400000 in
theorem specDecText (n : Int) (w : World) (h0 : -9223372036854775808 ≤ n) (h1 : n ≤ 9223372036854775807) :
    Calls Tryz.prog 64 #[.int .i64 n] w fun e w' => e = .returned (.string ⟨(Lib.itoa n).toArray⟩) ∧ w' = w := by
  by_cases hz : n = 0
  · subst hz
    go_enter Tryz.func64, Tryz.ntmps64
    go_wp2
    go_ret
    exact ⟨ret_str (by unfold Lib.itoa; rw [if_neg (by decide), Lib.decDigits]; rfl), rfl⟩
  have hz' : (n == 0) = false := by simp [hz]
  go_enter Tryz.func64, Tryz.ntmps64
  go_wp2
  go_loop [3, 4] (fun o t => ∃ (m : Int) (out : List UInt8), t = .int .i64 m ∧ o = .string ⟨out.toArray⟩ ∧ -9223372036854775808 ≤ m ∧ m ≤ 9223372036854775807 ∧ left m ++ out = left n) (fun _ t => (intOf t).natAbs)
  case atStart => exact ⟨n, [], rfl, rfl, h0, h1, by simp⟩
  case round =>
    obtain ⟨m, out, rfl, rfl, b0, b1, hl⟩ := hrel
    have HL : Hid (left m ++ out = left n) := hl
    have ho := out_len hl h0 h1
    clear hl
    by_cases hm : m = 0
    · subst hm
      by_cases hn : n < 0
      · go_wp2
        go_ret
        refine ⟨ret_str ?_, rfl⟩
        rw [itoa_left n hz, if_pos hn, ← HL.out]
        rfl
      · go_wp2
        go_ret
        refine ⟨ret_str ?_, rfl⟩
        rw [itoa_left n hz, if_neg (by omega), ← HL.out]
        rfl
    · have hm' : (m != 0) = true := by simp [hm]
      have t1 : -10 < m.tmod 10 := Int.lt_tmod_of_pos m (by omega)
      have t2 : m.tmod 10 < 10 := Int.tmod_lt_of_pos m (by omega)
      have HA : Hid ((m.tmod 10).natAbs = m.natAbs % 10) := by unfold Hid; rw [Int.natAbs_tmod]; rfl
      have HQ : Hid ((m.tdiv 10).natAbs = m.natAbs / 10) := by unfold Hid; rw [Int.natAbs_tdiv]; rfl
      by_cases hr : m.tmod 10 < 0
      · go_wp2
        refine ⟨⟨m.tdiv 10, UInt8.ofNat (48 + m.natAbs % 10) :: out, rfl, ?_, ?_, ?_, ?_⟩, ?_⟩
        · exact digit_join (-m.tmod 10) _ (by omega) (by omega) (by have := HA.out; omega) out
        · have := HQ.out; omega
        · have := HQ.out; omega
        · rw [← HL.out, left_step m hm]; simp
        · show (m.tdiv 10).natAbs < m.natAbs
          rw [HQ.out]; omega
      · go_wp2
        refine ⟨⟨m.tdiv 10, UInt8.ofNat (48 + m.natAbs % 10) :: out, rfl, ?_, ?_, ?_, ?_⟩, ?_⟩
        · exact digit_join (m.tmod 10) _ (by omega) (by omega) (by have := HA.out; omega) out
        · have := HQ.out; omega
        · have := HQ.out; omega
        · rw [← HL.out, left_step m hm]; simp
        · show (m.tdiv 10).natAbs < m.natAbs
          rw [HQ.out]; omega
end Go.Proofs.YtifekkehbaegiaaGreatDoor.ctr

namespace Go.Proofs.YtifekkehbaegiaaGreatDoor.ctr
open Go.RowKit

/-- 0 .. 9. -/
def digB (c : UInt8) : Bool := inB c.toNat 48 57
def digs (s : ByteArray) (k : Nat) : Bool := (s.data.toList.take k).all digB
def valL (l : List UInt8) : Int := l.foldl (fun n c => 10 * n + (c.toNat : Int) - 48) 0
def val (s : ByteArray) (k : Nat) : Int := valL (s.data.toList.take k)
def itoaB (n : Int) : ByteArray := ⟨(Lib.itoa n).toArray⟩
def readDec (s : ByteArray) : Int := if s.size ≤ 9 ∧ digs s s.size = true ∧ itoaB (val s s.size) = s then val s s.size else -1
theorem val_succ (s : ByteArray) (k : Nat) (h : k < s.size) : val s (k + 1) = 10 * val s k + (s[k].toNat : Int) - 48 := by
  unfold val valL
  rw [take_snoc s k h, List.foldl_append]
  rfl
theorem digs_succ (s : ByteArray) (k : Nat) (h : k < s.size) : digs s (k + 1) = (digs s k && digB s[k]) := by
  unfold digs
  rw [take_snoc s k h, List.all_append]
  simp
theorem dig_of {c : UInt8} (h : digB c = true) : 48 ≤ (c.toNat : Int) ∧ (c.toNat : Int) ≤ 57 := by
  simpa [digB, inB] using h
theorem val_bd (s : ByteArray) : ∀ k, k ≤ s.size → digs s k = true → 0 ≤ val s k ∧ val s k < (10 : Int) ^ k
  | 0, _, _ => by simp [val, valL]
  | k + 1, hk, h => by
    rw [digs_succ s k (by omega), Bool.and_eq_true] at h
    have := val_bd s k (by omega) h.1
    have hd := dig_of h.2
    rw [val_succ s k (by omega), Int.pow_succ]
    omega
theorem val_bd9 (s : ByteArray) (k : Nat) (hk : k ≤ s.size) (h9 : k ≤ 9) (h : digs s k = true) : 0 ≤ val s k ∧ val s k ≤ 999999999 := by
  have := val_bd s k hk h
  have h2 : (10 : Int) ^ k ≤ 10 ^ 9 := by
    have : (10 : Nat) ^ k ≤ 10 ^ 9 := Nat.pow_le_pow_right (by omega) h9
    exact_mod_cast this
  have h3 : (10 : Int) ^ 9 = 1000000000 := by decide
  omega
theorem digs_up (s : ByteArray) : ∀ k j, k + j ≤ s.size → digs s (k + j) = true → digs s k = true
  | k, 0, _, h => h
  | k, j + 1, hk, h => by
    rw [show k + (j + 1) = (k + j) + 1 from by omega, digs_succ s (k + j) (by omega), Bool.and_eq_true] at h
    exact digs_up s k j (by omega) h.1
theorem read_stop (s : ByteArray) (k : Nat) (h : k < s.size) (h2 : digB s[k] = false) : readDec s = -1 := by
  unfold readDec
  rw [if_neg]
  rintro ⟨_, hd, _⟩
  have := digs_up s (k + 1) (s.size - (k + 1)) (by omega) (by rw [show k + 1 + (s.size - (k + 1)) = s.size from by omega]; exact hd)
  rw [digs_succ s k h, h2] at this
  simp at this
theorem read_long (s : ByteArray) (h : 9 < s.size) : readDec s = -1 := by
  unfold readDec
  rw [if_neg (by omega)]
theorem read_bad (s : ByteArray) (h : itoaB (val s s.size) ≠ s) : readDec s = -1 := by
  unfold readDec
  rw [if_neg (by rintro ⟨_, _, e⟩; exact h e)]
theorem read_good (s : ByteArray) (h9 : s.size ≤ 9) (hd : digs s s.size = true) (h : itoaB (val s s.size) = s) : readDec s = val s s.size := by
  unfold readDec
  rw [if_pos ⟨h9, hd, h⟩]
theorem itoa_eq {v : Int} {s : ByteArray} (h : (Lib.itoa v == s.toList) = true) : itoaB v = s := by
  rw [ByteArray.toList_eq, beq_iff_eq] at h
  unfold itoaB
  rw [h]
theorem itoa_ne {v : Int} {s : ByteArray} (h : (Lib.itoa v == s.toList) = false) : itoaB v ≠ s := by
  rintro rfl
  rw [ByteArray.toList_eq] at h
  simp [itoaB] at h
theorem itoaB_empty (n : Int) (s : ByteArray) (h : s.size = 0) : itoaB n ≠ s := by
  intro e
  have h1 : (itoaB n).size = 0 := by rw [e, h]
  have h2 : (Lib.itoa n).length = 0 := h1
  rw [List.length_eq_zero_iff] at h2
  unfold Lib.itoa at h2
  split at h2
  · simp at h2
  · rw [Lib.decDigits] at h2
    split at h2 <;> simp at h2

set_option maxHeartbeats 400000 in
theorem specReadDec (s : ByteArray) (w : World) (hs : s.size ≤ maxLen) :
    Calls Tryz.prog 57 #[.string s] w fun e w' => e = .returned (.int .i64 (readDec s)) ∧ w' = w := by
  unfold maxLen at hs
  go_enter Tryz.func57, Tryz.ntmps57
  go_wp2
  go_loop [3, 4] (fun n i => ∃ (k : Nat) (v : Int), k ≤ s.size ∧ k ≤ 9 ∧ i = .int .i64 k ∧ n = .int .i64 v ∧ 0 ≤ v ∧ v ≤ 999999999 ∧ digs s k = true ∧ v = val s k) (fun _ i => s.size - (intOf i).toNat)
  case atStart => exact ⟨0, 0, Nat.zero_le _, Nat.zero_le _, rfl, rfl, by omega, by omega, by simp [digs], by simp [val, valL]⟩
  case round =>
    obtain ⟨k, v, hk, hk9, rfl, rfl, v0, v1, hd, hv⟩ := hrel
    have HD : Hid (digs s k = true) := hd
    have HV : Hid (v = val s k) := hv
    clear hd hv
    by_cases hlt : k < s.size
    · cases hb : digB s[k]
      · have HB : Hid (readDec s = -1) := read_stop s k hlt hb
        have hb' : inB (wrap64 (s[k].toNat : Int)) 48 57 = false := by rw [byte64]; exact hb
        clear hb
        go_wp2_with (go_at_call 45; refine (l01In _ _ _ _).mono ?_; rintro e w' ⟨rfl, rfl⟩)
        go_ret
        exact ⟨ret_int HB.out.symm, rfl⟩
      · have hb' : inB (wrap64 (s[k].toNat : Int)) 48 57 = true := by rw [byte64]; exact hb
        by_cases h9 : 9 < s.size
        · have HB : Hid (readDec s = -1) := read_long s h9
          clear hb
          go_wp2_with (go_at_call 45; refine (l01In _ _ _ _).mono ?_; rintro e w' ⟨rfl, rfl⟩)
          go_ret
          exact ⟨ret_int HB.out.symm, rfl⟩
        · have HN : Hid (digs s (k + 1) = true) := by unfold Hid; rw [digs_succ s k hlt, HD.out, hb]; rfl
          have HS : Hid (val s (k + 1) = 10 * v + (s[k].toNat : Int) - 48) := by unfold Hid; rw [val_succ s k hlt, HV.out]
          have hbd := dig_of hb
          obtain ⟨d0, d1⟩ := hbd
          have hb2 : inB (s[k].toNat : Int) 48 57 = true := hb
          clear hb hb'
          go_wp2_with (go_at_call 45; refine (l01In _ _ _ _).mono ?_; rintro e w' ⟨rfl, rfl⟩)
          have hB := val_bd9 s (k + 1) (by omega) (by omega) HN.out
          rw [HS.out] at hB
          exact ⟨⟨k + 1, 10 * v + (s[k].toNat : Int) - 48, by omega, by omega, by go_num, by go_num, by omega, by omega, HN.out, HS.out.symm⟩, by simp [intOf]; omega⟩
    · have hks : k = s.size := by omega
      by_cases hz : s.size = 0
      · have HB : Hid (readDec s = -1) := read_bad s (itoaB_empty _ s hz)
        have hz' : s.toList.isEmpty = true := by rw [ByteArray.toList_eq]; simp; exact Array.eq_empty_of_size_eq_zero hz
        go_wp2_with (go_at_call 64; refine (specDecText _ _ (by omega) (by omega)).mono ?_; rintro e w' ⟨rfl, rfl⟩)
        go_ret
        exact ⟨ret_int HB.out.symm, rfl⟩
      · have hz' : s.toList.isEmpty = false := by rw [ByteArray.toList_eq]; simp; intro e; exact hz (by show s.data.size = 0; rw [e]; rfl)
        cases hq : (Lib.itoa v == s.toList)
        · have HB : Hid (readDec s = -1) := read_bad s (by rw [← hks, ← HV.out]; exact itoa_ne hq)
          clear hks
          go_wp2_with (go_at_call 64; refine (specDecText _ _ (by omega) (by omega)).mono ?_; rintro e w' ⟨rfl, rfl⟩)
          go_ret
          exact ⟨ret_int HB.out.symm, rfl⟩
        · have HB : Hid (readDec s = v) := by unfold Hid; rw [HV.out, hks]; exact read_good s (by omega) (by rw [← hks]; exact HD.out) (by rw [← hks, ← HV.out]; exact itoa_eq hq)
          clear hks
          go_wp2_with (go_at_call 64; refine (specDecText _ _ (by omega) (by omega)).mono ?_; rintro e w' ⟨rfl, rfl⟩)
          go_ret
          exact ⟨ret_int HB.out.symm, rfl⟩
end Go.Proofs.YtifekkehbaegiaaGreatDoor.ctr

namespace Go.Proofs.YtifekkehbaegiaaGreatDoor.ctr
open Go.RowKit

theorem valL_snoc (l : List UInt8) (c : UInt8) : valL (l ++ [c]) = 10 * valL l + (c.toNat : Int) - 48 := by
  unfold valL
  rw [List.foldl_append]
  rfl
theorem dig_nat (k : Nat) (h : k < 10) : (UInt8.ofNat (48 + k)).toNat = 48 + k := by
  show (48 + k) % 256 = 48 + k
  omega
theorem valL_dec (u : Nat) : valL (Lib.decDigits u) = (u : Int) := by
  induction u using Nat.strongRecOn with
  | ind u ih =>
    rw [Lib.decDigits]
    by_cases h : u < 10
    · rw [dif_pos h]
      have := dig_nat u h
      have e := valL_snoc [] (UInt8.ofNat (48 + u))
      rw [List.nil_append] at e
      rw [e, this]
      simp [valL]
      omega
    · rw [dif_neg h, valL_snoc, ih (u / 10) (by omega), dig_nat (u % 10) (by omega)]
      omega
theorem dec_digs (u : Nat) : (Lib.decDigits u).all digB = true := by
  induction u using Nat.strongRecOn with
  | ind u ih =>
    rw [Lib.decDigits]
    by_cases h : u < 10
    · rw [dif_pos h]
      simp only [List.all_cons, List.all_nil, Bool.and_true]
      unfold digB
      rw [dig_nat u h]
      exact inB_true (by omega) (by omega)
    · rw [dif_neg h, List.all_append, ih (u / 10) (by omega)]
      simp only [List.all_cons, List.all_nil, Bool.and_true, Bool.true_and]
      unfold digB
      rw [dig_nat (u % 10) (by omega)]
      exact inB_true (by omega) (by omega)
theorem read_back (e : Int) (h0 : 0 ≤ e) (h1 : e ≤ 999999999) : readDec (itoaB e) = e := by
  have hi : Lib.itoa e = Lib.decDigits e.toNat := by unfold Lib.itoa; rw [if_neg (by omega)]
  have hs : (itoaB e).size = (Lib.decDigits e.toNat).length := by show (Lib.itoa e).length = _; rw [hi]
  have hl : (itoaB e).data.toList = Lib.decDigits e.toNat := by show (Lib.itoa e).toArray.toList = _; rw [hi]
  have ht : (itoaB e).data.toList.take (itoaB e).size = Lib.decDigits e.toNat := by rw [take_all, hl]
  have hv : val (itoaB e) (itoaB e).size = e := by unfold val; rw [ht, valL_dec]; omega
  have hp : (10 : Nat) ^ (8 + 1) = 1000000000 := by decide
  have h9 : (itoaB e).size ≤ 9 := by rw [hs]; exact dec_len 8 e.toNat (by rw [hp]; omega)
  have hd : digs (itoaB e) (itoaB e).size = true := by unfold digs; rw [ht]; exact dec_digs _
  have := read_good (itoaB e) h9 hd (by rw [hv])
  rw [this, hv]
end Go.Proofs.YtifekkehbaegiaaGreatDoor.ctr

namespace Go.Proofs.YtifekkehbaegiaaGreatDoor.ctr
open Go.RowKit

theorem pow10_eq : Lib.pow10Tab = [1, 10, 100, 1000, 10000, 100000, 1000000, 10000000, 100000000, 1000000000, 10000000000, 100000000000, 1000000000000, 10000000000000, 100000000000000, 1000000000000000, 10000000000000000, 100000000000000000, 1000000000000000000, 10000000000000000000] := by decide
theorem implDecText (n : Int) (w : World) (h0 : -9223372036854775808 ≤ n) (h1 : n ≤ 9223372036854775807)
    (hT : Lib.TabIs Tryz.prog w "internal/strconv.uint64pow10" .u64 Lib.pow10Tab) :
    Calls Tryz.prog 67 #[.int .i64 n] w fun e w' => e = .returned (.string ⟨(Lib.itoa n).toArray⟩) ∧ Below w.heap.size w w' := by
  have HT : Hid (Lib.TabIs Tryz.prog w "internal/strconv.uint64pow10" .u64 Lib.pow10Tab) := hT
  clear hT
  go_enter Tryz.func67, Tryz.ntmps67
  go_wp2_with fail
  refine (Tryz.strconv_Itoa n h0 h1 _ HT.out).mono ?_
  rintro e w1 ⟨rfl, k, os, hw⟩
  have hb : Below w.heap.size w w1 := by rw [hw]; exact below_grown _ _ _
  clear hw
  go_wp2
  go_ret
  exact ⟨rfl, hb⟩
end Go.Proofs.YtifekkehbaegiaaGreatDoor.ctr

namespace Go.Proofs.YtifekkehbaegiaaGreatDoor.ctr
open Go.RowKit

def noText : ByteArray := ⟨#[]⟩
theorem parts_none (s : ByteArray) (g : Int) : ∀ k, (∀ j, j < k → bAt s j ≠ g) → partsTo s g k = [] ∧ startAt s g k = 0
  | 0, _ => ⟨rfl, rfl⟩
  | k + 1, h => by
    obtain ⟨h1, h2⟩ := parts_miss s g k (h k (by omega))
    obtain ⟨h3, h4⟩ := parts_none s g k (fun j hj => h j (by omega))
    exact ⟨h1.trans h3, h2.trans h4⟩
theorem parts_run (s : ByteArray) (g : Int) (a : Nat) : ∀ n, (∀ j, a ≤ j → j < a + n → bAt s j ≠ g) → partsTo s g (a + n) = partsTo s g a ∧ startAt s g (a + n) = startAt s g a
  | 0, _ => ⟨rfl, rfl⟩
  | n + 1, h => by
    obtain ⟨h1, h2⟩ := parts_miss s g (a + n) (h (a + n) (by omega) (by omega))
    obtain ⟨h3, h4⟩ := parts_run s g a n (fun j h1 h2 => h j h1 (by omega))
    exact ⟨h1.trans h3, h2.trans h4⟩
theorem parts_mono (s : ByteArray) (g : Int) (a : Nat) : ∀ n, (partsTo s g a).length ≤ (partsTo s g (a + n)).length
  | 0 => Nat.le_refl _
  | n + 1 => by
    have ih := parts_mono s g a n
    show _ ≤ (partsTo s g ((a + n) + 1)).length
    rw [partsTo]
    split
    · rw [List.length_append]; omega
    · exact ih
theorem ext_all (s : ByteArray) : s.extract 0 s.size = s := ByteArray.extract_zero_size
theorem bAt_ext (s : ByteArray) (a k : Nat) : bAt (s.extract a s.size) k = bAt s (a + k) := by
  unfold bAt
  have h1 : (s.extract a s.size).data.toList = (s.data.toList.drop a) := by
    rw [Lib.extract_eq]
    show (List.take (s.size - a) (List.drop a s.data.toList)) = _
    rw [List.take_of_length_le (by rw [List.length_drop]; exact Nat.le_refl _)]
  rw [h1, List.getD, List.getD, List.getElem?_drop]
theorem cut_none (s : ByteArray) (g : Int) (h : ∀ j, j < s.size → bAt s j ≠ g) : cut s g = [s] := by
  obtain ⟨h1, h2⟩ := parts_none s g s.size h
  unfold cut
  rw [h1, h2, ext_all]
  rfl
theorem parts_short (s : ByteArray) (g : Int) : ∀ k, ∀ x ∈ partsTo s g k, x.size ≤ s.size
  | 0, x, h => by simp [partsTo] at h
  | k + 1, x, h => by
    rw [partsTo] at h
    split at h
    · rcases List.mem_append.1 h with h | h
      · exact parts_short s g k x h
      · have : x = s.extract (startAt s g k) k := by simpa using h
        rw [this, ByteArray.size_extract]
        omega
    · exact parts_short s g k x h
theorem cut_short (s : ByteArray) (g : Int) (i : Nat) : ((cut s g).getD i ⟨#[]⟩).size ≤ s.size := by
  by_cases hi : i < (cut s g).length
  · have hm : (cut s g).getD i ⟨#[]⟩ ∈ cut s g := by
      rw [List.getD, List.getElem?_eq_getElem hi]
      exact List.getElem_mem _
    unfold cut at hm
    rcases List.mem_append.1 hm with h | h
    · exact parts_short s g _ _ h
    · have : (cut s g).getD i ⟨#[]⟩ = s.extract (startAt s g s.size) s.size := by simpa [cut] using h
      rw [this, ByteArray.size_extract]
      omega
  · rw [List.getD, List.getElem?_eq_none (by omega)]
    exact Nat.zero_le _

theorem cut_long (s : ByteArray) (g : Int) : (cut s g).length ≤ s.size + 1 := by
  have := parts_len s g s.size
  unfold cut
  rw [List.length_append]
  simp
  omega
theorem empty_yes {b : ByteArray} (h : b.size = 0) : b.toList.isEmpty = true := by
  rw [ByteArray.toList_eq]
  simp
  exact Array.eq_empty_of_size_eq_zero h
theorem empty_no {b : ByteArray} (h : b.size ≠ 0) : b.toList.isEmpty = false := by
  rw [ByteArray.toList_eq]
  simp
  intro e
  exact h (by show b.data.size = 0; rw [e]; rfl)
theorem readDec_sign (b : ByteArray) (k : Nat) (h : k < b.size) (hk : bAt b k < 48) : readDec b = -1 := by
  apply read_stop b k h
  have h1 := bAt_eq b k h
  unfold digB
  exact inB_false (.inl (by omega))
/-- The first sign of a kind, or none. -/
theorem cut_first (s : ByteArray) (g : UInt8) : (∃ p : Nat, p < s.size ∧ Lib.indexByte s.data.toList g = p ∧ bAt s p = (g.toNat : Int) ∧ ∀ j, j < p → bAt s j ≠ (g.toNat : Int)) ∨ (Lib.indexByte s.data.toList g = -1 ∧ ∀ j, j < s.size → bAt s j ≠ (g.toNat : Int)) := by
  have key : ∀ j, j < s.size → (bAt s j = (g.toNat : Int) ↔ s.data.toList[j]? = some g) := fun j hj => by
    have hl : j < s.data.toList.length := hj
    unfold bAt
    rw [List.getD, List.getElem?_eq_getElem hl]
    constructor
    · intro h
      simp only [Option.getD_some] at h
      have : (s.data.toList[j]).toNat = g.toNat := by omega
      rw [show s.data.toList[j] = g from UInt8.toNat_inj.1 this]
    · intro h
      rw [Option.some.inj h]
      rfl
  by_cases h : Lib.indexByte s.data.toList g = -1
  · exact .inr ⟨h, fun j hj e => Lib.indexByte_none h j ((key j hj).1 e)⟩
  · have hge := Lib.indexByte_ge s.data.toList g
    obtain ⟨p, hp⟩ := Int.eq_ofNat_of_zero_le (show 0 ≤ Lib.indexByte s.data.toList g by omega)
    obtain ⟨f1, f2⟩ := Lib.indexByte_some hp
    have hps : p < s.size := by
      have : p < s.data.toList.length := (List.getElem?_eq_some_iff.1 f1).1
      exact this
    exact .inl ⟨p, hps, hp, (key p hps).2 f1, fun j hj e => f2 j hj ((key j (by omega)).1 e)⟩
/-- A text with one sign of a kind is cut into two. -/
theorem cut_two (s : ByteArray) (g : Int) (p : Nat) (hp : p < s.size) (hat : bAt s p = g) (hno : ∀ j, j < p → bAt s j ≠ g) (hr : ∀ j, p < j → j < s.size → bAt s j ≠ g) : cut s g = [s.extract 0 p, s.extract (p + 1) s.size] := by
  obtain ⟨a1, a2⟩ := parts_none s g p hno
  obtain ⟨b1, b2⟩ := parts_hit s g p hat
  rw [a1, a2] at b1
  have hrun := parts_run s g (p + 1) (s.size - (p + 1)) (fun j h1 h2 h3 => hr j (by omega) (by omega) h3)
  rw [show p + 1 + (s.size - (p + 1)) = s.size from by omega, b1, b2] at hrun
  unfold cut
  rw [hrun.1, hrun.2]
  rfl
/-- A text with two signs of a kind is cut into more than two. -/
theorem cut_more (s : ByteArray) (g : Int) (p q : Nat) (hpq : p < q) (hq : q < s.size) (hat : bAt s p = g) (h3 : bAt s q = g) : 2 < (cut s g).length := by
  have c0 := (parts_hit s g p hat).1
  have c1 := parts_mono s g (p + 1) (q - (p + 1))
  have c2 := (parts_hit s g q h3).1
  have c3 := parts_mono s g (q + 1) (s.size - (q + 1))
  rw [show p + 1 + (q - (p + 1)) = q from by omega] at c1
  rw [show q + 1 + (s.size - (q + 1)) = s.size from by omega] at c3
  have c4 : (partsTo s g (q + 1)).length = (partsTo s g q).length + 1 := by rw [c2, List.length_append]; rfl
  have c5 : (partsTo s g (p + 1)).length = (partsTo s g p).length + 1 := by rw [c0, List.length_append]; rfl
  unfold cut
  rw [List.length_append]
  simp
  omega
theorem dec_size {e : Int} (h0 : 0 ≤ e) (h1 : e ≤ 9999) : (itoaB e).size ≤ 4 := by
  have hi : Lib.itoa e = Lib.decDigits e.toNat := by unfold Lib.itoa; rw [if_neg (by omega)]
  have hs : (itoaB e).size = (Lib.decDigits e.toNat).length := by show (Lib.itoa e).length = _; rw [hi]
  have hp : (10 : Nat) ^ (3 + 1) = 10000 := by decide
  rw [hs]
  exact dec_len 3 e.toNat (by rw [hp]; omega)
end Go.Proofs.YtifekkehbaegiaaGreatDoor.ctr

namespace Go.Proofs.YtifekkehbaegiaaGreatDoor.ctr
open Go.RowKit

abbrev Pow (w : World) : Prop := Lib.TabIs Tryz.prog w "internal/strconv.uint64pow10" .u64 Lib.pow10Tab
theorem pow_later {w w1 : World} (h : Pow w) (hb : Below w.heap.size w w1) : Pow w1 := kit.tab_below h hb (g := 3) (by kernel_rfl)
def strokeB : ByteArray := ⟨#[47]⟩
def txP (y : Int) : Prop := 0 ≤ y ∧ y ≤ 9999
instance (y : Int) : Decidable (txP y) := by unfold txP; infer_instance
def yearText (y z : Int) : ByteArray := if txP y ∧ txP z then (if y = z then itoaB y else itoaB y ++ strokeB ++ itoaB z) else noText
theorem yt_no {y z : Int} (h : ¬ (txP y ∧ txP z)) : yearText y z = noText := by unfold yearText; rw [if_neg h]
theorem yt_one {y : Int} (h : txP y) : yearText y y = itoaB y := by unfold yearText; rw [if_pos ⟨h, h⟩, if_pos rfl]
theorem yt_two {y z : Int} (h : txP y) (h' : txP z) (hn : y ≠ z) : yearText y z = itoaB y ++ strokeB ++ itoaB z := by unfold yearText; rw [if_pos ⟨h, h'⟩, if_neg hn]
theorem tx_in {y : Int} (h : txP y) : inB y 0 9999 = true := inB_true h.1 h.2
theorem tx_out {y : Int} (h : ¬ txP y) : inB y 0 9999 = false := inB_false (by unfold txP at h; omega)
theorem implTxOk (y : Int) (w : World) : Calls Tryz.prog 66 #[.int .i64 y] w fun e w' => e = .returned (.bool (inB y 0 9999)) ∧ w' = w := by
  by_cases h1 : 0 ≤ y
  · by_cases h2 : y ≤ 9999
    · rw [tx_in ⟨h1, h2⟩]
      go_enter Tryz.func66, Tryz.ntmps66
      go_wp2
      go_ret
      exact ⟨rfl, rfl⟩
    · rw [tx_out (fun h => h2 h.2)]
      have hd : decide (y ≤ 9999) = false := decide_eq_false h2
      go_enter Tryz.func66, Tryz.ntmps66
      go_wp2
      go_ret
      exact ⟨rfl, rfl⟩
  · rw [tx_out (fun h => h1 h.1)]
    have hd : decide (0 ≤ y) = false := decide_eq_false h1
    go_enter Tryz.func66, Tryz.ntmps66
    go_wp2
    go_ret
    exact ⟨rfl, rfl⟩
theorem calls_bel {P : Program} {f : FuncId} {args : Array Value} {W : World} {v : Value} (h : Calls P f args W fun e w' => e = .returned v ∧ w' = W) : Calls P f args W fun e w' => e = .returned v ∧ Below W.heap.size W w' :=
  h.mono fun _ _ ⟨he, hm⟩ => ⟨he, by rw [hm]; exact Below.refl _ _⟩

set_option maxHeartbeats 1000000 in
theorem specYearText (y z : Int) (w : World) : Calls Tryz.prog 30 #[.int .i64 y, .int .i64 z] w fun e w' => e = .returned (.string (yearText y z)) ∧ Below w.heap.size w w' := by
  have KY : ∀ x : Later w, Calls Tryz.prog 45 #[.int .i64 y, .int .i64 0, .int .i64 9999] x.w fun e w' => e = .returned (.bool (inB y 0 9999)) ∧ Below x.w.heap.size x.w w' := fun x => calls_bel (l01In y 0 9999 x.w)
  have KZ : ∀ x : Later w, Calls Tryz.prog 45 #[.int .i64 z, .int .i64 0, .int .i64 9999] x.w fun e w' => e = .returned (.bool (inB z 0 9999)) ∧ Below x.w.heap.size x.w w' := fun x => calls_bel (l01In z 0 9999 x.w)
  by_cases hy : txP y
  · simp only [tx_in hy] at KY
    by_cases hz : txP z
    · simp only [tx_in hz] at KZ
      have DY : ∀ x : Later w, Calls Tryz.prog 64 #[.int .i64 y] x.w fun e w' => e = .returned (.string (itoaB y)) ∧ Below x.w.heap.size x.w w' := fun x => by
        have h1 := hy.1
        have h2 := hy.2
        exact calls_bel (specDecText y x.w (by omega) (by omega))
      have DZ : ∀ x : Later w, Calls Tryz.prog 64 #[.int .i64 z] x.w fun e w' => e = .returned (.string (itoaB z)) ∧ Below x.w.heap.size x.w w' := fun x => by
        have h1 := hz.1
        have h2 := hz.2
        exact calls_bel (specDecText z x.w (by omega) (by omega))
      by_cases he : y = z
      · subst he
        rw [yt_one hy]
        clear hy hz DZ
        generalize itoaB y = t at *
        go_enter Tryz.func30, Tryz.ntmps30
        go_wp2_with fail
        refine (KY ⟨w, Below.refl _ _⟩).mono ?_
        rintro e w1 ⟨rfl, hb⟩
        obtain ⟨x1, rfl⟩ := Later.of hb
        clear hb
        go_wp2_with fail
        refine (KZ x1).mono ?_
        rintro e w2 ⟨rfl, hb⟩
        obtain ⟨x2, rfl⟩ := x1.next hb
        clear hb
        go_wp2_with fail
        refine (DY x2).mono ?_
        rintro e w3 ⟨rfl, hb⟩
        obtain ⟨x3, rfl⟩ := x2.next hb
        clear hb
        go_wp2
        go_ret
        exact ⟨rfl, x3.below⟩
      · have hd : decide (y = z) = false := decide_eq_false (fun h => he h)
        rw [yt_two hy hz he]
        have s1 := dec_size hy.1 hy.2
        have s2 := dec_size hz.1 hz.2
        have s3 : (itoaB y ++ (⟨#[47]⟩ : ByteArray)).size ≤ 5 := by rw [ByteArray.size_append]; show (itoaB y).size + 1 ≤ 5; omega
        unfold strokeB
        have he' : y ≠ z := he
        clear hy hz
        generalize itoaB y = t at *
        generalize itoaB z = u at *
        go_enter Tryz.func30, Tryz.ntmps30
        go_wp2_with fail
        refine (KY ⟨w, Below.refl _ _⟩).mono ?_
        rintro e w1 ⟨rfl, hb⟩
        obtain ⟨x1, rfl⟩ := Later.of hb
        clear hb
        go_wp2_with fail
        refine (KZ x1).mono ?_
        rintro e w2 ⟨rfl, hb⟩
        obtain ⟨x2, rfl⟩ := x1.next hb
        clear hb
        go_wp2_with fail
        refine (DY x2).mono ?_
        rintro e w3 ⟨rfl, hb⟩
        obtain ⟨x3, rfl⟩ := x2.next hb
        clear hb
        go_wp2_with fail
        refine (DZ x3).mono ?_
        rintro e w4 ⟨rfl, hb⟩
        obtain ⟨x4, rfl⟩ := x3.next hb
        clear hb
        go_wp2
        go_ret
        exact ⟨rfl, x4.below⟩
    · simp only [tx_out hz] at KZ
      rw [yt_no (fun h => hz h.2)]
      unfold noText
      clear hy hz
      go_enter Tryz.func30, Tryz.ntmps30
      go_wp2_with fail
      refine (KY ⟨w, Below.refl _ _⟩).mono ?_
      rintro e w1 ⟨rfl, hb⟩
      obtain ⟨x1, rfl⟩ := Later.of hb
      clear hb
      go_wp2_with fail
      refine (KZ x1).mono ?_
      rintro e w2 ⟨rfl, hb⟩
      obtain ⟨x2, rfl⟩ := x1.next hb
      clear hb
      go_wp2
      go_ret
      exact ⟨rfl, x2.below⟩
  · simp only [tx_out hy] at KY
    rw [yt_no (fun h => hy h.1)]
    unfold noText
    clear hy KZ
    go_enter Tryz.func30, Tryz.ntmps30
    go_wp2_with fail
    refine (KY ⟨w, Below.refl _ _⟩).mono ?_
    rintro e w1 ⟨rfl, hb⟩
    obtain ⟨x1, rfl⟩ := Later.of hb
    clear hb
    go_wp2
    go_ret
    exact ⟨rfl, x1.below⟩

set_option maxHeartbeats 1000000 in
theorem implYearText (y z : Int) (w : World) (hP : Pow w) : Calls Tryz.prog 29 #[.int .i64 y, .int .i64 z] w fun e w' => e = .returned (.string (yearText y z)) ∧ Below w.heap.size w w' := by
  have HP : Hid (∀ x : Later w, Pow x.w) := fun x => pow_later hP x.below
  clear hP
  have KY : ∀ x : Later w, Calls Tryz.prog 66 #[.int .i64 y] x.w fun e w' => e = .returned (.bool (inB y 0 9999)) ∧ Below x.w.heap.size x.w w' := fun x => calls_bel (implTxOk y x.w)
  have KZ : ∀ x : Later w, Calls Tryz.prog 66 #[.int .i64 z] x.w fun e w' => e = .returned (.bool (inB z 0 9999)) ∧ Below x.w.heap.size x.w w' := fun x => calls_bel (implTxOk z x.w)
  by_cases hy : txP y
  · simp only [tx_in hy] at KY
    by_cases hz : txP z
    · simp only [tx_in hz] at KZ
      have DY : ∀ x : Later w, Calls Tryz.prog 67 #[.int .i64 y] x.w fun e w' => e = .returned (.string (itoaB y)) ∧ Below x.w.heap.size x.w w' := fun x => by
        have h1 := hy.1
        have h2 := hy.2
        exact implDecText y x.w (by omega) (by omega) (HP.out x)
      have DZ : ∀ x : Later w, Calls Tryz.prog 67 #[.int .i64 z] x.w fun e w' => e = .returned (.string (itoaB z)) ∧ Below x.w.heap.size x.w w' := fun x => by
        have h1 := hz.1
        have h2 := hz.2
        exact implDecText z x.w (by omega) (by omega) (HP.out x)
      by_cases he : y = z
      · subst he
        rw [yt_one hy]
        clear hy hz DZ
        generalize itoaB y = t at *
        go_enter Tryz.func29, Tryz.ntmps29
        go_wp2_with fail
        refine (KY ⟨w, Below.refl _ _⟩).mono ?_
        rintro e w1 ⟨rfl, hb⟩
        obtain ⟨x1, rfl⟩ := Later.of hb
        clear hb
        go_wp2_with fail
        refine (KZ x1).mono ?_
        rintro e w2 ⟨rfl, hb⟩
        obtain ⟨x2, rfl⟩ := x1.next hb
        clear hb
        go_wp2_with fail
        refine (DY x2).mono ?_
        rintro e w3 ⟨rfl, hb⟩
        obtain ⟨x3, rfl⟩ := x2.next hb
        clear hb
        go_wp2
        go_ret
        exact ⟨rfl, x3.below⟩
      · have hd : decide (z = y) = false := decide_eq_false (fun h => he h.symm)
        rw [yt_two hy hz he]
        have s1 := dec_size hy.1 hy.2
        have s2 := dec_size hz.1 hz.2
        have s3 : (itoaB y ++ (⟨#[47]⟩ : ByteArray)).size ≤ 5 := by rw [ByteArray.size_append]; show (itoaB y).size + 1 ≤ 5; omega
        unfold strokeB
        have he' : z ≠ y := fun h => he h.symm
        clear hy hz
        generalize itoaB y = t at *
        generalize itoaB z = u at *
        go_enter Tryz.func29, Tryz.ntmps29
        go_wp2_with fail
        refine (KY ⟨w, Below.refl _ _⟩).mono ?_
        rintro e w1 ⟨rfl, hb⟩
        obtain ⟨x1, rfl⟩ := Later.of hb
        clear hb
        go_wp2_with fail
        refine (KZ x1).mono ?_
        rintro e w2 ⟨rfl, hb⟩
        obtain ⟨x2, rfl⟩ := x1.next hb
        clear hb
        go_wp2_with fail
        refine (DY x2).mono ?_
        rintro e w3 ⟨rfl, hb⟩
        obtain ⟨x3, rfl⟩ := x2.next hb
        clear hb
        go_wp2_with fail
        refine (DZ x3).mono ?_
        rintro e w4 ⟨rfl, hb⟩
        obtain ⟨x4, rfl⟩ := x3.next hb
        clear hb
        go_wp2
        go_ret
        exact ⟨rfl, x4.below⟩
    · simp only [tx_out hz] at KZ
      rw [yt_no (fun h => hz h.2)]
      unfold noText
      clear hy hz
      go_enter Tryz.func29, Tryz.ntmps29
      go_wp2_with fail
      refine (KY ⟨w, Below.refl _ _⟩).mono ?_
      rintro e w1 ⟨rfl, hb⟩
      obtain ⟨x1, rfl⟩ := Later.of hb
      clear hb
      go_wp2_with fail
      refine (KZ x1).mono ?_
      rintro e w2 ⟨rfl, hb⟩
      obtain ⟨x2, rfl⟩ := x1.next hb
      clear hb
      go_wp2
      go_ret
      exact ⟨rfl, x2.below⟩
  · simp only [tx_out hy] at KY
    rw [yt_no (fun h => hy h.1)]
    unfold noText
    clear hy KZ
    go_enter Tryz.func29, Tryz.ntmps29
    go_wp2_with fail
    refine (KY ⟨w, Below.refl _ _⟩).mono ?_
    rintro e w1 ⟨rfl, hb⟩
    obtain ⟨x1, rfl⟩ := Later.of hb
    clear hb
    go_wp2
    go_ret
    exact ⟨rfl, x1.below⟩


/-- What the parts of a text of years tell. -/
def rdParts (s : ByteArray) (y z : Int) : Int × Int × Bool := if s.size = 0 ∨ yearText y z ≠ s then (0, 0, false) else (y, z, true)
def readYr (s : ByteArray) : Int × Int × Bool := rdParts s (readDec ((cut s 47).getD 0 ⟨#[]⟩)) (if (cut s 47).length = 2 then readDec ((cut s 47).getD 1 ⟨#[]⟩) else readDec ((cut s 47).getD 0 ⟨#[]⟩))
/-- What a text that is made again tells. -/
def rdText (s t : ByteArray) (y z : Int) : Int × Int × Bool := if t.size = 0 ∨ t ≠ s then (0, 0, false) else (y, z, true)
theorem rd_same (s : ByteArray) (y z : Int) : rdParts s y z = rdText s (yearText y z) y z := by
  unfold rdParts rdText
  by_cases h : yearText y z = s
  · rw [h]
  · rw [if_pos (.inr h), if_pos (.inr h)]
theorem rd_no {s : ByteArray} {y z : Int} (h : yearText y z ≠ s) : rdParts s y z = (0, 0, false) := by unfold rdParts; rw [if_pos (.inr h)]
theorem rd_hit (s : ByteArray) (p : Nat) (hp : p < s.size) (hat : bAt s p = 47) (hno : ∀ j, j < p → bAt s j ≠ 47) : readYr s = rdText s (yearText (readDec (s.extract 0 p)) (readDec (s.extract (p + 1) s.size))) (readDec (s.extract 0 p)) (readDec (s.extract (p + 1) s.size)) := by
  by_cases h : ∃ q, p < q ∧ q < s.size ∧ bAt s q = 47
  · obtain ⟨q, h1, h2, h3⟩ := h
    have hd : readDec (s.extract (p + 1) s.size) = -1 := by
      apply readDec_sign _ (q - (p + 1)) (by rw [ByteArray.size_extract]; omega)
      rw [bAt_ext s (p + 1) (q - (p + 1)), show p + 1 + (q - (p + 1)) = q from by omega, h3]
      omega
    have hl := cut_more s 47 p q h1 h2 hat h3
    rw [hd]
    unfold readYr
    rw [if_neg (by omega)]
    generalize readDec ((cut s 47).getD 0 ⟨#[]⟩) = y
    rw [rd_no]
    · unfold rdText
      rw [yt_no (fun h => by have := h.2.1; omega), if_pos (.inl rfl)]
    · intro e
      by_cases hy : txP y
      · rw [yt_one hy] at e
        have k1 := read_back y hy.1 (by have := hy.2; omega)
        rw [e, readDec_sign s p hp (by rw [hat]; omega)] at k1
        have := hy.1
        omega
      · rw [yt_no (fun h => hy h.1)] at e
        rw [← e] at hp
        exact absurd hp (Nat.not_lt_zero _)
  · have hc := cut_two s 47 p hp hat hno (fun j h1 h2 h3 => h ⟨j, h1, h2, h3⟩)
    unfold readYr
    rw [hc]
    exact rd_same s _ _
theorem rd_miss (s : ByteArray) (hno : ∀ j, j < s.size → bAt s j ≠ 47) : readYr s = rdText s (yearText (readDec s) (readDec s)) (readDec s) (readDec s) := by
  unfold readYr
  rw [cut_none s 47 hno]
  exact rd_same s _ _
end Go.Proofs.YtifekkehbaegiaaGreatDoor.ctr

namespace Go.Proofs.YtifekkehbaegiaaGreatDoor.ctr
open Go.RowKit

theorem run_ahead (s : ByteArray) (p : Nat) (hp : p < s.size) (w : World) : (Instr.slice 9 (.string s) none (some (.int .i64 (p : Int))) none).run Tryz.prog w = .ok (.string (s.extract 0 p)) w :=
  (run_slice_string_h (P := Tryz.prog) (w := w) (t := 9) (s := s) (ht := Tryz.underlying9) .i64 (p : Int) (by omega) (by omega)).trans (by rw [show ((p : Int)).toNat = p from by omega])
theorem run_behind (s : ByteArray) (p : Nat) (hp : p < s.size) (w : World) : (Instr.slice 9 (.string s) (some (.int .i64 ((p : Int) + 1))) none none).run Tryz.prog w = .ok (.string (s.extract (p + 1) s.size)) w :=
  (run_slice_string_l (P := Tryz.prog) (w := w) (t := 9) (s := s) (ht := Tryz.underlying9) .i64 ((p : Int) + 1) (by omega) (by omega)).trans (by rw [show ((p : Int) + 1).toNat = p + 1 from by omega])
set_option maxHeartbeats 1000000 in
theorem cutHit (s : ByteArray) (g : UInt8) (p : Nat) (w : World) (hs : s.size ≤ 1048576) (hp : p < s.size) (hix : Lib.indexByte s.data.toList g = p) : Calls Tryz.prog 85 #[.string s, .string ⟨#[g]⟩] w fun e w' => e = .returned (.tuple #[.string (s.extract 0 p), .string (s.extract (p + 1) s.size), .bool true]) ∧ Below w.heap.size w w' := by
  have KI : ∀ W, Calls Tryz.prog 109 #[.string s, .string ⟨#[g]⟩] W fun e w' => e = .returned (.int .i64 (p : Int)) ∧ w' = W := fun W => by rw [← hix]; exact Tryz.stringslite_Index_one s g W
  have h1 := run_ahead s p hp
  have h2 := run_behind s p hp
  have hwr : IntKind.i64.wrap ((p : Int) + 1) = (p : Int) + 1 := by rw [PlainAid.i64_is]; unfold wrap64; omega
  have hle : (p : Int) < (s.size : Int) := by omega
  have hle2 : (s.size : Int) ≤ 1048576 := by omega
  clear hix
  go_enter Tryz.func85, Tryz.ntmps85
  go_wp2_with fail
  refine (KI _).mono ?_
  rintro e w1 ⟨rfl, rfl⟩
  go_wp2
  go_region
  all_goals go_wp2
  all_goals go_ret3
  all_goals exact ⟨rfl, (Below.refl _ _).drew⟩
set_option maxHeartbeats 1000000 in
theorem cutMiss (s : ByteArray) (g : UInt8) (w : World) (hix : Lib.indexByte s.data.toList g = -1) : Calls Tryz.prog 85 #[.string s, .string ⟨#[g]⟩] w fun e w' => e = .returned (.tuple #[.string s, .string ⟨#[]⟩, .bool false]) ∧ Below w.heap.size w w' := by
  have KI : ∀ W, Calls Tryz.prog 109 #[.string s, .string ⟨#[g]⟩] W fun e w' => e = .returned (.int .i64 (-1)) ∧ w' = W := fun W => by rw [← hix]; exact Tryz.stringslite_Index_one s g W
  clear hix
  go_enter Tryz.func85, Tryz.ntmps85
  go_wp2_with fail
  refine (KI _).mono ?_
  rintro e w1 ⟨rfl, rfl⟩
  go_wp2
  go_ret3
  exact ⟨rfl, Below.refl _ _⟩
set_option maxHeartbeats 1000000 in
theorem cutFace (s a b : ByteArray) (g : UInt8) (f : Bool) (w : World) (h : Calls Tryz.prog 85 #[.string s, .string ⟨#[g]⟩] w fun e w' => e = .returned (.tuple #[.string a, .string b, .bool f]) ∧ Below w.heap.size w w') : Calls Tryz.prog 54 #[.string s, .string ⟨#[g]⟩] w fun e w' => e = .returned (.tuple #[.string a, .string b, .bool f]) ∧ Below w.heap.size w w' := by
  go_enter Tryz.func54, Tryz.ntmps54
  go_wp2_with fail
  refine h.mono ?_
  rintro e w1 ⟨rfl, hb⟩
  go_wp2
  go_ret3
  exact ⟨rfl, hb⟩
end Go.Proofs.YtifekkehbaegiaaGreatDoor.ctr

namespace Go.Proofs.YtifekkehbaegiaaGreatDoor.ctr
open Go.RowKit

set_option maxHeartbeats 400000 in
theorem implReadDec (s : ByteArray) (w : World) (hs : s.size ≤ maxLen) (hT : Lib.TabIs Tryz.prog w "internal/strconv.uint64pow10" .u64 Lib.pow10Tab) :
    Calls Tryz.prog 55 #[.string s] w fun e w' => e = .returned (.int .i64 (readDec s)) ∧ Below w.heap.size w w' := by
  unfold maxLen at hs
  have HT : Hid (Lib.TabIs Tryz.prog w "internal/strconv.uint64pow10" .u64 Lib.pow10Tab) := hT
  clear hT
  by_cases h9 : 9 < s.size
  · have HB : Hid (readDec s = -1) := read_long s h9
    go_enter Tryz.func55, Tryz.ntmps55
    go_wp2
    go_ret
    exact ⟨ret_int HB.out.symm, Below.refl _ _⟩
  go_enter Tryz.func55, Tryz.ntmps55
  go_wp2
  go_loop [3, 10] (fun n i => ∃ (k : Nat) (v : Int), k ≤ s.size ∧ k ≤ 9 ∧ i = .int .i64 k ∧ n = .int .i64 v ∧ 0 ≤ v ∧ v ≤ 999999999 ∧ digs s k = true ∧ v = val s k) (fun _ i => s.size - (intOf i).toNat)
  case atStart => exact ⟨0, 0, Nat.zero_le _, Nat.zero_le _, rfl, rfl, by omega, by omega, by simp [digs], by simp [val, valL]⟩
  case round =>
    obtain ⟨k, v, hk, hk9, rfl, rfl, v0, v1, hd, hv⟩ := hrel
    have HD : Hid (digs s k = true) := hd
    have HV : Hid (v = val s k) := hv
    clear hd hv
    by_cases hlt : k < s.size
    · by_cases c1 : (s[k].toNat : Int) < 48
      · have HB : Hid (readDec s = -1) := read_stop s k hlt (inB_false (.inl c1))
        go_wp2
        go_ret
        exact ⟨ret_int HB.out.symm, Below.refl _ _⟩
      · by_cases c2 : 57 < (s[k].toNat : Int)
        · have HB : Hid (readDec s = -1) := read_stop s k hlt (inB_false (.inr c2))
          go_wp2
          go_ret
          exact ⟨ret_int HB.out.symm, Below.refl _ _⟩
        · have hb : digB s[k] = true := inB_true (by omega) (by omega)
          have HN : Hid (digs s (k + 1) = true) := by unfold Hid; rw [digs_succ s k hlt, HD.out, hb]; rfl
          have HS : Hid (val s (k + 1) = 10 * v + (s[k].toNat : Int) - 48) := by unfold Hid; rw [val_succ s k hlt, HV.out]
          clear hb
          go_wp2
          have hB := val_bd9 s (k + 1) (by omega) (by omega) HN.out
          rw [HS.out] at hB
          exact ⟨⟨k + 1, 10 * v + (s[k].toNat : Int) - 48, by omega, by omega, by go_num, by rw [show v * 10 + ((s[k].toNat : Int) - 48) = 10 * v + (s[k].toNat : Int) - 48 from by omega], by omega, by omega, HN.out, HS.out.symm⟩, by simp [intOf]; omega⟩
    · have hks : k = s.size := by omega
      cases hq : (Lib.itoa v == s.toList)
      · have HB : Hid (readDec s = -1) := read_bad s (by rw [← hks, ← HV.out]; exact itoa_ne hq)
        clear hks
        go_wp2_with (go_at_call 67; refine (implDecText _ _ (by omega) (by omega) HT.out).mono ?_; rintro e w' ⟨rfl, hb⟩)
        go_ret
        exact ⟨ret_int HB.out.symm, hb⟩
      · have HB : Hid (readDec s = v) := by unfold Hid; rw [HV.out, hks]; exact read_good s (by omega) (by rw [← hks]; exact HD.out) (by rw [← hks, ← HV.out]; exact itoa_eq hq)
        clear hks
        go_wp2_with (go_at_call 67; refine (implDecText _ _ (by omega) (by omega) HT.out).mono ?_; rintro e w' ⟨rfl, hb⟩)
        go_ret
        exact ⟨ret_int HB.out.symm, hb⟩
end Go.Proofs.YtifekkehbaegiaaGreatDoor.ctr

namespace Go.Proofs.YtifekkehbaegiaaGreatDoor.ctr
open Go.RowKit

theorem eq_str {a b : ByteArray} (h : a = b) : (a.toList == b.toList) = true := by rw [h]; simp
theorem ne_str {a b : ByteArray} (h : a ≠ b) : (a.toList == b.toList) = false := by
  cases hq : (a.toList == b.toList)
  · rfl
  · exact absurd (str_eq hq) h

set_option maxRecDepth 100000 in
set_option maxHeartbeats 2000000 in
theorem specReadYear (s : ByteArray) (w : World) (hs : s.size ≤ 1048576) : Calls Tryz.prog 20 #[.string s] w fun e w' => e = .returned (.tuple #[.int .i64 (readYr s).1, .int .i64 (readYr s).2.1, .bool (readYr s).2.2]) ∧ Below w.heap.size w w' := by
  have hne := cut_ne s 47
  have hz0 := cut_short s 47 0
  have hz1 := cut_short s 47 1
  have hcl := cut_long s 47
  have KC := l01Cut s 47 w hs
  obtain ⟨R1, R2, R3, hR⟩ : ∃ R1 R2 R3, readYr s = (R1, R2, R3) := ⟨_, _, _, rfl⟩
  rw [hR]
  have HV := hideP hR
  unfold readYr at HV
  clear hR
  generalize cut s 47 = xs at *
  have hl0 : 0 < xs.length := by
    rcases xs with _ | _
    · exact absurd rfl hne
    · simp
  obtain ⟨n0, hn0⟩ : ∃ n0, n0 = xs.getD 0 ⟨#[]⟩ := ⟨_, rfl⟩
  obtain ⟨n1, hn1⟩ : ∃ n1, n1 = xs.getD 1 ⟨#[]⟩ := ⟨_, rfl⟩
  rw [← hn0, ← hn1] at HV
  rw [← hn0] at hz0
  rw [← hn1] at hz1
  have HN0 := hideP hn0
  have HN1 := hideP hn1
  clear hn0 hn1
  have KR0 : ∀ W, Calls Tryz.prog 57 #[.string n0] W fun e w' => e = .returned (.int .i64 (readDec n0)) ∧ Below W.heap.size W w' := fun W => calls_bel (specReadDec _ W (by unfold maxLen; omega))
  have KR1 : ∀ W, Calls Tryz.prog 57 #[.string n1] W fun e w' => e = .returned (.int .i64 (readDec n1)) ∧ Below W.heap.size W w' := fun W => calls_bel (specReadDec _ W (by unfold maxLen; omega))
  have KT : ∀ y z W, Calls Tryz.prog 30 #[.int .i64 y, .int .i64 z] W fun e w' => e = .returned (.string (yearText y z)) ∧ Below W.heap.size W w' := fun y z W => specYearText y z W
  generalize readDec n0 = y at *
  generalize readDec n1 = z at *
  go_enter Tryz.func20, Tryz.ntmps20
  go_wp2_with fail
  refine KC.mono ?_
  rintro e W1 ⟨v, rfl, hr, hb1⟩
  obtain ⟨g, cap, rfl, hg, hgl, hst, _⟩ := own_row hr hne
  have B1 := hideP hb1
  have e0 : W1.cell? ⟨g, 0, none⟩ = some (.string n0) := by rw [HN0.out]; exact hst 0 hl0
  have HST := hideP hst
  clear hr hb1 hst KC
  go_wp2_with fail
  refine (KR0 _).mono ?_
  rintro e W2 ⟨rfl, hb2⟩
  have B2 : Hid (Below w.heap.size w W2) := B1.out.trans (hb2.mono B1.out.size)
  have HST2 := hideP (HST.out.below hb2 hgl)
  clear hb2 e0
  by_cases h2 : xs.length = 2
  · rw [if_pos h2] at HV
    have h2' : ((xs.length : Int) == 2) = true := by simp [h2]
    have hl1 : 1 < xs.length := by omega
    have e1 : W2.cell? ⟨g, 1, none⟩ = some (.string n1) := by rw [HN1.out]; exact HST2.out 1 hl1
    have hi1 : (1 : Int) < (xs.length : Int) := by omega
    go_wp2_with fail
    refine (KR1 _).mono ?_
    rintro e W3 ⟨rfl, hb3⟩
    have B3 : Hid (Below w.heap.size w W3) := B2.out.trans (hb3.mono B2.out.size)
    clear hb3 e1
    by_cases hz : s.size = 0
    · have hE := empty_yes hz
      have HE : Hid ((0, 0, false) = (R1, R2, R3)) := by unfold Hid; rw [← HV.out]; unfold rdParts; rw [if_pos (.inl hz)]
      obtain ⟨rfl, rfl, rfl⟩ : 0 = R1 ∧ 0 = R2 ∧ false = R3 := by simpa using HE.out
      clear HE HV KT
      go_wp2
      go_ret3
      exact ⟨rfl, B3.out⟩
    have hE := empty_no hz
    by_cases ht : yearText y z = s
    · have hq := eq_str ht
      have HE : Hid ((y, z, true) = (R1, R2, R3)) := by unfold Hid; rw [← HV.out]; unfold rdParts; rw [if_neg (fun h => h.elim hz (fun h => h ht))]
      obtain ⟨rfl, rfl, rfl⟩ : y = R1 ∧ z = R2 ∧ true = R3 := by simpa using HE.out
      have K := KT y z
      clear HE HV KT ht
      generalize yearText y z = t at *
      go_wp2_with fail
      refine (K _).mono ?_
      rintro e W4 ⟨rfl, hb4⟩
      have B4 : Hid (Below w.heap.size w W4) := B3.out.trans (hb4.mono B3.out.size)
      clear hb4
      go_wp2
      go_ret3
      exact ⟨rfl, B4.out⟩
    · have hq := ne_str ht
      have HE : Hid ((0, 0, false) = (R1, R2, R3)) := by unfold Hid; rw [← HV.out]; unfold rdParts; rw [if_pos (.inr ht)]
      obtain ⟨rfl, rfl, rfl⟩ : 0 = R1 ∧ 0 = R2 ∧ false = R3 := by simpa using HE.out
      have K := KT y z
      clear HE HV KT ht
      generalize yearText y z = t at *
      go_wp2_with fail
      refine (K _).mono ?_
      rintro e W4 ⟨rfl, hb4⟩
      have B4 : Hid (Below w.heap.size w W4) := B3.out.trans (hb4.mono B3.out.size)
      clear hb4
      go_wp2
      go_ret3
      exact ⟨rfl, B4.out⟩
  · rw [if_neg h2] at HV
    have h2' : ((xs.length : Int) == 2) = false := by simp; omega
    by_cases hz : s.size = 0
    · have hE := empty_yes hz
      have HE : Hid ((0, 0, false) = (R1, R2, R3)) := by unfold Hid; rw [← HV.out]; unfold rdParts; rw [if_pos (.inl hz)]
      obtain ⟨rfl, rfl, rfl⟩ : 0 = R1 ∧ 0 = R2 ∧ false = R3 := by simpa using HE.out
      clear HE HV KT
      go_wp2
      go_ret3
      exact ⟨rfl, B2.out⟩
    have hE := empty_no hz
    by_cases ht : yearText y y = s
    · have hq := eq_str ht
      have HE : Hid ((y, y, true) = (R1, R2, R3)) := by unfold Hid; rw [← HV.out]; unfold rdParts; rw [if_neg (fun h => h.elim hz (fun h => h ht))]
      obtain ⟨rfl, rfl, rfl⟩ : y = R1 ∧ y = R2 ∧ true = R3 := by simpa using HE.out
      have K := KT y y
      clear HE HV KT ht
      generalize yearText y y = t at *
      go_wp2_with fail
      refine (K _).mono ?_
      rintro e W4 ⟨rfl, hb4⟩
      have B4 : Hid (Below w.heap.size w W4) := B2.out.trans (hb4.mono B2.out.size)
      clear hb4
      go_wp2
      go_ret3
      exact ⟨rfl, B4.out⟩
    · have hq := ne_str ht
      have HE : Hid ((0, 0, false) = (R1, R2, R3)) := by unfold Hid; rw [← HV.out]; unfold rdParts; rw [if_pos (.inr ht)]
      obtain ⟨rfl, rfl, rfl⟩ : 0 = R1 ∧ 0 = R2 ∧ false = R3 := by simpa using HE.out
      have K := KT y y
      clear HE HV KT ht
      generalize yearText y y = t at *
      go_wp2_with fail
      refine (K _).mono ?_
      rintro e W4 ⟨rfl, hb4⟩
      have B4 : Hid (Below w.heap.size w W4) := B2.out.trans (hb4.mono B2.out.size)
      clear hb4
      go_wp2
      go_ret3
      exact ⟨rfl, B4.out⟩

set_option maxRecDepth 100000 in
set_option maxHeartbeats 2000000 in
theorem implReadYear (s : ByteArray) (w : World) (hs : s.size ≤ 1048576) (hP : Pow w) : Calls Tryz.prog 19 #[.string s] w fun e w' => e = .returned (.tuple #[.int .i64 (readYr s).1, .int .i64 (readYr s).2.1, .bool (readYr s).2.2]) ∧ Below w.heap.size w w' := by
  have HP := hideP hP
  clear hP
  obtain ⟨R1, R2, R3, hR⟩ : ∃ R1 R2 R3, readYr s = (R1, R2, R3) := ⟨_, _, _, rfl⟩
  rw [hR]
  have KT : ∀ y z W, Pow W → Calls Tryz.prog 29 #[.int .i64 y, .int .i64 z] W fun e w' => e = .returned (.string (yearText y z)) ∧ Below W.heap.size W w' := fun y z W h => implYearText y z W h
  rcases cut_first s 47 with ⟨p, hp, hix, hat, hno⟩ | ⟨hix, hno⟩
  · have KC : Calls Tryz.prog 54 #[.string s, .string ⟨#[47]⟩] w fun e w' => e = .returned (.tuple #[.string (s.extract 0 p), .string (s.extract (p + 1) s.size), .bool true]) ∧ Below w.heap.size w w' := cutFace s _ _ 47 _ w (cutHit s 47 p w hs hp hix)
    have hz0 : (s.extract 0 p).size ≤ s.size := by rw [ByteArray.size_extract]; omega
    have hz1 : (s.extract (p + 1) s.size).size ≤ s.size := by rw [ByteArray.size_extract]; omega
    have HV := hideP ((rd_hit s p hp hat hno).symm.trans hR)
    clear hix hat hno hR
    generalize s.extract 0 p = n0 at *
    generalize s.extract (p + 1) s.size = n1 at *
    have KR0 : ∀ W, Pow W → Calls Tryz.prog 55 #[.string n0] W fun e w' => e = .returned (.int .i64 (readDec n0)) ∧ Below W.heap.size W w' := fun W h => implReadDec n0 W (by unfold maxLen; omega) h
    have KR1 : ∀ W, Pow W → Calls Tryz.prog 55 #[.string n1] W fun e w' => e = .returned (.int .i64 (readDec n1)) ∧ Below W.heap.size W w' := fun W h => implReadDec n1 W (by unfold maxLen; omega) h
    generalize readDec n0 = y at *
    generalize readDec n1 = z at *
    have K := KT y z
    clear KT
    generalize yearText y z = t at *
    go_enter Tryz.func19, Tryz.ntmps19
    go_wp2_with fail
    refine KC.mono ?_
    rintro e W1 ⟨rfl, hb1⟩
    have B1 := hideP hb1
    clear hb1 KC
    go_wp2_with fail
    refine (KR0 _ (pow_later HP.out B1.out)).mono ?_
    rintro e W2 ⟨rfl, hb2⟩
    have B2 : Hid (Below w.heap.size w W2) := B1.out.trans (hb2.mono B1.out.size)
    clear hb2 KR0
    go_wp2_with fail
    refine (KR1 _ (pow_later HP.out B2.out)).mono ?_
    rintro e W3 ⟨rfl, hb3⟩
    have B3 : Hid (Below w.heap.size w W3) := B2.out.trans (hb3.mono B2.out.size)
    clear hb3 KR1
    go_wp2_with fail
    refine (K _ (pow_later HP.out B3.out)).mono ?_
    rintro e W4 ⟨rfl, hb4⟩
    have B4 : Hid (Below w.heap.size w W4) := B3.out.trans (hb4.mono B3.out.size)
    clear hb4
    by_cases hz : t.size = 0
    · have hE := empty_yes hz
      have HE : Hid ((0, 0, false) = (R1, R2, R3)) := by unfold Hid; rw [← HV.out]; unfold rdText; rw [if_pos (.inl hz)]
      obtain ⟨rfl, rfl, rfl⟩ : 0 = R1 ∧ 0 = R2 ∧ false = R3 := by simpa using HE.out
      clear HE HV K
      go_wp2
      go_ret3
      exact ⟨rfl, B4.out⟩
    have hE := empty_no hz
    by_cases ht : t = s
    · have hq := eq_str ht
      have HE : Hid ((y, z, true) = (R1, R2, R3)) := by unfold Hid; rw [← HV.out]; unfold rdText; rw [if_neg (fun h => h.elim hz (fun h => h ht))]
      obtain ⟨rfl, rfl, rfl⟩ : y = R1 ∧ z = R2 ∧ true = R3 := by simpa using HE.out
      clear HE HV ht K
      go_wp2
      go_ret3
      exact ⟨rfl, B4.out⟩
    · have hq := ne_str ht
      have HE : Hid ((0, 0, false) = (R1, R2, R3)) := by unfold Hid; rw [← HV.out]; unfold rdText; rw [if_pos (.inr ht)]
      obtain ⟨rfl, rfl, rfl⟩ : 0 = R1 ∧ 0 = R2 ∧ false = R3 := by simpa using HE.out
      clear HE HV ht K
      go_wp2
      go_ret3
      exact ⟨rfl, B4.out⟩
  · have KC : Calls Tryz.prog 54 #[.string s, .string ⟨#[47]⟩] w fun e w' => e = .returned (.tuple #[.string s, .string ⟨#[]⟩, .bool false]) ∧ Below w.heap.size w w' := cutFace s _ _ 47 _ w (cutMiss s 47 w hix)
    have HV := hideP ((rd_miss s hno).symm.trans hR)
    clear hix hno hR
    have KR0 : ∀ W, Pow W → Calls Tryz.prog 55 #[.string s] W fun e w' => e = .returned (.int .i64 (readDec s)) ∧ Below W.heap.size W w' := fun W h => implReadDec s W (by unfold maxLen; omega) h
    generalize readDec s = y at *
    have K := KT y y
    clear KT
    generalize yearText y y = t at *
    go_enter Tryz.func19, Tryz.ntmps19
    go_wp2_with fail
    refine KC.mono ?_
    rintro e W1 ⟨rfl, hb1⟩
    have B1 := hideP hb1
    clear hb1 KC
    go_wp2_with fail
    refine (KR0 _ (pow_later HP.out B1.out)).mono ?_
    rintro e W2 ⟨rfl, hb2⟩
    have B2 : Hid (Below w.heap.size w W2) := B1.out.trans (hb2.mono B1.out.size)
    clear hb2 KR0
    go_wp2_with fail
    refine (K _ (pow_later HP.out B2.out)).mono ?_
    rintro e W4 ⟨rfl, hb4⟩
    have B4 : Hid (Below w.heap.size w W4) := B2.out.trans (hb4.mono B2.out.size)
    clear hb4
    by_cases hz : t.size = 0
    · have hE := empty_yes hz
      have HE : Hid ((0, 0, false) = (R1, R2, R3)) := by unfold Hid; rw [← HV.out]; unfold rdText; rw [if_pos (.inl hz)]
      obtain ⟨rfl, rfl, rfl⟩ : 0 = R1 ∧ 0 = R2 ∧ false = R3 := by simpa using HE.out
      clear HE HV K
      go_wp2
      go_ret3
      exact ⟨rfl, B4.out⟩
    have hE := empty_no hz
    by_cases ht : t = s
    · have hq := eq_str ht
      have HE : Hid ((y, y, true) = (R1, R2, R3)) := by unfold Hid; rw [← HV.out]; unfold rdText; rw [if_neg (fun h => h.elim hz (fun h => h ht))]
      obtain ⟨rfl, rfl, rfl⟩ : y = R1 ∧ y = R2 ∧ true = R3 := by simpa using HE.out
      clear HE HV ht K
      go_wp2
      go_ret3
      exact ⟨rfl, B4.out⟩
    · have hq := ne_str ht
      have HE : Hid ((0, 0, false) = (R1, R2, R3)) := by unfold Hid; rw [← HV.out]; unfold rdText; rw [if_pos (.inr ht)]
      obtain ⟨rfl, rfl, rfl⟩ : 0 = R1 ∧ 0 = R2 ∧ false = R3 := by simpa using HE.out
      clear HE HV ht K
      go_wp2
      go_ret3
      exact ⟨rfl, B4.out⟩
end Go.Proofs.YtifekkehbaegiaaGreatDoor.ctr
