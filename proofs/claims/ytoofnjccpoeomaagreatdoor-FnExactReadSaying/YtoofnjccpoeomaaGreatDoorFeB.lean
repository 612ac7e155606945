/- Contract of the model's ReadDec: at every text within the length limit it answers the plain function readDec; nothing is written. Plain laws of cut texts, of no program: a text cut at every sign of a kind, its first such sign, how long the parts are; a text with a sign that is no digit is no number. Texts of feasts: the plain functions; a text cut at its first plus and at all of them; a text that is told is read again. Contracts of the model's functions of Easter: each answers its plain function. Contracts of the program's calendars' own rules of Easter: yearOk, epact, fullMoon, closedSum of julian and gregorian. Contracts of the program's easterDate, lineEaster, Easter: each answers its plain function, where the table of months holds its numbers. Contracts of both FeastDay: each answers its plain function at every calendar, year and feast. Contracts of the model's ReadFeast and FeastPlus: each answers its plain function, at every text of at most 1048576 bytes. Contract of the program's ReadDec: at every text within the length limit it answers the plain function readDec, where the library's table of powers of ten holds its numbers; nothing that was there turns. Contract of strings.Cut at one sign: at every text of at most 1048576 bytes it answers what is ahead of the first such sign and what is behind it, or the whole text. Contracts of the year that holds a day: the model's l02Year and the program's yearHolding. Contract of the model's DateOf: it answers its plain function at every argument. Contract of the program's DateOf: it answers its plain function at every argument, where its table holds its numbers. Contracts of both FeastsOn: each answers, in a row of its own, the names of the feasts that the day is; nothing that was there turns. A number comes back from its digits. A day told from a feast on is read as that day again. Contract of the model's FeastText: it answers its plain function at every argument. Contract of the program's FeastText: it answers its plain function at every argument, where the tables of months and of powers of ten hold their numbers. Contracts of the program's ReadFeast and FeastPlus: each answers its plain function, at every text of at most 1048576 bytes, where the listed tables hold their numbers. The calendar of a name: contracts of the program's calNamed and of the model's l10Cal. -/
import Derived.Test.YtoofnjccpoeomaaGreatDoorSaA
import Derived.Test.YtoofnjccpoeomaaGreatDoorCutCtr
import Derived.Lib.CutLaws
import Derived.Lib.IndexBytes
import Derived.Lib.IndexLaws
import Derived.Test.YtoofnjccpoeomaaGreatDoorFeA
import Derived.Test.YtoofnjccpoeomaaGreatDoorEasPlain
import Derived.Test.YtoofnjccpoeomaaGreatDoorBlkKit
import Derived.Test.YtoofnjccpoeomaaGreatDoorSolDay
import Derived.Test.YtoofnjccpoeomaaGreatDoorRowBase
import Derived.Test.YtoofnjccpoeomaaGreatDoorShelf
import Derived.PlainAid
import Derived.Deep.RegionWith
import Derived.Test.YtoofnjccpoeomaaGreatDoorSolLeap
import Derived.Test.YtoofnjccpoeomaaGreatDoorLaterKit
import Derived.Deep.DeepCutAuto
namespace Go.Proofs.YtoofnjccpoeomaaGreatDoor.ctr
open Go.RowKit

/-- 0 .. 9. -/
def digB (c : UInt8) : Bool := inB c.toNat 48 57
def digs (s : ByteArray) (k : Nat) : Bool := (s.data.toList.take k).all digB
def valL (l : List UInt8) : Int := l.foldl (fun n c => 10 * n + (c.toNat : Int) - 48) 0
def val (s : ByteArray) (k : Nat) : Int := valL (s.data.toList.take k)
def itoaB (n : Int) : ByteArray := ⟨(Lib.itoa n).toArray⟩
def readDec (s : ByteArray) : Int := if s.size ≤ 9 ∧ digs s s.size = true ∧ itoaB (val s s.size) = s then val s s.size else -1
theorem val_succ (s : ByteArray) (k : Nat) (h : k < s.size) : val s (k + 1) = 10 * val s k + (s[k].toNat : Int) - 48 := by
  unfold val valL
  rw [take_snoc s k h, List.foldl_append]
  rfl
theorem digs_succ (s : ByteArray) (k : Nat) (h : k < s.size) : digs s (k + 1) = (digs s k && digB s[k]) := by
  unfold digs
  rw [take_snoc s k h, List.all_append]
  simp
theorem dig_of {c : UInt8} (h : digB c = true) : 48 ≤ (c.toNat : Int) ∧ (c.toNat : Int) ≤ 57 := by
  simpa [digB, inB] using h
theorem val_bd (s : ByteArray) : ∀ k, k ≤ s.size → digs s k = true → 0 ≤ val s k ∧ val s k < (10 : Int) ^ k
  | 0, _, _ => by simp [val, valL]
  | k + 1, hk, h => by
    rw [digs_succ s k (by omega), Bool.and_eq_true] at h
    have := val_bd s k (by omega) h.1
    have hd := dig_of h.2
    rw [val_succ s k (by omega), Int.pow_succ]
    omega
theorem val_bd9 (s : ByteArray) (k : Nat) (hk : k ≤ s.size) (h9 : k ≤ 9) (h : digs s k = true) : 0 ≤ val s k ∧ val s k ≤ 999999999 := by
  have := val_bd s k hk h
  have h2 : (10 : Int) ^ k ≤ 10 ^ 9 := by
    have : (10 : Nat) ^ k ≤ 10 ^ 9 := Nat.pow_le_pow_right (by omega) h9
    exact_mod_cast this
  have h3 : (10 : Int) ^ 9 = 1000000000 := by decide
  omega
theorem digs_up (s : ByteArray) : ∀ k j, k + j ≤ s.size → digs s (k + j) = true → digs s k = true
  | k, 0, _, h => h
  | k, j + 1, hk, h => by
    rw [show k + (j + 1) = (k + j) + 1 from by omega, digs_succ s (k + j) (by omega), Bool.and_eq_true] at h
    exact digs_up s k j (by omega) h.1
theorem read_stop (s : ByteArray) (k : Nat) (h : k < s.size) (h2 : digB s[k] = false) : readDec s = -1 := by
  unfold readDec
  rw [if_neg]
  rintro ⟨_, hd, _⟩
  have := digs_up s (k + 1) (s.size - (k + 1)) (by omega) (by rw [show k + 1 + (s.size - (k + 1)) = s.size from by omega]; exact hd)
  rw [digs_succ s k h, h2] at this
  simp at this
theorem read_long (s : ByteArray) (h : 9 < s.size) : readDec s = -1 := by
  unfold readDec
  rw [if_neg (by omega)]
theorem read_bad (s : ByteArray) (h : itoaB (val s s.size) ≠ s) : readDec s = -1 := by
  unfold readDec
  rw [if_neg (by rintro ⟨_, _, e⟩; exact h e)]
theorem read_good (s : ByteArray) (h9 : s.size ≤ 9) (hd : digs s s.size = true) (h : itoaB (val s s.size) = s) : readDec s = val s s.size := by
  unfold readDec
  rw [if_pos ⟨h9, hd, h⟩]
theorem itoa_eq {v : Int} {s : ByteArray} (h : (Lib.itoa v == s.toList) = true) : itoaB v = s := by
  rw [ByteArray.toList_eq, beq_iff_eq] at h
  unfold itoaB
  rw [h]
theorem itoa_ne {v : Int} {s : ByteArray} (h : (Lib.itoa v == s.toList) = false) : itoaB v ≠ s := by
  rintro rfl
  rw [ByteArray.toList_eq] at h
  simp [itoaB] at h
theorem itoaB_empty (n : Int) (s : ByteArray) (h : s.size = 0) : itoaB n ≠ s := by
  intro e
  have h1 : (itoaB n).size = 0 := by rw [e, h]
  have h2 : (Lib.itoa n).length = 0 := h1
  rw [List.length_eq_zero_iff] at h2
  unfold Lib.itoa at h2
  split at h2
  · simp at h2
  · rw [Lib.decDigits] at h2
    split at h2 <;> simp at h2

set_option maxHeartbeats 400000 in
theorem specReadDec (s : ByteArray) (w : World) (hs : s.size ≤ maxLen) :
    Calls Tryz.prog 33 #[.string s] w fun e w' => e = .returned (.int .i64 (readDec s)) ∧ w' = w := by
  unfold maxLen at hs
  go_enter Tryz.func33, Tryz.ntmps33
  go_wp2
  go_loop [3, 4] (fun n i => ∃ (k : Nat) (v : Int), k ≤ s.size ∧ k ≤ 9 ∧ i = .int .i64 k ∧ n = .int .i64 v ∧ 0 ≤ v ∧ v ≤ 999999999 ∧ digs s k = true ∧ v = val s k) (fun _ i => s.size - (intOf i).toNat)
  case atStart => exact ⟨0, 0, Nat.zero_le _, Nat.zero_le _, rfl, rfl, by omega, by omega, by simp [digs], by simp [val, valL]⟩
  case round =>
    obtain ⟨k, v, hk, hk9, rfl, rfl, v0, v1, hd, hv⟩ := hrel
    have HD : Hid (digs s k = true) := hd
    have HV : Hid (v = val s k) := hv
    clear hd hv
    by_cases hlt : k < s.size
    · cases hb : digB s[k]
      · have HB : Hid (readDec s = -1) := read_stop s k hlt hb
        have hb' : inB (wrap64 (s[k].toNat : Int)) 48 57 = false := by rw [byte64]; exact hb
        clear hb
        go_wp2_with (go_at_call 40; refine (l01In _ _ _ _).mono ?_; rintro e w' ⟨rfl, rfl⟩)
        go_ret
        exact ⟨ret_int HB.out.symm, rfl⟩
      · have hb' : inB (wrap64 (s[k].toNat : Int)) 48 57 = true := by rw [byte64]; exact hb
        by_cases h9 : 9 < s.size
        · have HB : Hid (readDec s = -1) := read_long s h9
          clear hb
          go_wp2_with (go_at_call 40; refine (l01In _ _ _ _).mono ?_; rintro e w' ⟨rfl, rfl⟩)
          go_ret
          exact ⟨ret_int HB.out.symm, rfl⟩
        · have HN : Hid (digs s (k + 1) = true) := by unfold Hid; rw [digs_succ s k hlt, HD.out, hb]; rfl
          have HS : Hid (val s (k + 1) = 10 * v + (s[k].toNat : Int) - 48) := by unfold Hid; rw [val_succ s k hlt, HV.out]
          have hbd := dig_of hb
          obtain ⟨d0, d1⟩ := hbd
          have hb2 : inB (s[k].toNat : Int) 48 57 = true := hb
          clear hb hb'
          go_wp2_with (go_at_call 40; refine (l01In _ _ _ _).mono ?_; rintro e w' ⟨rfl, rfl⟩)
          have hB := val_bd9 s (k + 1) (by omega) (by omega) HN.out
          rw [HS.out] at hB
          exact ⟨⟨k + 1, 10 * v + (s[k].toNat : Int) - 48, by omega, by omega, by go_num, by go_num, by omega, by omega, HN.out, HS.out.symm⟩, by simp [intOf]; omega⟩
    · have hks : k = s.size := by omega
      by_cases hz : s.size = 0
      · have HB : Hid (readDec s = -1) := read_bad s (itoaB_empty _ s hz)
        have hz' : s.toList.isEmpty = true := by rw [ByteArray.toList_eq]; simp; exact Array.eq_empty_of_size_eq_zero hz
        go_wp2_with (go_at_call 18; refine (specDecText _ _ (by omega) (by omega)).mono ?_; rintro e w' ⟨rfl, rfl⟩)
        go_ret
        exact ⟨ret_int HB.out.symm, rfl⟩
      · have hz' : s.toList.isEmpty = false := by rw [ByteArray.toList_eq]; simp; intro e; exact hz (by show s.data.size = 0; rw [e]; rfl)
        cases hq : (Lib.itoa v == s.toList)
        · have HB : Hid (readDec s = -1) := read_bad s (by rw [← hks, ← HV.out]; exact itoa_ne hq)
          clear hks
          go_wp2_with (go_at_call 18; refine (specDecText _ _ (by omega) (by omega)).mono ?_; rintro e w' ⟨rfl, rfl⟩)
          go_ret
          exact ⟨ret_int HB.out.symm, rfl⟩
        · have HB : Hid (readDec s = v) := by unfold Hid; rw [HV.out, hks]; exact read_good s (by omega) (by rw [← hks]; exact HD.out) (by rw [← hks, ← HV.out]; exact itoa_eq hq)
          clear hks
          go_wp2_with (go_at_call 18; refine (specDecText _ _ (by omega) (by omega)).mono ?_; rintro e w' ⟨rfl, rfl⟩)
          go_ret
          exact ⟨ret_int HB.out.symm, rfl⟩
end Go.Proofs.YtoofnjccpoeomaaGreatDoor.ctr

namespace Go.Proofs.YtoofnjccpoeomaaGreatDoor.ctr
open Go.RowKit

def noText : ByteArray := ⟨#[]⟩
theorem parts_none (s : ByteArray) (g : Int) : ∀ k, (∀ j, j < k → bAt s j ≠ g) → partsTo s g k = [] ∧ startAt s g k = 0
  | 0, _ => ⟨rfl, rfl⟩
  | k + 1, h => by
    obtain ⟨h1, h2⟩ := parts_miss s g k (h k (by omega))
    obtain ⟨h3, h4⟩ := parts_none s g k (fun j hj => h j (by omega))
    exact ⟨h1.trans h3, h2.trans h4⟩
theorem parts_run (s : ByteArray) (g : Int) (a : Nat) : ∀ n, (∀ j, a ≤ j → j < a + n → bAt s j ≠ g) → partsTo s g (a + n) = partsTo s g a ∧ startAt s g (a + n) = startAt s g a
  | 0, _ => ⟨rfl, rfl⟩
  | n + 1, h => by
    obtain ⟨h1, h2⟩ := parts_miss s g (a + n) (h (a + n) (by omega) (by omega))
    obtain ⟨h3, h4⟩ := parts_run s g a n (fun j h1 h2 => h j h1 (by omega))
    exact ⟨h1.trans h3, h2.trans h4⟩
theorem parts_mono (s : ByteArray) (g : Int) (a : Nat) : ∀ n, (partsTo s g a).length ≤ (partsTo s g (a + n)).length
  | 0 => Nat.le_refl _
  | n + 1 => by
    have ih := parts_mono s g a n
    show _ ≤ (partsTo s g ((a + n) + 1)).length
    rw [partsTo]
    split
    · rw [List.length_append]; omega
    · exact ih
theorem ext_all (s : ByteArray) : s.extract 0 s.size = s := ByteArray.extract_zero_size
theorem bAt_ext (s : ByteArray) (a k : Nat) : bAt (s.extract a s.size) k = bAt s (a + k) := by
  unfold bAt
  have h1 : (s.extract a s.size).data.toList = (s.data.toList.drop a) := by
    rw [Lib.extract_eq]
    show (List.take (s.size - a) (List.drop a s.data.toList)) = _
    rw [List.take_of_length_le (by rw [List.length_drop]; exact Nat.le_refl _)]
  rw [h1, List.getD, List.getD, List.getElem?_drop]
theorem cut_none (s : ByteArray) (g : Int) (h : ∀ j, j < s.size → bAt s j ≠ g) : cut s g = [s] := by
  obtain ⟨h1, h2⟩ := parts_none s g s.size h
  unfold cut
  rw [h1, h2, ext_all]
  rfl
theorem parts_short (s : ByteArray) (g : Int) : ∀ k, ∀ x ∈ partsTo s g k, x.size ≤ s.size
  | 0, x, h => by simp [partsTo] at h
  | k + 1, x, h => by
    rw [partsTo] at h
    split at h
    · rcases List.mem_append.1 h with h | h
      · exact parts_short s g k x h
      · have : x = s.extract (startAt s g k) k := by simpa using h
        rw [this, ByteArray.size_extract]
        omega
    · exact parts_short s g k x h
theorem cut_short (s : ByteArray) (g : Int) (i : Nat) : ((cut s g).getD i ⟨#[]⟩).size ≤ s.size := by
  by_cases hi : i < (cut s g).length
  · have hm : (cut s g).getD i ⟨#[]⟩ ∈ cut s g := by
      rw [List.getD, List.getElem?_eq_getElem hi]
      exact List.getElem_mem _
    unfold cut at hm
    rcases List.mem_append.1 hm with h | h
    · exact parts_short s g _ _ h
    · have : (cut s g).getD i ⟨#[]⟩ = s.extract (startAt s g s.size) s.size := by simpa [cut] using h
      rw [this, ByteArray.size_extract]
      omega
  · rw [List.getD, List.getElem?_eq_none (by omega)]
    exact Nat.zero_le _

theorem cut_long (s : ByteArray) (g : Int) : (cut s g).length ≤ s.size + 1 := by
  have := parts_len s g s.size
  unfold cut
  rw [List.length_append]
  simp
  omega
theorem empty_yes {b : ByteArray} (h : b.size = 0) : b.toList.isEmpty = true := by
  rw [ByteArray.toList_eq]
  simp
  exact Array.eq_empty_of_size_eq_zero h
theorem empty_no {b : ByteArray} (h : b.size ≠ 0) : b.toList.isEmpty = false := by
  rw [ByteArray.toList_eq]
  simp
  intro e
  exact h (by show b.data.size = 0; rw [e]; rfl)
theorem readDec_sign (b : ByteArray) (k : Nat) (h : k < b.size) (hk : bAt b k < 48) : readDec b = -1 := by
  apply read_stop b k h
  have h1 := bAt_eq b k h
  unfold digB
  exact inB_false (.inl (by omega))
/-- The first sign of a kind, or none. -/
theorem cut_first (s : ByteArray) (g : UInt8) : (∃ p : Nat, p < s.size ∧ Lib.indexByte s.data.toList g = p ∧ bAt s p = (g.toNat : Int) ∧ ∀ j, j < p → bAt s j ≠ (g.toNat : Int)) ∨ (Lib.indexByte s.data.toList g = -1 ∧ ∀ j, j < s.size → bAt s j ≠ (g.toNat : Int)) := by
  have key : ∀ j, j < s.size → (bAt s j = (g.toNat : Int) ↔ s.data.toList[j]? = some g) := fun j hj => by
    have hl : j < s.data.toList.length := hj
    unfold bAt
    rw [List.getD, List.getElem?_eq_getElem hl]
    constructor
    · intro h
      simp only [Option.getD_some] at h
      have : (s.data.toList[j]).toNat = g.toNat := by omega
      rw [show s.data.toList[j] = g from UInt8.toNat_inj.1 this]
    · intro h
      rw [Option.some.inj h]
      rfl
  by_cases h : Lib.indexByte s.data.toList g = -1
  · exact .inr ⟨h, fun j hj e => Lib.indexByte_none h j ((key j hj).1 e)⟩
  · have hge := Lib.indexByte_ge s.data.toList g
    obtain ⟨p, hp⟩ := Int.eq_ofNat_of_zero_le (show 0 ≤ Lib.indexByte s.data.toList g by omega)
    obtain ⟨f1, f2⟩ := Lib.indexByte_some hp
    have hps : p < s.size := by
      have : p < s.data.toList.length := (List.getElem?_eq_some_iff.1 f1).1
      exact this
    exact .inl ⟨p, hps, hp, (key p hps).2 f1, fun j hj e => f2 j hj ((key j (by omega)).1 e)⟩
/-- A text with one sign of a kind is cut into two. -/
theorem cut_two (s : ByteArray) (g : Int) (p : Nat) (hp : p < s.size) (hat : bAt s p = g) (hno : ∀ j, j < p → bAt s j ≠ g) (hr : ∀ j, p < j → j < s.size → bAt s j ≠ g) : cut s g = [s.extract 0 p, s.extract (p + 1) s.size] := by
  obtain ⟨a1, a2⟩ := parts_none s g p hno
  obtain ⟨b1, b2⟩ := parts_hit s g p hat
  rw [a1, a2] at b1
  have hrun := parts_run s g (p + 1) (s.size - (p + 1)) (fun j h1 h2 h3 => hr j (by omega) (by omega) h3)
  rw [show p + 1 + (s.size - (p + 1)) = s.size from by omega, b1, b2] at hrun
  unfold cut
  rw [hrun.1, hrun.2]
  rfl
/-- A text with two signs of a kind is cut into more than two. -/
theorem cut_more (s : ByteArray) (g : Int) (p q : Nat) (hpq : p < q) (hq : q < s.size) (hat : bAt s p = g) (h3 : bAt s q = g) : 2 < (cut s g).length := by
  have c0 := (parts_hit s g p hat).1
  have c1 := parts_mono s g (p + 1) (q - (p + 1))
  have c2 := (parts_hit s g q h3).1
  have c3 := parts_mono s g (q + 1) (s.size - (q + 1))
  rw [show p + 1 + (q - (p + 1)) = q from by omega] at c1
  rw [show q + 1 + (s.size - (q + 1)) = s.size from by omega] at c3
  have c4 : (partsTo s g (q + 1)).length = (partsTo s g q).length + 1 := by rw [c2, List.length_append]; rfl
  have c5 : (partsTo s g (p + 1)).length = (partsTo s g p).length + 1 := by rw [c0, List.length_append]; rfl
  unfold cut
  rw [List.length_append]
  simp
  omega
theorem dec_size {e : Int} (h0 : 0 ≤ e) (h1 : e ≤ 9999) : (itoaB e).size ≤ 4 := by
  have hi : Lib.itoa e = Lib.decDigits e.toNat := by unfold Lib.itoa; rw [if_neg (by omega)]
  have hs : (itoaB e).size = (Lib.decDigits e.toNat).length := by show (Lib.itoa e).length = _; rw [hi]
  have hp : (10 : Nat) ^ (3 + 1) = 10000 := by decide
  rw [hs]
  exact dec_len 3 e.toNat (by rw [hp]; omega)
end Go.Proofs.YtoofnjccpoeomaaGreatDoor.ctr

namespace Go.Proofs.YtoofnjccpoeomaaGreatDoor.ctr
open Go.RowKit

def plusB : ByteArray := ⟨#[43]⟩
/-- What a cut text tells. -/
def readParts (w : List ByteArray) : Int × Int :=
  if w.length = 1 then (findFeast (w.getD 0 ⟨#[]⟩), 0)
  else if findFeast (w.getD 0 ⟨#[]⟩) < 0 ∨ 2 < w.length ∨ readDec (w.getD 1 ⟨#[]⟩) < 1 ∨ 99 < readDec (w.getD 1 ⟨#[]⟩) then (-1, 0)
  else (findFeast (w.getD 0 ⟨#[]⟩), readDec (w.getD 1 ⟨#[]⟩))
def readFeast (s : ByteArray) : Int × Int := readParts (cut s 43)
/-- What a name, and the digits behind a plus, tell. -/
def readTwo (a b : ByteArray) : Int × Int :=
  if findFeast a < 0 ∨ readDec b < 1 ∨ 99 < readDec b then (-1, 0) else (findFeast a, readDec b)
def feastPlus (c y : Int) (s : ByteArray) : Int := if (readFeast s).1 < 0 ∨ ¬ yearP c y then 0 else (feaAt (readFeast s).1.toNat).day c y + (readFeast s).2
theorem readParts_b (w : List ByteArray) : -1 ≤ (readParts w).1 ∧ (readParts w).1 < 20 ∧ 0 ≤ (readParts w).2 ∧ (readParts w).2 ≤ 99 := by
  have h := find_b (w.getD 0 ⟨#[]⟩)
  unfold readParts
  split
  · exact ⟨h.1, h.2, by simp, by simp⟩
  · split
    · simp
    · rename_i h2
      refine ⟨h.1, h.2, ?_, ?_⟩ <;> simp only <;> omega
theorem readFeast_b (s : ByteArray) : -1 ≤ (readFeast s).1 ∧ (readFeast s).1 < 20 ∧ 0 ≤ (readFeast s).2 ∧ (readFeast s).2 ≤ 99 := readParts_b _

theorem readDec_bad (b : ByteArray) (k : Nat) (h : k < b.size) (hk : bAt b k = 43) : readDec b = -1 := by
  apply read_stop b k h
  have h1 := bAt_eq b k h
  rw [hk] at h1
  unfold digB
  exact inB_false (.inl (by omega))
/-- A text with a plus at p, and none ahead of it, is read as its two sides. -/
theorem read_split (s : ByteArray) (p : Nat) (hp : p < s.size) (hat : bAt s p = 43) (hno : ∀ j, j < p → bAt s j ≠ 43) : readFeast s = readTwo (s.extract 0 p) (s.extract (p + 1) s.size) := by
  obtain ⟨a1, a2⟩ := parts_none s 43 p hno
  obtain ⟨b1, b2⟩ := parts_hit s 43 p hat
  rw [a1, a2] at b1
  by_cases h : ∃ q, p < q ∧ q < s.size ∧ bAt s q = 43
  · obtain ⟨q, h1, h2, h3⟩ := h
    have hd : readDec (s.extract (p + 1) s.size) = -1 := by
      apply readDec_bad _ (q - (p + 1)) (by rw [ByteArray.size_extract]; omega)
      rw [bAt_ext s (p + 1) (q - (p + 1)), show p + 1 + (q - (p + 1)) = q from by omega]
      exact h3
    have hl : 2 < (cut s 43).length := by
      have c1 := parts_mono s 43 (p + 1) (q - (p + 1))
      have c2 := (parts_hit s 43 q h3).1
      have c3 := parts_mono s 43 (q + 1) (s.size - (q + 1))
      rw [show p + 1 + (q - (p + 1)) = q from by omega] at c1
      rw [show q + 1 + (s.size - (q + 1)) = s.size from by omega] at c3
      rw [b1] at c1
      have c4 : (partsTo s 43 (q + 1)).length = (partsTo s 43 q).length + 1 := by rw [c2, List.length_append]; rfl
      unfold cut
      rw [List.length_append]
      simp at c1 ⊢
      omega
    unfold readFeast readParts readTwo
    rw [if_neg (by omega), if_pos (.inr (.inl hl)), if_pos (.inr (.inl (by omega)))]
  · have hrun := parts_run s 43 (p + 1) (s.size - (p + 1)) (fun j h1 h2 h3 => h ⟨j, by omega, by omega, h3⟩)
    rw [show p + 1 + (s.size - (p + 1)) = s.size from by omega, b1, b2] at hrun
    have hc : cut s 43 = [s.extract 0 p, s.extract (p + 1) s.size] := by
      unfold cut
      rw [hrun.1, hrun.2]
      rfl
    unfold readFeast readParts readTwo
    rw [hc]
    simp
theorem read_plain (s : ByteArray) (h : ∀ j, j < s.size → bAt s j ≠ 43) : readFeast s = (findFeast s, 0) := by
  unfold readFeast readParts
  rw [cut_none s 43 h]
  simp
/-- strings.Cut at a plus, and the plain reading. -/
theorem cut_plus (s : ByteArray) : (∃ p, p < s.size ∧ bAt s p = 43 ∧ (∀ j, j < p → bAt s j ≠ 43) ∧ (⟨(Lib.cut s.data.toList plusB.data.toList).1.toArray⟩ : ByteArray) = s.extract 0 p ∧ (⟨(Lib.cut s.data.toList plusB.data.toList).2.1.toArray⟩ : ByteArray) = s.extract (p + 1) s.size ∧ (Lib.cut s.data.toList plusB.data.toList).2.2 = true) ∨
    ((∀ j, j < s.size → bAt s j ≠ 43) ∧ (⟨(Lib.cut s.data.toList plusB.data.toList).1.toArray⟩ : ByteArray) = s ∧ (⟨(Lib.cut s.data.toList plusB.data.toList).2.1.toArray⟩ : ByteArray) = ⟨#[]⟩ ∧ (Lib.cut s.data.toList plusB.data.toList).2.2 = false) := by
  have key : ∀ j, j < s.size → (bAt s j = 43 ↔ s.data.toList[j]? = some 43) := fun j hj => by
    have hl : j < s.data.toList.length := hj
    unfold bAt
    rw [List.getD, List.getElem?_eq_getElem hl]
    constructor
    · intro h
      simp only [Option.getD_some] at h
      have : (s.data.toList[j]).toNat = 43 := by omega
      rw [show s.data.toList[j] = 43 from UInt8.toNat_inj.1 this]
    · intro h
      rw [Option.some.inj h]
      rfl
  have hone : Lib.index s.data.toList plusB.data.toList = Lib.indexByte s.data.toList 43 := Lib.index_one s.data.toList 43
  rcases Lib.indexB_cases s plusB with h | ⟨p, h, hroom⟩
  · right
    have h' : Lib.indexByte s.data.toList 43 = -1 := hone.symm.trans h
    obtain ⟨e1, e2, e3⟩ := Lib.cutB_miss s plusB h
    exact ⟨fun j hj e => Lib.indexByte_none h' j ((key j hj).1 e), e1, e2, e3⟩
  · left
    have h' : Lib.indexByte s.data.toList 43 = p := hone.symm.trans h
    obtain ⟨e1, e2, e3⟩ := Lib.cutB_hit s plusB p h
    obtain ⟨f1, f2⟩ := Lib.indexByte_some h'
    have hp : p < s.size := by
      have : plusB.size = 1 := rfl
      omega
    exact ⟨p, hp, (key p hp).2 f1, fun j hj e => f2 j hj ((key j (by omega)).1 e), e1, e2, e3⟩
end Go.Proofs.YtoofnjccpoeomaaGreatDoor.ctr

namespace Go.Proofs.YtoofnjccpoeomaaGreatDoor.ctr
open Go.RowKit

theorem specYearOk (c y : Int) (w : World) : Calls Tryz.prog 88 #[.int .i64 c, .int .i64 y] w fun e w' => e = .returned (.bool (yearB c y)) ∧ w' = w := by
  by_cases hc : c = 0 ∨ c = 1
  · have hC : calB c = true := calB_iff.2 hc
    rw [yearB_cal hc]
    clear hc
    cases hI : inB y 1 3000
    all_goals
      go_enter Tryz.func88, Tryz.ntmps88
      go_wp2_with fail
      refine (specCal _ _).mono ?_
      rintro e w1 ⟨rfl, rfl⟩
      rw [hC]
      go_wp2_with fail
      refine (l01In _ _ _ _).mono ?_
      rintro e w1 ⟨rfl, rfl⟩
      rw [hI]
      go_wp2
      go_ret
      exact ⟨rfl, rfl⟩
  · have hC : calB c = false := calB_no hc
    rw [yearB_no hc]
    clear hc
    go_enter Tryz.func88, Tryz.ntmps88
    go_wp2_with fail
    refine (specCal _ _).mono ?_
    rintro e w1 ⟨rfl, rfl⟩
    rw [hC]
    go_wp2
    go_ret
    exact ⟨rfl, rfl⟩

theorem golden_year {c y : Int} (h : yearP c y) : golden y = y % 19 + 1 := by unfold golden; rw [if_pos h.2]

theorem fullMoon_b {c y : Int} (h : yearP c y) : 0 < fullMoon c y ∧ fullMoon c y ≤ 3000000 := by
  have h1 := march_b h
  have h2 := moonOff_b h
  unfold fullMoon
  rw [if_pos h]
  omega
theorem easter_day {c y : Int} (h : yearP c y) : easter c y = first c y + before c y (sumE c y / 31 - 1).toNat + (sumE c y % 31 + 1) - 1 := by
  unfold easter dayOf
  rw [if_pos h, if_pos (sum_month h)]
theorem easter_b {c y : Int} (h : yearP c y) : 0 < easter c y ∧ easter c y ≤ 3000000 := by
  have h1 := march_b h
  have h2 := easter_fact h
  rw [easter_eq h]
  omega
end Go.Proofs.YtoofnjccpoeomaaGreatDoor.ctr

namespace Go.Proofs.YtoofnjccpoeomaaGreatDoor.ctr
open Go.RowKit

theorem adj_b {E g : Int} (h : 0 ≤ E ∧ E ≤ 29) : 0 ≤ adjG E g ∧ adjG E g ≤ 30 := by
  unfold adjG
  split <;> omega
theorem ep_b (c g y : Int) : 0 ≤ ep c g y ∧ ep c g y ≤ 30 := by
  unfold ep
  split
  · omega
  · exact adj_b (by unfold e0G; omega)

end Go.Proofs.YtoofnjccpoeomaaGreatDoor.ctr

namespace Go.Proofs.YtoofnjccpoeomaaGreatDoor.ctr
open Go.RowKit

theorem dayOf_march {c y d : Int} (h : yearP c y) (h1 : 1 ≤ d) (h2 : d ≤ 31) : dayOf c y 3 d = march c y + d - 1 := by
  have h3 := monthDays_plain (y := y) h.1 (m := 3) (by omega) (by omega) (by omega)
  have h3' : monthDays c y 3 = 31 := h3
  unfold dayOf march
  rw [if_pos ⟨h.1, h.2.1, h.2.2, h1, by omega⟩, show ((3 : Int) - 1).toNat = 2 from rfl]
end Go.Proofs.YtoofnjccpoeomaaGreatDoor.ctr

namespace Go.Proofs.YtoofnjccpoeomaaGreatDoor.ctr
open Go.RowKit

end Go.Proofs.YtoofnjccpoeomaaGreatDoor.ctr

namespace Go.Proofs.YtoofnjccpoeomaaGreatDoor.ctr
open Go.RowKit

set_option maxRecDepth 100000 in
set_option maxHeartbeats 2000000 in
theorem specRead (s : ByteArray) (w : World) (hs : s.size ≤ 1048576) : Calls Tryz.prog 54 #[.string s] w fun e w' => e = .returned (.tuple #[.int .i64 (readFeast s).1, .int .i64 (readFeast s).2]) ∧ Below w.heap.size w w' := by
  have hne := cut_ne s 43
  have hz0 := cut_short s 43 0
  have hz1 := cut_short s 43 1
  have hcl := cut_long s 43
  have KC := l01Cut s 43 w hs
  have HV : Hid (readFeast s = readParts (cut s 43)) := rfl
  rw [HV.out]
  clear HV
  generalize cut s 43 = xs at *
  have hl0 : 0 < xs.length := by
    rcases xs with _ | _
    · exact absurd rfl hne
    · simp
  have HV : Hid (readParts xs = if xs.length = 1 then (findFeast (xs.getD 0 ⟨#[]⟩), 0) else if findFeast (xs.getD 0 ⟨#[]⟩) < 0 ∨ 2 < xs.length ∨ readDec (xs.getD 1 ⟨#[]⟩) < 1 ∨ 99 < readDec (xs.getD 1 ⟨#[]⟩) then (-1, 0) else (findFeast (xs.getD 0 ⟨#[]⟩), readDec (xs.getD 1 ⟨#[]⟩))) := rfl
  obtain ⟨R, hR⟩ : ∃ R, R = readParts xs := ⟨_, rfl⟩
  rw [← hR]
  have HR := hideP (hR.trans HV.out)
  clear hR HV
  obtain ⟨n0, hn0⟩ : ∃ n0, n0 = xs.getD 0 ⟨#[]⟩ := ⟨_, rfl⟩
  obtain ⟨n1, hn1⟩ : ∃ n1, n1 = xs.getD 1 ⟨#[]⟩ := ⟨_, rfl⟩
  rw [← hn0, ← hn1] at HR
  rw [← hn0] at hz0
  rw [← hn1] at hz1
  have HN0 := hideP hn0
  have HN1 := hideP hn1
  clear hn0 hn1
  have KF : ∀ W, Calls Tryz.prog 42 #[.string n0] W fun e w' => e = .returned (.int .i64 (findFeast n0)) ∧ Below W.heap.size W w' := fun W => specFind _ W
  have KR : ∀ W, Calls Tryz.prog 33 #[.string n1] W fun e w' => e = .returned (.int .i64 (readDec n1)) ∧ w' = W := fun W => specReadDec _ W (by unfold maxLen; omega)
  have hfb := find_b n0
  generalize findFeast n0 = at0 at *
  generalize readDec n1 = kk at *
  go_enter Tryz.func54, Tryz.ntmps54
  go_wp2_with fail
  refine KC.mono ?_
  rintro e W1 ⟨v, rfl, hr, hb1⟩
  obtain ⟨g, cap, rfl, hg, hgl, hst, _⟩ := own_row hr hne
  have B1 := hideP hb1
  have e0 : W1.cell? ⟨g, 0, none⟩ = some (.string n0) := by rw [HN0.out]; exact hst 0 hl0
  have HST := hideP hst
  clear hr hb1 hst KC
  go_wp2_with fail
  refine (KF _).mono ?_
  rintro e W2 ⟨rfl, hb2⟩
  have B2 : Hid (Below w.heap.size w W2) := B1.out.trans (hb2.mono B1.out.size)
  have HST2 := hideP (HST.out.below hb2 hgl)
  clear hb2 e0
  by_cases h1 : xs.length = 1
  · have HE := hideP (HR.out.trans (if_pos h1))
    clear HR
    have h1' : ((xs.length : Int) == 1) = true := by simp [h1]
    go_wp2
    go_ret2
    rw [HE.out]
    exact ⟨rfl, B2.out⟩
  have h1' : ((xs.length : Int) == 1) = false := by simp; omega
  have HE := hideP (HR.out.trans (if_neg h1))
  have hl1 : 1 < xs.length := by omega
  have e1 : W2.cell? ⟨g, 1, none⟩ = some (.string n1) := by rw [HN1.out]; exact HST2.out 1 hl1
  have hi1 : (1 : Int) < (xs.length : Int) := by omega
  clear HR
  go_wp2_with fail
  refine (KR _).mono ?_
  rintro e w3 ⟨rfl, rfl⟩
  clear e1
  by_cases q1 : at0 < 0
  · have HE2 := hideP (HE.out.trans (if_pos (.inl q1)))
    clear HE
    go_wp2
    go_ret2
    rw [HE2.out]
    exact ⟨rfl, B2.out⟩
  by_cases q2 : 2 < xs.length
  · have HE2 := hideP (HE.out.trans (if_pos (.inr (.inl q2))))
    have q2' : (2 : Int) < (xs.length : Int) := by omega
    clear HE
    go_wp2
    go_ret2
    rw [HE2.out]
    exact ⟨rfl, B2.out⟩
  have q2' : ¬ (2 : Int) < (xs.length : Int) := by omega
  have KI : ∀ W, Calls Tryz.prog 40 #[.int .i64 kk, .int .i64 1, .int .i64 99] W fun e w' => e = .returned (.bool (inB kk 1 99)) ∧ w' = W := l01In kk 1 99
  by_cases q3 : kk < 1 ∨ 99 < kk
  · have HE2 := hideP (HE.out.trans (if_pos (.inr (.inr q3))))
    rw [inB_false q3] at KI
    clear HE q3
    go_wp2_with fail
    refine (KI _).mono ?_
    rintro e w3 ⟨rfl, rfl⟩
    go_wp2
    go_ret2
    rw [HE2.out]
    exact ⟨rfl, B2.out⟩
  · have HE2 := hideP (HE.out.trans (if_neg (fun h => by omega)))
    rw [inB_true (by omega) (by omega)] at KI
    clear HE q3
    go_wp2_with fail
    refine (KI _).mono ?_
    rintro e w3 ⟨rfl, rfl⟩
    go_wp2
    go_ret2
    rw [HE2.out]
    exact ⟨rfl, B2.out⟩

end Go.Proofs.YtoofnjccpoeomaaGreatDoor.ctr

namespace Go.Proofs.YtoofnjccpoeomaaGreatDoor.ctr
open Go.RowKit

set_option maxHeartbeats 400000 in
theorem implReadDec (s : ByteArray) (w : World) (hs : s.size ≤ maxLen) (hT : Lib.TabIs Tryz.prog w "internal/strconv.uint64pow10" .u64 Lib.pow10Tab) :
    Calls Tryz.prog 60 #[.string s] w fun e w' => e = .returned (.int .i64 (readDec s)) ∧ Below w.heap.size w w' := by
  unfold maxLen at hs
  have HT : Hid (Lib.TabIs Tryz.prog w "internal/strconv.uint64pow10" .u64 Lib.pow10Tab) := hT
  clear hT
  by_cases h9 : 9 < s.size
  · have HB : Hid (readDec s = -1) := read_long s h9
    go_enter Tryz.func60, Tryz.ntmps60
    go_wp2
    go_ret
    exact ⟨ret_int HB.out.symm, Below.refl _ _⟩
  go_enter Tryz.func60, Tryz.ntmps60
  go_wp2
  go_loop [3, 10] (fun n i => ∃ (k : Nat) (v : Int), k ≤ s.size ∧ k ≤ 9 ∧ i = .int .i64 k ∧ n = .int .i64 v ∧ 0 ≤ v ∧ v ≤ 999999999 ∧ digs s k = true ∧ v = val s k) (fun _ i => s.size - (intOf i).toNat)
  case atStart => exact ⟨0, 0, Nat.zero_le _, Nat.zero_le _, rfl, rfl, by omega, by omega, by simp [digs], by simp [val, valL]⟩
  case round =>
    obtain ⟨k, v, hk, hk9, rfl, rfl, v0, v1, hd, hv⟩ := hrel
    have HD : Hid (digs s k = true) := hd
    have HV : Hid (v = val s k) := hv
    clear hd hv
    by_cases hlt : k < s.size
    · by_cases c1 : (s[k].toNat : Int) < 48
      · have HB : Hid (readDec s = -1) := read_stop s k hlt (inB_false (.inl c1))
        go_wp2
        go_ret
        exact ⟨ret_int HB.out.symm, Below.refl _ _⟩
      · by_cases c2 : 57 < (s[k].toNat : Int)
        · have HB : Hid (readDec s = -1) := read_stop s k hlt (inB_false (.inr c2))
          go_wp2
          go_ret
          exact ⟨ret_int HB.out.symm, Below.refl _ _⟩
        · have hb : digB s[k] = true := inB_true (by omega) (by omega)
          have HN : Hid (digs s (k + 1) = true) := by unfold Hid; rw [digs_succ s k hlt, HD.out, hb]; rfl
          have HS : Hid (val s (k + 1) = 10 * v + (s[k].toNat : Int) - 48) := by unfold Hid; rw [val_succ s k hlt, HV.out]
          clear hb
          go_wp2
          have hB := val_bd9 s (k + 1) (by omega) (by omega) HN.out
          rw [HS.out] at hB
          exact ⟨⟨k + 1, 10 * v + (s[k].toNat : Int) - 48, by omega, by omega, by go_num, by rw [show v * 10 + ((s[k].toNat : Int) - 48) = 10 * v + (s[k].toNat : Int) - 48 from by omega], by omega, by omega, HN.out, HS.out.symm⟩, by simp [intOf]; omega⟩
    · have hks : k = s.size := by omega
      cases hq : (Lib.itoa v == s.toList)
      · have HB : Hid (readDec s = -1) := read_bad s (by rw [← hks, ← HV.out]; exact itoa_ne hq)
        clear hks
        go_wp2_with (go_at_call 28; refine (implDecText _ _ (by omega) (by omega) HT.out).mono ?_; rintro e w' ⟨rfl, hb⟩)
        go_ret
        exact ⟨ret_int HB.out.symm, hb⟩
      · have HB : Hid (readDec s = v) := by unfold Hid; rw [HV.out, hks]; exact read_good s (by omega) (by rw [← hks]; exact HD.out) (by rw [← hks, ← HV.out]; exact itoa_eq hq)
        clear hks
        go_wp2_with (go_at_call 28; refine (implDecText _ _ (by omega) (by omega) HT.out).mono ?_; rintro e w' ⟨rfl, hb⟩)
        go_ret
        exact ⟨ret_int HB.out.symm, hb⟩
end Go.Proofs.YtoofnjccpoeomaaGreatDoor.ctr

namespace Go.Proofs.YtoofnjccpoeomaaGreatDoor.ctr
open Go.RowKit

theorem run_ahead (s : ByteArray) (p : Nat) (hp : p < s.size) (w : World) : (Instr.slice 9 (.string s) none (some (.int .i64 (p : Int))) none).run Tryz.prog w = .ok (.string (s.extract 0 p)) w :=
  (run_slice_string_h (P := Tryz.prog) (w := w) (t := 9) (s := s) (ht := Tryz.underlying9) .i64 (p : Int) (by omega) (by omega)).trans (by rw [show ((p : Int)).toNat = p from by omega])
theorem run_behind (s : ByteArray) (p : Nat) (hp : p < s.size) (w : World) : (Instr.slice 9 (.string s) (some (.int .i64 ((p : Int) + 1))) none none).run Tryz.prog w = .ok (.string (s.extract (p + 1) s.size)) w :=
  (run_slice_string_l (P := Tryz.prog) (w := w) (t := 9) (s := s) (ht := Tryz.underlying9) .i64 ((p : Int) + 1) (by omega) (by omega)).trans (by rw [show ((p : Int) + 1).toNat = p + 1 from by omega])
set_option maxHeartbeats 1000000 in
theorem cutHit (s : ByteArray) (g : UInt8) (p : Nat) (w : World) (hs : s.size ≤ 1048576) (hp : p < s.size) (hix : Lib.indexByte s.data.toList g = p) : Calls Tryz.prog 78 #[.string s, .string ⟨#[g]⟩] w fun e w' => e = .returned (.tuple #[.string (s.extract 0 p), .string (s.extract (p + 1) s.size), .bool true]) ∧ Below w.heap.size w w' := by
  have KI : ∀ W, Calls Tryz.prog 95 #[.string s, .string ⟨#[g]⟩] W fun e w' => e = .returned (.int .i64 (p : Int)) ∧ w' = W := fun W => by rw [← hix]; exact Tryz.stringslite_Index_one s g W
  have h1 := run_ahead s p hp
  have h2 := run_behind s p hp
  have hwr : IntKind.i64.wrap ((p : Int) + 1) = (p : Int) + 1 := by rw [PlainAid.i64_is]; unfold wrap64; omega
  have hle : (p : Int) < (s.size : Int) := by omega
  have hle2 : (s.size : Int) ≤ 1048576 := by omega
  clear hix
  go_enter Tryz.func78, Tryz.ntmps78
  go_wp2_with fail
  refine (KI _).mono ?_
  rintro e w1 ⟨rfl, rfl⟩
  go_wp2
  go_region
  all_goals go_wp2
  all_goals go_ret3
  all_goals exact ⟨rfl, (Below.refl _ _).drew⟩
set_option maxHeartbeats 1000000 in
theorem cutMiss (s : ByteArray) (g : UInt8) (w : World) (hix : Lib.indexByte s.data.toList g = -1) : Calls Tryz.prog 78 #[.string s, .string ⟨#[g]⟩] w fun e w' => e = .returned (.tuple #[.string s, .string ⟨#[]⟩, .bool false]) ∧ Below w.heap.size w w' := by
  have KI : ∀ W, Calls Tryz.prog 95 #[.string s, .string ⟨#[g]⟩] W fun e w' => e = .returned (.int .i64 (-1)) ∧ w' = W := fun W => by rw [← hix]; exact Tryz.stringslite_Index_one s g W
  clear hix
  go_enter Tryz.func78, Tryz.ntmps78
  go_wp2_with fail
  refine (KI _).mono ?_
  rintro e w1 ⟨rfl, rfl⟩
  go_wp2
  go_ret3
  exact ⟨rfl, Below.refl _ _⟩
set_option maxHeartbeats 1000000 in
theorem cutFace (s a b : ByteArray) (g : UInt8) (f : Bool) (w : World) (h : Calls Tryz.prog 78 #[.string s, .string ⟨#[g]⟩] w fun e w' => e = .returned (.tuple #[.string a, .string b, .bool f]) ∧ Below w.heap.size w w') : Calls Tryz.prog 59 #[.string s, .string ⟨#[g]⟩] w fun e w' => e = .returned (.tuple #[.string a, .string b, .bool f]) ∧ Below w.heap.size w w' := by
  go_enter Tryz.func59, Tryz.ntmps59
  go_wp2_with fail
  refine h.mono ?_
  rintro e w1 ⟨rfl, hb⟩
  go_wp2
  go_ret3
  exact ⟨rfl, hb⟩
end Go.Proofs.YtoofnjccpoeomaaGreatDoor.ctr

namespace Go.Proofs.YtoofnjccpoeomaaGreatDoor.ctr
open Go.RowKit

theorem year_low {c n : Int} (hc : c = 0 ∨ c = 1) (h1 : -1000 ≤ n) (h2 : n ≤ 1200000) : first c (n / 366) ≤ n ∧ -5 ≤ n / 366 ∧ n / 366 ≤ 3300 := by
  rcases hc with rfl | rfl
  · rw [first_jul]; omega
  · rw [first_gre]; omega
theorem year_top {c y n : Int} (hc : c = 0 ∨ c = 1) (h1 : first c y ≤ n) (h2 : n ≤ 1200000) : y ≤ 3300 := by
  rcases hc with rfl | rfl
  · rw [first_jul] at h1; omega
  · rw [first_gre] at h1; omega
theorem year_mean {c n q : Int} (hc : c = 0 ∨ c = 1) (h2 : n ≤ 1200000) (hq : q = (n * 400).tdiv 146097) (h1 : 1 ≤ q) : first c q ≤ n := by
  have hn : 0 ≤ n := by
    by_cases hn : 0 ≤ n
    · exact hn
    · have e := Int.neg_tdiv (n * 400) 146097
      have e2 : (-(n * 400)).tdiv 146097 = -(n * 400) / 146097 := Int.tdiv_eq_ediv_of_nonneg (by omega)
      omega
  have e : (n * 400).tdiv 146097 = n * 400 / 146097 := Int.tdiv_eq_ediv_of_nonneg (by omega)
  rw [e] at hq
  rcases hc with rfl | rfl
  · rw [first_jul]; omega
  · rw [first_gre]; omega

end Go.Proofs.YtoofnjccpoeomaaGreatDoor.ctr

namespace Go.Proofs.YtoofnjccpoeomaaGreatDoor.ctr
open Go.RowKit

abbrev z4 : Array Value := #[.int .i64 0, .int .i64 0, .int .i64 0, .int .i64 0]
theorem dateOf_no {c n : Int} (h : ¬ ((c = 0 ∨ c = 1) ∧ 1 ≤ yearOf c n ∧ yearOf c n ≤ 3000 ∧ -1000 ≤ n ∧ n ≤ 1200000)) : dateOf c n = (0, 0, 0, 0, false) := by unfold dateOf; rw [if_neg h]
theorem dateOf_yes {c n y : Int} {k : Nat} (hc : c = 0 ∨ c = 1) (h1 : -1000 ≤ n) (h2 : n ≤ 1200000) (hy : yearOf c n = y) (hk : monthOf c y (n - first c y) = k) (y1 : 1 ≤ y) (y2 : y ≤ 3000) : dateOf c n = (c, y, (k : Int) + 1, n - first c y - before c y k + 1, true) := by
  unfold dateOf
  rw [hy, hk, if_pos ⟨hc, y1, y2, h1, h2⟩]
/-- What DateOf answers, as a value. -/
noncomputable def dateR (c n : Int) : Value := .tuple #[.agg #[.int .i64 (dateOf c n).1, .int .i64 (dateOf c n).2.1, .int .i64 (dateOf c n).2.2.1, .int .i64 (dateOf c n).2.2.2.1], .bool (dateOf c n).2.2.2.2]
theorem dateR_no {c n : Int} (h : dateOf c n = (0, 0, 0, 0, false)) : dateR c n = .tuple #[.agg z4, .bool false] := by unfold dateR; rw [h]
theorem dateR_yes {c n y m d : Int} (h : dateOf c n = (c, y, m, d, true)) : dateR c n = .tuple #[.agg #[.int .i64 c, .int .i64 y, .int .i64 m, .int .i64 d], .bool true] := by unfold dateR; rw [h]

end Go.Proofs.YtoofnjccpoeomaaGreatDoor.ctr

namespace Go.Proofs.YtoofnjccpoeomaaGreatDoor.ctr
open Go.RowKit

theorem year_ex {c n : Int} (hc : c = 0 ∨ c = 1) (h1 : -1000 ≤ n) (h2 : n ≤ 1200000) : first c (yearOf c n) ≤ n ∧ n < first c (yearOf c n + 1) := by
  have step : ∀ (j : Nat) (y : Int), first c y ≤ n → 3301 - y ≤ j → ∃ z, first c z ≤ n ∧ n < first c (z + 1) := by
    intro j
    induction j with
    | zero =>
      intro y hy hj
      have := year_top hc hy h2
      omega
    | succ j ih =>
      intro y hy hj
      by_cases h : first c (y + 1) ≤ n
      · exact ih (y + 1) h (by omega)
      · exact ⟨y, hy, by omega⟩
  obtain ⟨z, hz1, hz2⟩ := step (3301 - n / 366).toNat _ (year_low hc h1 h2).1 (by omega)
  rw [yearOf_eq hc hz1 hz2]
  exact ⟨hz1, hz2⟩
theorem first_le {c y z : Int} (hc : c = 0 ∨ c = 1) (h : y ≤ z) : first c y ≤ first c z := by
  by_cases e : y = z
  · subst e; exact Int.le_refl _
  · exact Int.le_of_lt (first_lt hc (by omega))
theorem date_early {c n : Int} (hc : c = 0 ∨ c = 1) (h : n < first c 1) : dateOf c n = (0, 0, 0, 0, false) := by
  apply dateOf_no
  rintro ⟨_, y1, _, n1, n2⟩
  have := year_ex hc n1 n2
  have := first_le hc y1
  omega
theorem date_late {c n : Int} (hc : c = 0 ∨ c = 1) (h : first c 3001 ≤ n) : dateOf c n = (0, 0, 0, 0, false) := by
  apply dateOf_no
  rintro ⟨_, _, y2, n1, n2⟩
  have := year_ex hc n1 n2
  have := first_le hc (show yearOf c n + 1 ≤ 3001 by omega)
  omega
theorem year_in {c n : Int} (hc : c = 0 ∨ c = 1) (h1 : first c 1 ≤ n) (h2 : n < first c 3001) : -1000 ≤ n ∧ n ≤ 1200000 ∧ 1 ≤ yearOf c n ∧ yearOf c n ≤ 3000 := by
  have a1 : -1000 ≤ n ∧ n ≤ 1200000 := by
    rcases hc with rfl | rfl
    · rw [first_jul] at h1 h2; omega
    · rw [first_gre] at h1 h2; omega
  have e := year_ex hc a1.1 a1.2
  refine ⟨a1.1, a1.2, ?_, ?_⟩
  · by_cases h : 1 ≤ yearOf c n
    · exact h
    · have := first_le hc (show yearOf c n + 1 ≤ 1 by omega); omega
  · by_cases h : yearOf c n ≤ 3000
    · exact h
    · have := first_le hc (show 3001 ≤ yearOf c n by omega); omega
theorem wrapEq (x : Int) (h : -9223372036854775808 ≤ x ∧ x ≤ 9223372036854775807) : IntKind.i64.wrap x = x := by
  rw [IntKind.wrap_i64]
  omega
def Later.drewL {W : World} (x : Later W) : Later W := ⟨x.w.drew, x.below.drew⟩
def dayAt (b : Nat) (w : World) : Nat := (intOf ((w.cell? ⟨b, 3, none⟩).getD undef)).toNat
theorem dayAt_of {w : World} {b : Nat} {d : Int} (h : w.cell? ⟨b, 3, none⟩ = some (.int .i64 d)) : dayAt b w = d.toNat := by unfold dayAt; rw [h]; rfl

end Go.Proofs.YtoofnjccpoeomaaGreatDoor.ctr

namespace Go.Proofs.YtoofnjccpoeomaaGreatDoor.ctr
open Go.RowKit

/-- The row g holds the feasts' cells. -/
def FeaBlk (W : World) (g : Nat) (cur : Array Value) : Prop := Blk W g cur 78 ∧ ∀ k, k < 20 → ∀ j, j < 5 → cur[k * 5 + j]? = (feaAt k).cs[j]?
theorem FeaOwn.blk {w W : World} {v : Value} (h : FeaOwn w W v) : ∃ g cap cur, v = .slice (some ⟨g, 0, none⟩) 20 cap ∧ w.heap.size ≤ g ∧ FeaBlk W g cur := by
  rcases h.2 with ⟨_, h0⟩ | ⟨g, cap, cur, hv, hb, hh, hcap, _, hsz, htake⟩
  · simp at h0
  · refine ⟨g, cap, cur, hv, hb, hh, fun k hk j hj => ?_⟩
    rw [← feaCell hk hj, ← htake, List.getElem?_take, if_pos (by omega)]
    simp
theorem FeaBlk.at {W : World} {g : Nat} {cur : Array Value} (h : FeaBlk W g cur) {k : Nat} (hk : k < 20) : W.cell? ⟨g, k * 5, none⟩ = some (.string (feaAt k).name) ∧ W.cell? ⟨g, k * 5 + 1, none⟩ = some (.bool (feaAt k).mv) ∧ W.cell? ⟨g, k * 5 + 2, none⟩ = some (.int .i64 (feaAt k).off) ∧ W.cell? ⟨g, k * 5 + 3, none⟩ = some (.int .i64 (feaAt k).m) ∧ W.cell? ⟨g, k * 5 + 4, none⟩ = some (.int .i64 (feaAt k).d) := by
  have e := fun j hj => h.2 k hk j hj
  exact ⟨h.1.cell _ (e 0 (by omega)), h.1.cell _ (e 1 (by omega)), h.1.cell _ (e 2 (by omega)), h.1.cell _ (e 3 (by omega)), h.1.cell _ (e 4 (by omega))⟩
theorem FeaBlk.below {W W' : World} {g : Nat} {cur : Array Value} (h : FeaBlk W g cur) (hb : Below W.heap.size W W') : FeaBlk W' g cur := ⟨h.1.below hb h.1.lt, h.2⟩
theorem own_ne {w : World} {base e size : Nat} {v : Value} {n : Nat} {xs : List Value} {b : Nat} {vs : Array Value} {t : TypeId} (h : w.ownsRow base e size v n xs) (hb : Blk w b vs t) (hte : t ≠ e) : some b ≠ v.ownBlock := by
  intro he
  rcases h.2 with ⟨rfl, _⟩ | ⟨g, cap, cur, rfl, _, hh, _⟩
  · cases he
  · have hg : b = g := by simpa [Value.ownBlock] using he
    subst hg
    unfold Blk at hb
    rw [hb] at hh
    simp at hh
    exact hte hh.2
theorem Blk.gr {w w' : World} {b : Nat} {vs : Array Value} {t : TypeId} {row : Option Nat} (h : Blk w b vs t) (g : w.grownBy w' row) (hn : some b ≠ row) : Blk w' b vs t := (g.block b h.lt hn).trans h
theorem own_later {w w' : World} {base e size : Nat} {v : Value} {n : Nat} {xs : List Value} (h : w.ownsRow base e size v n xs) (hb : Below w.heap.size w w') : w'.ownsRow base e size v n xs :=
  h.kept (row := none) ⟨hb.os, hb.tape, hb.output, hb.size, fun k hk _ => hb.block k hk⟩ (Classical.em _)
/-- The state of a loop that goes over the feasts: the names so far lie in a row of their own, the date's block and the feasts' row stand. -/
structure OnSt (w : World) (db g : Nat) (dv cur : Array Value) (o : Value) (xs : List ByteArray) (W : World) : Prop where
  row : W.ownsRow w.heap.size 9 1 o xs.length (xs.map Value.string)
  below : Below w.heap.size w W
  date : Blk W db dv 101
  fea : FeaBlk W g cur
theorem OnSt.later {w : World} {db g : Nat} {dv cur : Array Value} {o : Value} {xs : List ByteArray} {W W' : World} (h : OnSt w db g dv cur o xs W) (hb : Below W.heap.size W W') : OnSt w db g dv cur o xs W' :=
  ⟨own_later h.row hb, h.below.trans (hb.mono h.below.size), h.date.below hb h.date.lt, h.fea.below hb⟩
theorem OnSt.app {w : World} {db g : Nat} {dv cur : Array Value} {o o' : Value} {xs : List ByteArray} {W W' : World} {ob : Obj} (h : OnSt w db g dv cur o xs W) (s : ByteArray) (hr : W'.ownsRow w.heap.size 9 1 o' (xs.length + 1) (xs.map Value.string ++ [.string s])) (hg : (W.alloc ob).grownBy W' o.ownBlock) : OnSt w db g dv cur o' (xs ++ [s]) W' := by
  have hr' : W'.ownsRow w.heap.size 9 1 o' (xs ++ [s]).length ((xs ++ [s]).map Value.string) := by
    rw [List.length_append, List.map_append]
    exact hr
  have hd := h.date.alloc ob
  have hf := h.fea.1.alloc ob
  exact ⟨hr', (h.below.alloc h.below.size ob).grown hg (by have := h.below.size; rw [sz_new]; omega) (own_base5 h.row), hd.gr hg (own_ne h.row h.date (by decide)), hf.gr hg (own_ne h.row h.fea.1 (by decide)), h.fea.2⟩

/-- The names of the feasts that day n is. -/
noncomputable def feastsOn (c n : Int) : List ByteArray := if (dateOf c n).2.2.2.2 = true then onTo c (dateOf c n).2.1 n 20 else []
theorem dateR_parts (c n : Int) : ∃ a y m d ok, dateOf c n = (a, y, m, d, ok) ∧ dateR c n = .tuple #[.agg #[.int .i64 a, .int .i64 y, .int .i64 m, .int .i64 d], .bool ok] := ⟨_, _, _, _, _, rfl, rfl⟩
theorem date_blk (W : World) (a y m d : Int) : Blk (W.alloc (.cells #[.int .i64 a, .int .i64 y, .int .i64 m, .int .i64 d] 101)) W.heap.size #[.int .i64 a, .int .i64 y, .int .i64 m, .int .i64 d] 101 := Blk.new W _ _

end Go.Proofs.YtoofnjccpoeomaaGreatDoor.ctr

namespace Go.Proofs.YtoofnjccpoeomaaGreatDoor.ctr
open Go.RowKit

theorem valL_snoc (l : List UInt8) (c : UInt8) : valL (l ++ [c]) = 10 * valL l + (c.toNat : Int) - 48 := by
  unfold valL
  rw [List.foldl_append]
  rfl
theorem dig_nat (k : Nat) (h : k < 10) : (UInt8.ofNat (48 + k)).toNat = 48 + k := by
  show (48 + k) % 256 = 48 + k
  omega
theorem valL_dec (u : Nat) : valL (Lib.decDigits u) = (u : Int) := by
  induction u using Nat.strongRecOn with
  | ind u ih =>
    rw [Lib.decDigits]
    by_cases h : u < 10
    · rw [dif_pos h]
      have := dig_nat u h
      have e := valL_snoc [] (UInt8.ofNat (48 + u))
      rw [List.nil_append] at e
      rw [e, this]
      simp [valL]
      omega
    · rw [dif_neg h, valL_snoc, ih (u / 10) (by omega), dig_nat (u % 10) (by omega)]
      omega
theorem dec_digs (u : Nat) : (Lib.decDigits u).all digB = true := by
  induction u using Nat.strongRecOn with
  | ind u ih =>
    rw [Lib.decDigits]
    by_cases h : u < 10
    · rw [dif_pos h]
      simp only [List.all_cons, List.all_nil, Bool.and_true]
      unfold digB
      rw [dig_nat u h]
      exact inB_true (by omega) (by omega)
    · rw [dif_neg h, List.all_append, ih (u / 10) (by omega)]
      simp only [List.all_cons, List.all_nil, Bool.and_true, Bool.true_and]
      unfold digB
      rw [dig_nat (u % 10) (by omega)]
      exact inB_true (by omega) (by omega)
theorem read_back (e : Int) (h0 : 0 ≤ e) (h1 : e ≤ 999999999) : readDec (itoaB e) = e := by
  have hi : Lib.itoa e = Lib.decDigits e.toNat := by unfold Lib.itoa; rw [if_neg (by omega)]
  have hs : (itoaB e).size = (Lib.decDigits e.toNat).length := by show (Lib.itoa e).length = _; rw [hi]
  have hl : (itoaB e).data.toList = Lib.decDigits e.toNat := by show (Lib.itoa e).toArray.toList = _; rw [hi]
  have ht : (itoaB e).data.toList.take (itoaB e).size = Lib.decDigits e.toNat := by rw [take_all, hl]
  have hv : val (itoaB e) (itoaB e).size = e := by unfold val; rw [ht, valL_dec]; omega
  have hp : (10 : Nat) ^ (8 + 1) = 1000000000 := by decide
  have h9 : (itoaB e).size ≤ 9 := by rw [hs]; exact dec_len 8 e.toNat (by rw [hp]; omega)
  have hd : digs (itoaB e) (itoaB e).size = true := by unfold digs; rw [ht]; exact dec_digs _
  have := read_good (itoaB e) h9 hd (by rw [hv])
  rw [this, hv]
end Go.Proofs.YtoofnjccpoeomaaGreatDoor.ctr

namespace Go.Proofs.YtoofnjccpoeomaaGreatDoor.ctr
open Go.RowKit

/-- The text of a feast's name and k days. -/
def plusText (b : ByteArray) (k : Int) : ByteArray := if k = 0 then b else b ++ plusB ++ itoaB k
/-- A text for day n of year y. -/
def textIn (c y n : Int) (mv : Bool) : ByteArray := if (lastTo c y n mv 20).1.size = 0 ∨ 99 < n - (lastTo c y n mv 20).2 then ⟨#[]⟩ else plusText (lastTo c y n mv 20).1 (n - (lastTo c y n mv 20).2)

theorem name_plus : ∀ i : Fin 20, ∀ j : Fin 20, bAt (feaAt i.val).name j.val ≠ 43 := by decide
theorem app_list (a b : ByteArray) : (a ++ b).data.toList = a.data.toList ++ b.data.toList := by simp
theorem read_told (i : Nat) (hi : i < 20) (k : Int) (h1 : 1 ≤ k) (h2 : k ≤ 99) : readFeast ((feaAt i).name ++ plusB ++ itoaB k) = ((i : Int), k) := by
  have hsz := feaAt_size ⟨i, hi⟩
  have hfind := feaAt_find ⟨i, hi⟩
  have hno := fun j : Fin 20 => name_plus ⟨i, hi⟩ j
  have hrb := read_back k (by omega) (by omega)
  dsimp only at hsz hfind hno
  generalize (feaAt i).name = b at *
  have hl : (b ++ plusB ++ itoaB k).data.toList = b.data.toList ++ 43 :: (itoaB k).data.toList := by
    rw [app_list, app_list, List.append_assoc]
    rfl
  have hbl : b.data.toList.length = b.size := rfl
  have hs : (b ++ plusB ++ itoaB k).size = b.size + 1 + (itoaB k).size := by
    rw [ByteArray.size_append, ByteArray.size_append]
    rfl
  have hat : bAt (b ++ plusB ++ itoaB k) b.size = 43 := by
    unfold bAt
    rw [hl, List.getD, List.getElem?_append_right (by omega), hbl, Nat.sub_self]
    rfl
  have hbe : ∀ j, j < b.size → bAt (b ++ plusB ++ itoaB k) j ≠ 43 := fun j hj => by
    have := hno ⟨j, by omega⟩
    dsimp only at this
    unfold bAt at this ⊢
    rw [hl, List.getD, List.getElem?_append_left (by omega)]
    exact this
  rw [read_split _ b.size (by omega) hat hbe]
  have e1 : (b ++ plusB ++ itoaB k).extract 0 b.size = b := by
    apply WideShapes.bytes_inj
    rw [Lib.extract_eq]
    show (List.take (b.size - 0) (List.drop 0 (b ++ plusB ++ itoaB k).data.toList)) = _
    rw [hl, Nat.sub_zero, List.drop_zero, ← hbl]
    exact List.take_left
  have e2 : (b ++ plusB ++ itoaB k).extract (b.size + 1) (b ++ plusB ++ itoaB k).size = itoaB k := by
    apply WideShapes.bytes_inj
    rw [Lib.extract_eq]
    show (List.take _ (List.drop (b.size + 1) (b ++ plusB ++ itoaB k).data.toList)) = _
    rw [hl, hs, ← hbl, ← List.drop_drop]
    simp
    exact take_all _
  rw [e1, e2]
  unfold readTwo
  rw [hfind, hrb, if_neg (by omega)]
theorem read_name (i : Nat) (hi : i < 20) : readFeast (feaAt i).name = ((i : Int), 0) := by
  have hsz := feaAt_size ⟨i, hi⟩
  have hno := fun j : Fin 20 => name_plus ⟨i, hi⟩ j
  have hfind := feaAt_find ⟨i, hi⟩
  dsimp only at hsz hfind hno
  rw [read_plain _ (fun j hj => hno ⟨j, by omega⟩), hfind]
theorem text_back (c y n : Int) (mv : Bool) (hy : yearP c y) (h : (textIn c y n mv).size ≠ 0) : feastPlus c y (textIn c y n mv) = n := by
  unfold textIn at h ⊢
  by_cases h0 : (lastTo c y n mv 20).1.size = 0 ∨ 99 < n - (lastTo c y n mv 20).2
  · rw [if_pos h0] at h
    exact absurd rfl h
  · rw [if_neg h0]
    rcases last_spec c y n mv 20 (Nat.le_refl _) with e | ⟨i, hi, e, _, hle⟩
    · rw [e] at h0
      exact absurd (.inl rfl) h0
    · rw [e] at h0 ⊢
      simp only at h0 ⊢
      unfold plusText
      split
      · rename_i hk
        unfold feastPlus
        rw [read_name i hi, if_neg (fun k => k.elim (fun k => by simp only at k; omega) (fun k => k hy))]
        simp
        omega
      · rename_i hk
        unfold feastPlus
        rw [read_told i hi _ (by omega) (by omega), if_neg (fun k => k.elim (fun k => by simp only at k; omega) (fun k => k hy))]
        simp
        omega
end Go.Proofs.YtoofnjccpoeomaaGreatDoor.ctr

namespace Go.Proofs.YtoofnjccpoeomaaGreatDoor.ctr
open Go.RowKit

theorem step_yes {c y n : Int} {mv : Bool} {b : ByteArray} {t : Int} {f : Fea} (h : f.mv = mv) (h1 : f.day c y ≤ n) (h2 : b.size = 0 ∨ t < f.day c y) : lastStep c y n mv (b, t) f = (f.name, f.day c y) := by
  unfold lastStep
  rw [if_pos ⟨h, h1, h2⟩]
theorem step_no {c y n : Int} {mv : Bool} {b : ByteArray} {t : Int} {f : Fea} (h : f.mv ≠ mv ∨ n < f.day c y ∨ (b.size ≠ 0 ∧ f.day c y ≤ t)) : lastStep c y n mv (b, t) f = (b, t) := by
  unfold lastStep
  rw [if_neg]
  rintro ⟨h0, h1, h2⟩
  rcases h with h | h | h
  · exact h h0
  · omega
  · rcases h2 with h2 | h2
    · exact h.1 h2
    · omega
theorem itoa_short {k : Int} (h1 : 0 ≤ k) (h2 : k ≤ 99) : (itoaB k).size ≤ 2 := by
  have hi : Lib.itoa k = Lib.decDigits k.toNat := by unfold Lib.itoa; rw [if_neg (by omega)]
  show (Lib.itoa k).length ≤ 2
  rw [hi]
  exact dec_len 1 k.toNat (by show k.toNat < 100; omega)
/-- A text for a day. -/
noncomputable def feastText (c n : Int) (mv : Bool) : ByteArray := if (dateOf c n).2.2.2.2 = true then textIn c (dateOf c n).2.1 n mv else ⟨#[]⟩
theorem date_range {c n a y m d : Int} {ok : Bool} (h : dateOf c n = (a, y, m, d, ok)) (hok : ok = true) : yearP c y ∧ -1000 ≤ n ∧ n ≤ 1200000 := by
  subst hok
  by_cases hp : (c = 0 ∨ c = 1) ∧ 1 ≤ yearOf c n ∧ yearOf c n ≤ 3000 ∧ -1000 ≤ n ∧ n ≤ 1200000
  · obtain ⟨h1, h2, h3, h4, h5⟩ := hp
    have := dateOf_yes (k := monthOf c (yearOf c n) (n - first c (yearOf c n))) h1 h4 h5 rfl rfl h2 h3
    rw [this] at h
    simp only [Prod.mk.injEq] at h
    obtain ⟨_, rfl, _⟩ := h
    exact ⟨⟨h1, h2, h3⟩, h4, h5⟩
  · rw [dateOf_no hp] at h
    simp at h
/-- What a loop over the feasts keeps of the world: the date's block and the feasts' row stand. -/
structure TxSt (w : World) (db g : Nat) (dv cur : Array Value) (W : World) : Prop where
  below : Below w.heap.size w W
  date : Blk W db dv 101
  fea : FeaBlk W g cur
theorem TxSt.later {w : World} {db g : Nat} {dv cur : Array Value} {W W' : World} (h : TxSt w db g dv cur W) (hb : Below W.heap.size W W') : TxSt w db g dv cur W' :=
  ⟨h.below.trans (hb.mono h.below.size), h.date.below hb h.date.lt, h.fea.below hb⟩

end Go.Proofs.YtoofnjccpoeomaaGreatDoor.ctr

namespace Go.Proofs.YtoofnjccpoeomaaGreatDoor.ctr
open Go.RowKit

abbrev Pow (w : World) : Prop := Lib.TabIs Tryz.prog w "internal/strconv.uint64pow10" .u64 Lib.pow10Tab
theorem pow_later {w w1 : World} (h : Pow w) (hb : Below w.heap.size w w1) : Pow w1 := kit.tab_below h hb (g := 5) (by kernel_rfl)

set_option maxHeartbeats 1000000 in
theorem implPlus (b : ByteArray) (k : Int) (w : World) (hb : b.size ≤ 16) (h0 : 0 ≤ k) (h9 : k ≤ 99) (hP : Pow w) : Calls Tryz.prog 47 #[.string b, .int .i64 k] w fun e w' => e = .returned (.string (plusText b k)) ∧ Below w.heap.size w w' := by
  unfold plusText
  by_cases hk : k = 0
  · subst hk
    rw [if_pos rfl]
    go_enter Tryz.func47, Tryz.ntmps47
    go_wp2
    go_ret
    exact ⟨rfl, Below.refl _ _⟩
  · have hk' : (k == 0) = false := by simp [hk]
    rw [if_neg hk]
    have KI := implDecText k w (by omega) (by omega) hP
    have hsz2 : (b ++ (⟨#[43]⟩ : ByteArray)).size ≤ 17 := by rw [ByteArray.size_append]; show b.size + 1 ≤ 17; omega
    have hsz3 : (⟨(Lib.itoa k).toArray⟩ : ByteArray).size ≤ 2 := itoa_short h0 h9
    clear hP
    go_enter Tryz.func47, Tryz.ntmps47
    go_wp2_with fail
    refine KI.mono ?_
    rintro e w1 ⟨rfl, hb1⟩
    go_wp2
    go_ret
    exact ⟨rfl, hb1⟩

end Go.Proofs.YtoofnjccpoeomaaGreatDoor.ctr

namespace Go.Proofs.YtoofnjccpoeomaaGreatDoor.ctr
open Go.RowKit

theorem run_cut_l (s : ByteArray) (p : Nat) (hp : p < s.size) (w : World) : (Instr.slice 9 (.string s) none (some (.int .i64 (p : Int))) none).run Tryz.prog w = .ok (.string (s.extract 0 p)) w :=
  (run_slice_string_h (P := Tryz.prog) (w := w) (t := 9) (s := s) (ht := Tryz.underlying9) .i64 (p : Int) (by omega) (by omega)).trans (by rw [show ((p : Int)).toNat = p from by omega])
theorem run_cut_r (s : ByteArray) (p : Nat) (hp : p < s.size) (w : World) : (Instr.slice 9 (.string s) (some (.int .i64 ((p : Int) + 1))) none none).run Tryz.prog w = .ok (.string (s.extract (p + 1) s.size)) w :=
  (run_slice_string_l (P := Tryz.prog) (w := w) (t := 9) (s := s) (ht := Tryz.underlying9) .i64 ((p : Int) + 1) (by omega) (by omega)).trans (by rw [show ((p : Int) + 1).toNat = p + 1 from by omega])

set_option maxHeartbeats 1000000 in
theorem liteHit (s : ByteArray) (p : Nat) (w : World) (hs : s.size ≤ 1048576) (hp : p < s.size) (hix : Lib.indexByte s.data.toList 43 = p) : Calls Tryz.prog 78 #[.string s, .string ⟨#[43]⟩] w fun e w' => e = .returned (.tuple #[.string (s.extract 0 p), .string (s.extract (p + 1) s.size), .bool true]) ∧ Below w.heap.size w w' := by
  have KI : ∀ W, Calls Tryz.prog 95 #[.string s, .string ⟨#[43]⟩] W fun e w' => e = .returned (.int .i64 (p : Int)) ∧ w' = W := fun W => by rw [← hix]; exact Tryz.stringslite_Index_one s 43 W
  have h1 := run_cut_l s p hp
  have h2 := run_cut_r s p hp
  have hwr : IntKind.i64.wrap ((p : Int) + 1) = (p : Int) + 1 := by rw [PlainAid.i64_is]; unfold wrap64; omega
  have hle : (p : Int) < (s.size : Int) := by omega
  have hle2 : (s.size : Int) ≤ 1048576 := by omega
  clear hix
  go_enter Tryz.func78, Tryz.ntmps78
  go_wp2_with fail
  refine (KI _).mono ?_
  rintro e w1 ⟨rfl, rfl⟩
  go_wp2
  go_region
  all_goals go_wp2
  all_goals go_ret3
  all_goals exact ⟨rfl, (Below.refl _ _).drew⟩
set_option maxHeartbeats 1000000 in
theorem liteMiss (s : ByteArray) (w : World) (hix : Lib.indexByte s.data.toList 43 = -1) : Calls Tryz.prog 78 #[.string s, .string ⟨#[43]⟩] w fun e w' => e = .returned (.tuple #[.string s, .string ⟨#[]⟩, .bool false]) ∧ Below w.heap.size w w' := by
  have KI : ∀ W, Calls Tryz.prog 95 #[.string s, .string ⟨#[43]⟩] W fun e w' => e = .returned (.int .i64 (-1)) ∧ w' = W := fun W => by rw [← hix]; exact Tryz.stringslite_Index_one s 43 W
  clear hix
  go_enter Tryz.func78, Tryz.ntmps78
  go_wp2_with fail
  refine (KI _).mono ?_
  rintro e w1 ⟨rfl, rfl⟩
  go_wp2
  go_ret3
  exact ⟨rfl, Below.refl _ _⟩
set_option maxHeartbeats 1000000 in
theorem implCut (s a b : ByteArray) (f : Bool) (w : World) (h : Calls Tryz.prog 78 #[.string s, .string ⟨#[43]⟩] w fun e w' => e = .returned (.tuple #[.string a, .string b, .bool f]) ∧ Below w.heap.size w w') : Calls Tryz.prog 59 #[.string s, .string ⟨#[43]⟩] w fun e w' => e = .returned (.tuple #[.string a, .string b, .bool f]) ∧ Below w.heap.size w w' := by
  go_enter Tryz.func59, Tryz.ntmps59
  go_wp2_with fail
  refine h.mono ?_
  rintro e w1 ⟨rfl, hb⟩
  go_wp2
  go_ret3
  exact ⟨rfl, hb⟩
/-- What a plus, or none, makes of a text. -/
theorem cut_ways (s : ByteArray) : (∃ p, p < s.size ∧ Lib.indexByte s.data.toList 43 = p ∧ readFeast s = readTwo (s.extract 0 p) (s.extract (p + 1) s.size)) ∨ (Lib.indexByte s.data.toList 43 = -1 ∧ readFeast s = (findFeast s, 0)) := by
  have key : ∀ j, j < s.size → (bAt s j = 43 ↔ s.data.toList[j]? = some 43) := fun j hj => by
    have hl : j < s.data.toList.length := hj
    unfold bAt
    rw [List.getD, List.getElem?_eq_getElem hl]
    constructor
    · intro h
      simp only [Option.getD_some] at h
      have : (s.data.toList[j]).toNat = 43 := by omega
      rw [show s.data.toList[j] = 43 from UInt8.toNat_inj.1 this]
    · intro h
      rw [Option.some.inj h]
      rfl
  by_cases h : Lib.indexByte s.data.toList 43 = -1
  · exact .inr ⟨h, read_plain s fun j hj e => Lib.indexByte_none h j ((key j hj).1 e)⟩
  · have hge := Lib.indexByte_ge s.data.toList 43
    obtain ⟨p, hp⟩ := Int.eq_ofNat_of_zero_le (show 0 ≤ Lib.indexByte s.data.toList 43 by omega)
    obtain ⟨f1, f2⟩ := Lib.indexByte_some hp
    have hps : p < s.size := by
      have : p < s.data.toList.length := (List.getElem?_eq_some_iff.1 f1).1
      exact this
    exact .inl ⟨p, hps, hp, read_split s p hps ((key p hps).2 f1) fun j hj e => f2 j hj ((key j (by omega)).1 e)⟩

set_option maxRecDepth 100000 in
set_option maxHeartbeats 2000000 in
theorem implRead (s : ByteArray) (w : World) (hs : s.size ≤ 1048576) (hP : Pow w) : Calls Tryz.prog 62 #[.string s] w fun e w' => e = .returned (.tuple #[.int .i64 (readFeast s).1, .int .i64 (readFeast s).2]) ∧ Below w.heap.size w w' := by
  have HP := hideP hP
  clear hP
  obtain ⟨R1, R2, hR⟩ : ∃ R1 R2, readFeast s = (R1, R2) := ⟨_, _, rfl⟩
  rw [hR]
  rcases cut_ways s with ⟨p, hp, hix, hrd⟩ | ⟨hix, hrd⟩
  · have KC : Calls Tryz.prog 59 #[.string s, .string ⟨#[43]⟩] w fun e w' => e = .returned (.tuple #[.string (s.extract 0 p), .string (s.extract (p + 1) s.size), .bool true]) ∧ Below w.heap.size w w' := implCut s _ _ _ w (liteHit s p w hs hp hix)
    have hz1 : (s.extract (p + 1) s.size).size ≤ s.size := by rw [ByteArray.size_extract]; omega
    have HV := hideP (hR.symm.trans hrd)
    clear hix hrd hR
    generalize s.extract 0 p = n0 at *
    generalize s.extract (p + 1) s.size = n1 at *
    have KF : ∀ W, Calls Tryz.prog 72 #[.string n0] W fun e w' => e = .returned (.int .i64 (findFeast n0)) ∧ Below W.heap.size W w' := fun W => implFind n0 W
    have KR : ∀ W, Pow W → Calls Tryz.prog 60 #[.string n1] W fun e w' => e = .returned (.int .i64 (readDec n1)) ∧ Below W.heap.size W w' := fun W h => implReadDec n1 W (by unfold maxLen; omega) h
    have hfb := find_b n0
    unfold readTwo at HV
    generalize findFeast n0 = at0 at *
    generalize readDec n1 = kk at *
    by_cases q1 : at0 < 0
    · have HE := hideP (HV.out.trans (if_pos (.inl q1)))
      obtain rfl : at0 = -1 := by omega
      clear HV
      go_enter Tryz.func62, Tryz.ntmps62
      go_wp2_with fail
      refine KC.mono ?_
      rintro e W1 ⟨rfl, hb1⟩
      have B1 := hideP hb1
      clear hb1 KC
      go_wp2_with fail
      refine (KF _).mono ?_
      rintro e W2 ⟨rfl, hb2⟩
      have B2 : Hid (Below w.heap.size w W2) := B1.out.trans (hb2.mono B1.out.size)
      clear hb2
      obtain ⟨rfl, rfl⟩ : R1 = -1 ∧ R2 = 0 := by simpa using HE.out
      go_wp2
      go_ret2
      exact ⟨rfl, B2.out⟩
    by_cases q3 : kk < 1 ∨ 99 < kk
    · have HE := hideP (HV.out.trans (if_pos (.inr q3)))
      obtain ⟨rfl, rfl⟩ : R1 = -1 ∧ R2 = 0 := by simpa using HE.out
      clear HV HE
      rcases q3 with q3 | q3
      · go_enter Tryz.func62, Tryz.ntmps62
        go_wp2_with fail
        refine KC.mono ?_
        rintro e W1 ⟨rfl, hb1⟩
        have B1 := hideP hb1
        clear hb1 KC
        go_wp2_with fail
        refine (KF _).mono ?_
        rintro e W2 ⟨rfl, hb2⟩
        have B2 : Hid (Below w.heap.size w W2) := B1.out.trans (hb2.mono B1.out.size)
        clear hb2
        go_wp2_with fail
        refine (KR _ (pow_later HP.out B2.out)).mono ?_
        rintro e W3 ⟨rfl, hb3⟩
        have B3 : Hid (Below w.heap.size w W3) := B2.out.trans (hb3.mono B2.out.size)
        clear hb3
        go_wp2
        go_ret2
        exact ⟨rfl, B3.out⟩
      · have q4 : ¬ kk < 1 := by omega
        go_enter Tryz.func62, Tryz.ntmps62
        go_wp2_with fail
        refine KC.mono ?_
        rintro e W1 ⟨rfl, hb1⟩
        have B1 := hideP hb1
        clear hb1 KC
        go_wp2_with fail
        refine (KF _).mono ?_
        rintro e W2 ⟨rfl, hb2⟩
        have B2 : Hid (Below w.heap.size w W2) := B1.out.trans (hb2.mono B1.out.size)
        clear hb2
        go_wp2_with fail
        refine (KR _ (pow_later HP.out B2.out)).mono ?_
        rintro e W3 ⟨rfl, hb3⟩
        have B3 : Hid (Below w.heap.size w W3) := B2.out.trans (hb3.mono B2.out.size)
        clear hb3
        go_wp2
        go_ret2
        exact ⟨rfl, B3.out⟩
    · have HE := hideP (HV.out.trans (if_neg (fun h => by omega)))
      have q4 : ¬ kk < 1 := by omega
      have q5 : ¬ 99 < kk := by omega
      obtain ⟨rfl, rfl⟩ : R1 = at0 ∧ R2 = kk := by simpa using HE.out
      clear HV HE q3
      go_enter Tryz.func62, Tryz.ntmps62
      go_wp2_with fail
      refine KC.mono ?_
      rintro e W1 ⟨rfl, hb1⟩
      have B1 := hideP hb1
      clear hb1 KC
      go_wp2_with fail
      refine (KF _).mono ?_
      rintro e W2 ⟨rfl, hb2⟩
      have B2 : Hid (Below w.heap.size w W2) := B1.out.trans (hb2.mono B1.out.size)
      clear hb2
      go_wp2_with fail
      refine (KR _ (pow_later HP.out B2.out)).mono ?_
      rintro e W3 ⟨rfl, hb3⟩
      have B3 : Hid (Below w.heap.size w W3) := B2.out.trans (hb3.mono B2.out.size)
      clear hb3
      go_wp2
      go_ret2
      exact ⟨rfl, B3.out⟩
  · have KC : Calls Tryz.prog 59 #[.string s, .string ⟨#[43]⟩] w fun e w' => e = .returned (.tuple #[.string s, .string ⟨#[]⟩, .bool false]) ∧ Below w.heap.size w w' := implCut s _ _ _ w (liteMiss s w hix)
    obtain ⟨rfl, rfl⟩ : R1 = findFeast s ∧ R2 = 0 := by simpa using hR.symm.trans hrd
    clear hix hrd hR HP
    have KF : ∀ W, Calls Tryz.prog 72 #[.string s] W fun e w' => e = .returned (.int .i64 (findFeast s)) ∧ Below W.heap.size W w' := fun W => implFind s W
    have hfb := find_b s
    generalize findFeast s = at0 at *
    by_cases q1 : at0 < 0
    · go_enter Tryz.func62, Tryz.ntmps62
      go_wp2_with fail
      refine KC.mono ?_
      rintro e W1 ⟨rfl, hb1⟩
      have B1 := hideP hb1
      clear hb1 KC
      go_wp2_with fail
      refine (KF _).mono ?_
      rintro e W2 ⟨rfl, hb2⟩
      have B2 : Hid (Below w.heap.size w W2) := B1.out.trans (hb2.mono B1.out.size)
      clear hb2
      go_wp2
      go_ret2
      exact ⟨rfl, B2.out⟩
    · go_enter Tryz.func62, Tryz.ntmps62
      go_wp2_with fail
      refine KC.mono ?_
      rintro e W1 ⟨rfl, hb1⟩
      have B1 := hideP hb1
      clear hb1 KC
      go_wp2_with fail
      refine (KF _).mono ?_
      rintro e W2 ⟨rfl, hb2⟩
      have B2 : Hid (Below w.heap.size w W2) := B1.out.trans (hb2.mono B1.out.size)
      clear hb2
      go_wp2
      go_ret2
      exact ⟨rfl, B2.out⟩

end Go.Proofs.YtoofnjccpoeomaaGreatDoor.ctr

namespace Go.Proofs.YtoofnjccpoeomaaGreatDoor.ctr
open Go.RowKit

/-- The calendar of a name; -1 for none. -/
def calNo (s : ByteArray) : Int := if calText 0 = s then 0 else if calText 1 = s then 1 else -1

theorem implCalOf (s : ByteArray) (w : World) : Calls Tryz.prog 57 #[.string s] w fun e w' => e = .returned (.int .i64 (calNo s)) ∧ w' = w := by
  have hx0 : ∀ W, (Instr.index 108 (.agg #[.int .i64 0, .int .i64 1]) (.int .i64 0)).run Tryz.prog W = .ok (.int .i64 0) W := fun W => by simp [Instr.index, run_underlying Tryz.underlying108, asIntOf, go_sem, part]
  have hx1 : ∀ W, (Instr.index 108 (.agg #[.int .i64 0, .int .i64 1]) (.int .i64 1)).run Tryz.prog W = .ok (.int .i64 1) W := fun W => by simp [Instr.index, run_underlying Tryz.underlying108, asIntOf, go_sem, part]
  have K0 := fun W => implCalName 0 W
  have K1 := fun W => implCalName 1 W
  obtain ⟨R, hR⟩ : ∃ R, R = calNo s := ⟨_, rfl⟩
  rw [← hR]
  unfold calNo at hR
  generalize calText 0 = t0 at *
  generalize calText 1 = t1 at *
  have HR := hideP hR
  clear hR
  by_cases h0 : t0 = s
  · have e0 : (t0.toList == s.toList) = true := by rw [h0]; simp
    have HE : Hid (R = 0) := by unfold Hid; rw [HR.out, if_pos h0]
    clear h0 HR
    go_enter Tryz.func57, Tryz.ntmps57
    go_wp2_with fail
    go_loopw [6] (fun i wr => i = .int .i64 0 ∧ wr = w) (fun _ _ => 0)
    case atStart => exact ⟨rfl, rfl⟩
    case round =>
      obtain ⟨rfl, rfl⟩ := hrel
      go_wp2_with fail
      refine (K0 _).mono ?_
      rintro e w1 ⟨rfl, rfl⟩
      go_wp2
      go_ret
      exact ⟨ret_int HE.out.symm, rfl⟩
  have e0 : (t0.toList == s.toList) = false := by
    cases h : (t0.toList == s.toList)
    · rfl
    · exact absurd (str_eq h) h0
  by_cases h1 : t1 = s
  · have e1 : (t1.toList == s.toList) = true := by rw [h1]; simp
    have HE : Hid (R = 1) := by unfold Hid; rw [HR.out, if_neg h0, if_pos h1]
    clear h0 h1 HR
    go_enter Tryz.func57, Tryz.ntmps57
    go_wp2_with fail
    go_loopw [6] (fun i wr => (i = .int .i64 0 ∨ i = .int .i64 1) ∧ wr = w) (fun i _ => 2 - (intOf i).toNat)
    case atStart => exact ⟨.inl rfl, rfl⟩
    case round =>
      obtain ⟨rfl | rfl, rfl⟩ := hrel
      · go_wp2_with fail
        refine (K0 _).mono ?_
        rintro e w1 ⟨rfl, rfl⟩
        go_wp2
        exact ⟨⟨.inr rfl, by trivial⟩, by simp [intOf]⟩
      · go_wp2_with fail
        refine (K1 _).mono ?_
        rintro e w1 ⟨rfl, rfl⟩
        go_wp2
        go_ret
        exact ⟨ret_int HE.out.symm, rfl⟩
  · have e1 : (t1.toList == s.toList) = false := by
      cases h : (t1.toList == s.toList)
      · rfl
      · exact absurd (str_eq h) h1
    have HE : Hid (R = -1) := by unfold Hid; rw [HR.out, if_neg h0, if_neg h1]
    clear h0 h1 HR
    go_enter Tryz.func57, Tryz.ntmps57
    go_wp2_with fail
    go_loopw [6] (fun i wr => (i = .int .i64 0 ∨ i = .int .i64 1 ∨ i = .int .i64 2) ∧ wr = w) (fun i _ => 2 - (intOf i).toNat)
    case atStart => exact ⟨.inl rfl, rfl⟩
    case round =>
      obtain ⟨rfl | rfl | rfl, rfl⟩ := hrel
      · go_wp2_with fail
        refine (K0 _).mono ?_
        rintro e w1 ⟨rfl, rfl⟩
        go_wp2
        exact ⟨⟨.inr (.inl rfl), by trivial⟩, by simp [intOf]⟩
      · go_wp2_with fail
        refine (K1 _).mono ?_
        rintro e w1 ⟨rfl, rfl⟩
        go_wp2
        exact ⟨⟨.inr (.inr rfl), by trivial⟩, by simp [intOf]⟩
      · go_wp2
        go_ret
        exact ⟨ret_int HE.out.symm, rfl⟩

theorem specCalOf (s : ByteArray) (w : World) : Calls Tryz.prog 31 #[.string s] w fun e w' => e = .returned (.int .i64 (calNo s)) ∧ w' = w := by
  have K0 := fun W => specCalName 0 W
  have K1 := fun W => specCalName 1 W
  obtain ⟨R, hR⟩ : ∃ R, R = calNo s := ⟨_, rfl⟩
  rw [← hR]
  unfold calNo at hR
  generalize calText 0 = t0 at *
  generalize calText 1 = t1 at *
  have HR := hideP hR
  clear hR
  by_cases h0 : t0 = s
  · have e0 : (t0.toList == s.toList) = true := by rw [h0]; simp
    have HE : Hid (R = 0) := by unfold Hid; rw [HR.out, if_pos h0]
    clear h0 HR
    go_enter Tryz.func31, Tryz.ntmps31
    go_wp2_with fail
    go_loopw [3] (fun i wr => i = .int .i64 0 ∧ wr = w) (fun _ _ => 0)
    case atStart => exact ⟨rfl, rfl⟩
    case round =>
      obtain ⟨rfl, rfl⟩ := hrel
      go_wp2_with fail
      refine (K0 _).mono ?_
      rintro e w1 ⟨rfl, rfl⟩
      go_wp2
      go_ret
      exact ⟨ret_int HE.out.symm, rfl⟩
  have e0 : (t0.toList == s.toList) = false := by
    cases h : (t0.toList == s.toList)
    · rfl
    · exact absurd (str_eq h) h0
  by_cases h1 : t1 = s
  · have e1 : (t1.toList == s.toList) = true := by rw [h1]; simp
    have HE : Hid (R = 1) := by unfold Hid; rw [HR.out, if_neg h0, if_pos h1]
    clear h0 h1 HR
    go_enter Tryz.func31, Tryz.ntmps31
    go_wp2_with fail
    go_loopw [3] (fun i wr => (i = .int .i64 0 ∨ i = .int .i64 1) ∧ wr = w) (fun i _ => 2 - (intOf i).toNat)
    case atStart => exact ⟨.inl rfl, rfl⟩
    case round =>
      obtain ⟨rfl | rfl, rfl⟩ := hrel
      · go_wp2_with fail
        refine (K0 _).mono ?_
        rintro e w1 ⟨rfl, rfl⟩
        go_wp2
        exact ⟨⟨.inr rfl, by trivial⟩, by simp [intOf]⟩
      · go_wp2_with fail
        refine (K1 _).mono ?_
        rintro e w1 ⟨rfl, rfl⟩
        go_wp2
        go_ret
        exact ⟨ret_int HE.out.symm, rfl⟩
  · have e1 : (t1.toList == s.toList) = false := by
      cases h : (t1.toList == s.toList)
      · rfl
      · exact absurd (str_eq h) h1
    have HE : Hid (R = -1) := by unfold Hid; rw [HR.out, if_neg h0, if_neg h1]
    clear h0 h1 HR
    go_enter Tryz.func31, Tryz.ntmps31
    go_wp2_with fail
    go_loopw [3] (fun i wr => (i = .int .i64 0 ∨ i = .int .i64 1 ∨ i = .int .i64 2) ∧ wr = w) (fun i _ => 2 - (intOf i).toNat)
    case atStart => exact ⟨.inl rfl, rfl⟩
    case round =>
      obtain ⟨rfl | rfl | rfl, rfl⟩ := hrel
      · go_wp2_with fail
        refine (K0 _).mono ?_
        rintro e w1 ⟨rfl, rfl⟩
        go_wp2
        exact ⟨⟨.inr (.inl rfl), by trivial⟩, by simp [intOf]⟩
      · go_wp2_with fail
        refine (K1 _).mono ?_
        rintro e w1 ⟨rfl, rfl⟩
        go_wp2
        exact ⟨⟨.inr (.inr rfl), by trivial⟩, by simp [intOf]⟩
      · go_wp2
        go_ret
        exact ⟨ret_int HE.out.symm, rfl⟩

end Go.Proofs.YtoofnjccpoeomaaGreatDoor.ctr
