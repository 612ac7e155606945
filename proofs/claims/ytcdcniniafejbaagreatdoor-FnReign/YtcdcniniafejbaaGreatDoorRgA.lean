/- Contracts of the model's l01Cut and Words: each answers, in new memory, the plain list cut of the parts between a byte, at every text of at most 1048576 bytes; nothing that was there turns. Contract of the model's DecText: at every int it answers the decimal numeral (the library's plain function Lib.itoa); nothing is written. Contract of the model's ReadDec: at every text within the length limit it answers the plain function readDec; nothing is written. Contracts of the model's l01Worth and GetRoman: GetRoman answers the plain function getRoman at every text of at most 1048576 bytes; nothing is written. Plain laws of numbers and numerals: a number comes back from its digits, a numeral from its signs. Plain laws of cut texts, of no program: a text cut at every sign of a kind, its first such sign, how long the parts are; a text with a sign that is no digit is no number. Small laws on lists of texts that lie in a row of their own. Contracts of the program's signValue and GetRoman: GetRoman answers the plain function getRoman at every text of at most 1048576 bytes, where the program's table of shapes holds its texts; nothing that was there turns. Contract of strings.Cut at one sign: at every text of at most 1048576 bytes it answers what is ahead of the first such sign and what is behind it, or the whole text. Regions that draw their order, walked in pieces: a first piece whose operations are quiet in a class of worlds and behind which alone the others come up ('any_prefix'); and three moves beside a call whose answer hangs on the world ('any_call'). A region that draws its order: a row of guarded copies, each of which may come up now, is taken first, all at once ('any_moves'). Contracts of the model's draws: the cursor (l01New, l01Byte, l01Below, l01Once): each call returns, a number drawn below n lies below n, and nothing that lay ahead of the cursor turns. Plain laws on what a draw leaves of a world. Contracts of the model's draws for dates (l02AnyYear, l02Date): each call returns four numbers, and nothing that was there but the cursor turns. Contracts of the model's draws for FnWeek: l02Good, l02Some, DrawWeekday, DrawWeekdayName, DrawCalName, DrawApart. Contracts of the model's draws for FnEaster: l03Two and the eight draws upon it: each call returns numbers, and nothing that was there turns. Contracts of the model's draws for numbers and numerals (l01Raw, DrawFloorDiv, DrawFloorMod, DrawDecText, DrawPutRoman): each call returns a number of 64 bits, and nothing that was there turns. Contract of the model's l01Bent: a text with a byte changed, cut or put in, sometimes: of a text of at most 1000 bytes it makes one of at most one byte more, and nothing but the cursor turns. What a law is told of its []byte, and the contract of the laws' own big. Contracts of the model's draws for FnStyle: l06Style, l06Three and the seven draws of chapter 6: each call returns numbers or a text, and nothing that was there turns. -/
import Derived.Test.YtcdcniniafejbaaGreatDoorBase
import Derived.Handy
import Derived.Laws.AppendOwn
import Derived.Laws.OwnMore
import Derived.OwnWalk
import Derived.RangeFuncBox
import Derived.Maps.AppendAt
import Derived.Lib.ItoaNum
import Derived.Test.YtcdcniniafejbaaGreatDoorRomanCtr
import Derived.Lib.CutLaws
import Derived.Lib.IndexBytes
import Derived.Lib.IndexLaws
import Derived.Test.YtcdcniniafejbaaGreatDoorRomanPut
import Derived.Test.YtcdcniniafejbaaGreatDoorShelf
import Derived.PlainAid
import Derived.Test.YtcdcniniafejbaaGreatDoorLaterKit
import Derived.BigQuiet
import Derived.Deep.QuietTactic
import Derived.Laws.BitsAllLaws
import Derived.Test.YtcdcniniafejbaaGreatDoorBlkKit
import Derived.Test.YtcdcniniafejbaaGreatDoorSolMonth
import Derived.Test.YtcdcniniafejbaaGreatDoorSolDay
import Derived.Deep.RegionWith
import Derived.Test.YtcdcniniafejbaaGreatDoorVarsKit
import Derived.Test.YtcdcniniafejbaaGreatDoorStySpec
namespace Go.Proofs.YtcdcniniafejbaaGreatDoor.ctr
open Go.RowKit

def bAt (s : ByteArray) (k : Nat) : Int := ((s.data.toList.getD k 0).toNat : Int)
theorem bAt_eq (s : ByteArray) (k : Nat) (h : k < s.size) : (s[k].toNat : Int) = bAt s k := by
  have h' : k < s.data.toList.length := h
  unfold bAt
  rw [List.getD, List.getElem?_eq_getElem h']
  rfl
def startAt (s : ByteArray) (g : Int) : Nat → Nat
  | 0 => 0
  | k + 1 => if bAt s k = g then k + 1 else startAt s g k
def partsTo (s : ByteArray) (g : Int) : Nat → List ByteArray
  | 0 => []
  | k + 1 => if bAt s k = g then partsTo s g k ++ [s.extract (startAt s g k) k] else partsTo s g k
def cut (s : ByteArray) (g : Int) : List ByteArray := partsTo s g s.size ++ [s.extract (startAt s g s.size) s.size]
theorem start_le (s : ByteArray) (g : Int) : ∀ k, startAt s g k ≤ k
  | 0 => Nat.le_refl _
  | k + 1 => by
    have := start_le s g k
    unfold startAt
    split <;> omega
theorem parts_len (s : ByteArray) (g : Int) : ∀ k, (partsTo s g k).length ≤ k
  | 0 => Nat.le_refl _
  | k + 1 => by
    have := parts_len s g k
    unfold partsTo
    split
    · rw [List.length_append]; simp; omega
    · omega
theorem parts_hit (s : ByteArray) (g : Int) (k : Nat) (h : bAt s k = g) : partsTo s g (k + 1) = partsTo s g k ++ [s.extract (startAt s g k) k] ∧ startAt s g (k + 1) = k + 1 := by
  constructor
  · rw [partsTo, if_pos h]
  · rw [startAt, if_pos h]
theorem parts_miss (s : ByteArray) (g : Int) (k : Nat) (h : bAt s k ≠ g) : partsTo s g (k + 1) = partsTo s g k ∧ startAt s g (k + 1) = startAt s g k := by
  constructor
  · rw [partsTo, if_neg h]
  · rw [startAt, if_neg h]
theorem own_base {w : World} {base e size : Nat} {v : Value} {n : Nat} {xs : List Value} (h : w.ownsRow base e size v n xs) : ∀ k, v.ownBlock = some k → base ≤ k := by
  obtain ⟨_, h | ⟨g, cap, cur, rfl, hb, _⟩⟩ := h
  · obtain ⟨rfl, _⟩ := h
    intro k hk
    cases hk
  · intro k hk
    cases hk
    exact hb
theorem size_new' (W : World) (o : Obj) : (W.alloc o).heap.size = W.heap.size + 1 := by simp [World.alloc, -World.alloc_eq]
theorem own_empty (w : World) (e : TypeId) : (w.alloc (.cells #[] e)).ownsRow w.heap.size e 1 (.slice (some ⟨w.heap.size, 0, none⟩) 0 0) 0 [] :=
  ⟨rfl, .inr ⟨w.heap.size, 0, #[], rfl, Nat.le_refl _, by simp [World.alloc, -World.alloc_eq], Nat.le_refl _, Nat.zero_le _, rfl, rfl⟩⟩
theorem info_str : (Tryz.prog.info? 9).map (fun i => (i.zero, i.size, i.bytes)) = some (some (.string ⟨#[]⟩), 1, 16) := by kernel_rfl

set_option maxHeartbeats 1000000 in
theorem l01Cut (s : ByteArray) (g : Int) (w : World) (hs : s.size ≤ 1048576) :
    Calls Tryz.prog 80 #[.string s, .int .u8 g] w fun e w' => ∃ v, e = .returned v ∧ w'.ownsRow w.heap.size 9 1 v (cut s g).length ((cut s g).map Value.string) ∧ Below w.heap.size w w' := by
  obtain ⟨i0, hi, hz0, hz1, hz2⟩ := info_parts info_str
  go_enter Tryz.func80, Tryz.ntmps80
  go_wp2
  go_loopw [5, 6, 7] (fun o f i wr => ∃ k : Nat, k ≤ s.size ∧ i = .int .i64 (k : Int) ∧ f = .int .i64 (startAt s g k : Int) ∧ wr.ownsRow w.heap.size 9 1 o (partsTo s g k).length ((partsTo s g k).map Value.string) ∧ Below w.heap.size w wr) (fun _ _ i _ => s.size - (intOf i).toNat)
  case atStart => exact ⟨0, Nat.zero_le _, rfl, rfl, own_empty w _, (Below.refl _ _).alloc (Nat.le_refl _) _⟩
  case round =>
    obtain ⟨k, hk, rfl, rfl, hrow, hB⟩ := hrel
    have hsl := start_le s g k
    have hpl := parts_len s g k
    by_cases hlt : k < s.size
    · have hx := bAt_eq s k hlt
      by_cases hg : bAt s k = g
      · have hg' : (bAt s k == g) = true := by simp [hg]
        obtain ⟨HP, HS⟩ : Hid (partsTo s g (k + 1) = partsTo s g k ++ [s.extract (startAt s g k) k]) ∧ Hid (startAt s g (k + 1) = k + 1) := parts_hit s g k hg
        clear hg
        go_wp2_with (at_builtin; refine wpList_append_own _ rfl _ _ 69 rfl w.heap.size 9 i0 (.string ⟨#[]⟩) 1 16 Tryz.underlying69 hi hz0 hz1 hz2 rfl (by decide) _ _ _ rfl (hrow.alloc _) ⟨wr.heap.size, 0, none⟩ 1 1 [.string (s.extract (startAt s g k) k)] rfl rfl (cell_one_new _ _ _) (by simp [Value.oneCell']) (by unfold maxLen; omega) (by omega) (by have := hB.size; simp; omega) ?_; intro v' w1 hown' hgrow _)
        have hB1 : Below w.heap.size w w1 := (hB.alloc hB.size _).grown hgrow (by have := hB.size; rw [size_new']; omega) (own_base hrow)
        refine ⟨⟨k + 1, by omega, by go_num, by rw [HS.out]; go_num, ?_, hB1⟩, by simp [intOf]; omega⟩
        rw [HP.out, List.length_append, List.map_append]
        exact hown'
      · have hg' : (bAt s k == g) = false := by simp [hg]
        obtain ⟨HP, HS⟩ : Hid (partsTo s g (k + 1) = partsTo s g k) ∧ Hid (startAt s g (k + 1) = startAt s g k) := parts_miss s g k hg
        clear hg
        go_wp2
        exact ⟨⟨k + 1, by omega, by go_num, by rw [HS.out], by rw [HP.out]; exact hrow, hB⟩, by simp [intOf]; omega⟩
    · have hks : k = s.size := by omega
      subst hks
      have hlo : (startAt s g s.size : Int) ≤ (s.size : Int) := by omega
      go_wp2_with (at_builtin; refine wpList_append_own _ rfl _ _ 69 rfl w.heap.size 9 i0 (.string ⟨#[]⟩) 1 16 Tryz.underlying69 hi hz0 hz1 hz2 rfl (by decide) _ _ _ rfl (hrow.alloc _) ⟨wr.heap.size, 0, none⟩ 1 1 [.string (s.extract (startAt s g s.size) s.size)] rfl rfl (cell_one_new _ _ _) (by simp [Value.oneCell']) (by unfold maxLen; omega) (by omega) (by have := hB.size; simp; omega) ?_; intro v' w1 hown' hgrow _)
      have hB1 : Below w.heap.size w w1 := (hB.alloc hB.size _).grown hgrow (by have := hB.size; rw [size_new']; omega) (own_base hrow)
      go_ret
      refine ⟨v', rfl, ?_, hB1⟩
      unfold cut
      rw [List.length_append, List.map_append]
      exact hown'

set_option maxHeartbeats 400000 in
theorem specWords (s : ByteArray) (w : World) (hs : s.size ≤ 1048576) :
    Calls Tryz.prog 50 #[.string s] w fun e w' => ∃ v, e = .returned v ∧ w'.ownsRow w.heap.size 9 1 v (cut s 32).length ((cut s 32).map Value.string) ∧ Below w.heap.size w w' := by
  go_enter Tryz.func50, Tryz.ntmps50
  go_wp2_with fail
  refine (l01Cut s 32 _ hs).mono ?_
  rintro e w' ⟨v, rfl, hrow, hb⟩
  have HR : Hid _ := hrow
  have HB : Hid _ := hb
  clear hrow hb
  go_wp2
  go_ret
  exact ⟨v, rfl, HR.out, HB.out⟩
end Go.Proofs.YtcdcniniafejbaaGreatDoor.ctr

namespace Go.Proofs.YtcdcniniafejbaaGreatDoor.ctr
open Go.RowKit

/-- What is left to write of m ahead of what stands. -/
def left (m : Int) : List UInt8 := if m = 0 then [] else Lib.decDigits m.natAbs
theorem left_step (m : Int) (h : m ≠ 0) : left m = left (m.tdiv 10) ++ [UInt8.ofNat (48 + m.natAbs % 10)] := by
  have e : (m.tdiv 10).natAbs = m.natAbs / 10 := by rw [Int.natAbs_tdiv]; rfl
  unfold left
  rw [if_neg h, Lib.decDigits]
  by_cases h0 : m.natAbs < 10
  · rw [dif_pos h0, if_pos (by omega), Nat.mod_eq_of_lt h0]
    rfl
  · rw [dif_neg h0, if_neg (by omega), e]
theorem dec_len : ∀ (k u : Nat), u < 10 ^ (k + 1) → (Lib.decDigits u).length ≤ k + 1
  | 0, u, h => by rw [Lib.decDigits, dif_pos (by simpa using h)]; simp
  | k + 1, u, h => by
    rw [Lib.decDigits]
    by_cases h0 : u < 10
    · rw [dif_pos h0]; simp
    · rw [dif_neg h0, List.length_append]
      have := dec_len k (u / 10) (by rw [Nat.pow_succ] at h; omega)
      simp
      omega
theorem left_len (n : Int) (h0 : -9223372036854775808 ≤ n) (h1 : n ≤ 9223372036854775807) : (left n).length ≤ 20 := by
  unfold left
  by_cases h : n = 0
  · rw [if_pos h]; simp
  · rw [if_neg h]
    exact dec_len 19 n.natAbs (by have : (10 : Nat) ^ (19 + 1) = 100000000000000000000 := by decide
                                  omega)
theorem out_len {m n : Int} {out : List UInt8} (h : left m ++ out = left n) (h0 : -9223372036854775808 ≤ n) (h1 : n ≤ 9223372036854775807) : out.length ≤ 20 := by
  have := left_len n h0 h1
  rw [← h, List.length_append] at this
  omega
theorem digits_one : ∀ i : Fin 10, (⟨#[48, 49, 50, 51, 52, 53, 54, 55, 56, 57]⟩ : ByteArray).extract i.val (i.val + 1) = ⟨#[UInt8.ofNat (48 + i.val)]⟩ := by decide
theorem digit_join (d : Int) (k : Nat) (h0 : 0 ≤ d) (h1 : d < 10) (hk : d.toNat = k) (out : List UInt8) :
    Value.string ((⟨#[48, 49, 50, 51, 52, 53, 54, 55, 56, 57]⟩ : ByteArray).extract d.toNat (d + 1).toNat ++ ⟨out.toArray⟩) = .string ⟨(UInt8.ofNat (48 + k) :: out).toArray⟩ := by
  have e : (d + 1).toNat = d.toNat + 1 := by omega
  rw [e, hk, digits_one ⟨k, by omega⟩]
  congr 1
theorem itoa_left (n : Int) (h : n ≠ 0) : Lib.itoa n = if n < 0 then 45 :: left n else left n := by
  unfold Lib.itoa left
  rw [if_neg h]
  by_cases hn : n < 0
  · rw [if_pos hn, if_pos hn]
  · rw [if_neg hn, if_neg hn, show n.toNat = n.natAbs from by omega]

end Go.Proofs.YtcdcniniafejbaaGreatDoor.ctr

namespace Go.Proofs.YtcdcniniafejbaaGreatDoor.ctr
open Go.RowKit

/-- 0 .. 9. -/
def digB (c : UInt8) : Bool := inB c.toNat 48 57
def digs (s : ByteArray) (k : Nat) : Bool := (s.data.toList.take k).all digB
def valL (l : List UInt8) : Int := l.foldl (fun n c => 10 * n + (c.toNat : Int) - 48) 0
def val (s : ByteArray) (k : Nat) : Int := valL (s.data.toList.take k)
def itoaB (n : Int) : ByteArray := ⟨(Lib.itoa n).toArray⟩
def readDec (s : ByteArray) : Int := if s.size ≤ 9 ∧ digs s s.size = true ∧ itoaB (val s s.size) = s then val s s.size else -1
theorem val_succ (s : ByteArray) (k : Nat) (h : k < s.size) : val s (k + 1) = 10 * val s k + (s[k].toNat : Int) - 48 := by
  unfold val valL
  rw [take_snoc s k h, List.foldl_append]
  rfl
theorem digs_succ (s : ByteArray) (k : Nat) (h : k < s.size) : digs s (k + 1) = (digs s k && digB s[k]) := by
  unfold digs
  rw [take_snoc s k h, List.all_append]
  simp
theorem dig_of {c : UInt8} (h : digB c = true) : 48 ≤ (c.toNat : Int) ∧ (c.toNat : Int) ≤ 57 := by
  simpa [digB, inB] using h
theorem val_bd (s : ByteArray) : ∀ k, k ≤ s.size → digs s k = true → 0 ≤ val s k ∧ val s k < (10 : Int) ^ k
  | 0, _, _ => by simp [val, valL]
  | k + 1, hk, h => by
    rw [digs_succ s k (by omega), Bool.and_eq_true] at h
    have := val_bd s k (by omega) h.1
    have hd := dig_of h.2
    rw [val_succ s k (by omega), Int.pow_succ]
    omega
theorem val_bd9 (s : ByteArray) (k : Nat) (hk : k ≤ s.size) (h9 : k ≤ 9) (h : digs s k = true) : 0 ≤ val s k ∧ val s k ≤ 999999999 := by
  have := val_bd s k hk h
  have h2 : (10 : Int) ^ k ≤ 10 ^ 9 := by
    have : (10 : Nat) ^ k ≤ 10 ^ 9 := Nat.pow_le_pow_right (by omega) h9
    exact_mod_cast this
  have h3 : (10 : Int) ^ 9 = 1000000000 := by decide
  omega
theorem digs_up (s : ByteArray) : ∀ k j, k + j ≤ s.size → digs s (k + j) = true → digs s k = true
  | k, 0, _, h => h
  | k, j + 1, hk, h => by
    rw [show k + (j + 1) = (k + j) + 1 from by omega, digs_succ s (k + j) (by omega), Bool.and_eq_true] at h
    exact digs_up s k j (by omega) h.1
theorem read_stop (s : ByteArray) (k : Nat) (h : k < s.size) (h2 : digB s[k] = false) : readDec s = -1 := by
  unfold readDec
  rw [if_neg]
  rintro ⟨_, hd, _⟩
  have := digs_up s (k + 1) (s.size - (k + 1)) (by omega) (by rw [show k + 1 + (s.size - (k + 1)) = s.size from by omega]; exact hd)
  rw [digs_succ s k h, h2] at this
  simp at this
theorem read_long (s : ByteArray) (h : 9 < s.size) : readDec s = -1 := by
  unfold readDec
  rw [if_neg (by omega)]
theorem read_bad (s : ByteArray) (h : itoaB (val s s.size) ≠ s) : readDec s = -1 := by
  unfold readDec
  rw [if_neg (by rintro ⟨_, _, e⟩; exact h e)]
theorem read_good (s : ByteArray) (h9 : s.size ≤ 9) (hd : digs s s.size = true) (h : itoaB (val s s.size) = s) : readDec s = val s s.size := by
  unfold readDec
  rw [if_pos ⟨h9, hd, h⟩]
theorem itoa_eq {v : Int} {s : ByteArray} (h : (Lib.itoa v == s.toList) = true) : itoaB v = s := by
  rw [ByteArray.toList_eq, beq_iff_eq] at h
  unfold itoaB
  rw [h]
theorem itoa_ne {v : Int} {s : ByteArray} (h : (Lib.itoa v == s.toList) = false) : itoaB v ≠ s := by
  rintro rfl
  rw [ByteArray.toList_eq] at h
  simp [itoaB] at h
theorem itoaB_empty (n : Int) (s : ByteArray) (h : s.size = 0) : itoaB n ≠ s := by
  intro e
  have h1 : (itoaB n).size = 0 := by rw [e, h]
  have h2 : (Lib.itoa n).length = 0 := h1
  rw [List.length_eq_zero_iff] at h2
  unfold Lib.itoa at h2
  split at h2
  · simp at h2
  · rw [Lib.decDigits] at h2
    split at h2 <;> simp at h2

end Go.Proofs.YtcdcniniafejbaaGreatDoor.ctr

namespace Go.Proofs.YtcdcniniafejbaaGreatDoor.ctr
open Go.RowKit

def worth (x : Int) : Int := if x = 73 then 1 else if x = 86 then 5 else if x = 88 then 10 else if x = 76 then 50 else if x = 67 then 100 else if x = 68 then 500 else if x = 77 then 1000 else 0
theorem worth_bd (x : Int) : 0 ≤ worth x ∧ worth x ≤ 1000 := by
  unfold worth
  repeat' split
  all_goals omega
def byteAt (s : ByteArray) (k : Nat) : Int := ((s.data.toList.getD k 0).toNat : Int)
theorem byteAt_eq (s : ByteArray) (k : Nat) (h : k < s.size) : (s[k].toNat : Int) = byteAt s k := by
  have h' : k < s.data.toList.length := h
  unfold byteAt
  rw [List.getD, List.getElem?_eq_getElem h']
  rfl
def stepAt (s : ByteArray) (k : Nat) : Int := if k + 1 < s.size ∧ worth (byteAt s k) < worth (byteAt s (k + 1)) then -worth (byteAt s k) else worth (byteAt s k)
def sumR (s : ByteArray) : Nat → Int
  | 0 => 0
  | k + 1 => sumR s k + stepAt s k
theorem step_bd (s : ByteArray) (k : Nat) : -1000 ≤ stepAt s k ∧ stepAt s k ≤ 1000 := by
  have := worth_bd (byteAt s k)
  unfold stepAt
  split <;> omega
theorem sum_bd (s : ByteArray) : ∀ k : Nat, -1000 * (k : Int) ≤ sumR s k ∧ sumR s k ≤ 1000 * (k : Int)
  | 0 => by simp [sumR]
  | k + 1 => by
    have h1 := sum_bd s k
    have h2 := step_bd s k
    unfold sumR
    omega
def getRoman (s : ByteArray) : Int := if putRoman (sumR s s.size) = s then sumR s s.size else 0
def goodB (c : UInt8) : Bool := worth (c.toNat : Int) != 0
theorem digL_all (p : UInt8 → Bool) (d : Nat) (a b c : UInt8) (ha : p a = true) (hb : p b = true) (hc : p c = true) : (digL d a b c).all p = true := by
  unfold digL
  split <;> simp [ha, hb, hc]
theorem roman_good (n : Int) : (putRoman n).data.toList.all goodB = true ∧ (putRoman n).size ≤ 15 := by
  unfold putRoman
  by_cases h : 1 ≤ n ∧ n ≤ 3999
  · rw [if_pos h]
    unfold roman
    constructor
    · simp only [List.all_append, Bool.and_eq_true]
      refine ⟨⟨⟨?_, digL_all _ _ _ _ _ (by decide) (by decide) (by decide)⟩, digL_all _ _ _ _ _ (by decide) (by decide) (by decide)⟩, digL_all _ _ _ _ _ (by decide) (by decide) (by decide)⟩
      simp [manyL]
      exact .inr (by decide)
    · show (manyL 77 (n.toNat / 1000) ++ digL (n.toNat / 100 % 10) 67 68 77 ++ digL (n.toNat / 10 % 10) 88 76 67 ++ digL (n.toNat % 10) 73 86 88).length ≤ 15
      have h1 := manyL_len 77 (n.toNat / 1000)
      have h2 := digL_len (n.toNat / 100 % 10) 67 68 77
      have h3 := digL_len (n.toNat / 10 % 10) 88 76 67
      have h4 := digL_len (n.toNat % 10) 73 86 88
      simp only [List.length_append]
      omega
  · rw [if_neg h]
    exact ⟨rfl, Nat.zero_le _⟩
theorem get_zero (s : ByteArray) (h : putRoman (sumR s s.size) ≠ s) : getRoman s = 0 := by unfold getRoman; rw [if_neg h]
theorem get_long (s : ByteArray) (h : 15 < s.size) : getRoman s = 0 := by
  apply get_zero
  intro e
  have := (roman_good (sumR s s.size)).2
  rw [e] at this
  omega
theorem get_bad (s : ByteArray) (k : Nat) (h : k < s.size) (hw : worth (byteAt s k) = 0) : getRoman s = 0 := by
  apply get_zero
  intro e
  have := (roman_good (sumR s s.size)).1
  rw [e, List.all_eq_true] at this
  have h' : k < s.data.toList.length := h
  have hg := this _ (List.getElem_mem h')
  unfold goodB at hg
  have : byteAt s k = ((s.data.toList[k]).toNat : Int) := by unfold byteAt; rw [List.getD, List.getElem?_eq_getElem h']; rfl
  rw [← this, hw] at hg
  simp at hg
theorem get_sum (s : ByteArray) (h : putRoman (sumR s s.size) = s) : getRoman s = sumR s s.size := by unfold getRoman; rw [if_pos h]
theorem get_empty (s : ByteArray) (h : s.size = 0) : getRoman s = 0 := by
  unfold getRoman
  rw [h]
  split <;> rfl

set_option maxHeartbeats 1000000 in
theorem l01Worth (x : Int) (w : World) : Calls Tryz.prog 81 #[.int .u8 x] w fun e w' => e = .returned (.int .i64 (worth x)) ∧ w' = w := by
  by_cases c1 : x = 73
  · subst c1; go_enter Tryz.func81, Tryz.ntmps81; go_wp2; go_ret; exact ⟨rfl, rfl⟩
  by_cases c2 : x = 86
  · subst c2; go_enter Tryz.func81, Tryz.ntmps81; go_wp2; go_ret; exact ⟨rfl, rfl⟩
  by_cases c3 : x = 88
  · subst c3; go_enter Tryz.func81, Tryz.ntmps81; go_wp2; go_ret; exact ⟨rfl, rfl⟩
  by_cases c4 : x = 76
  · subst c4; go_enter Tryz.func81, Tryz.ntmps81; go_wp2; go_ret; exact ⟨rfl, rfl⟩
  by_cases c5 : x = 67
  · subst c5; go_enter Tryz.func81, Tryz.ntmps81; go_wp2; go_ret; exact ⟨rfl, rfl⟩
  by_cases c6 : x = 68
  · subst c6; go_enter Tryz.func81, Tryz.ntmps81; go_wp2; go_ret; exact ⟨rfl, rfl⟩
  by_cases c7 : x = 77
  · subst c7; go_enter Tryz.func81, Tryz.ntmps81; go_wp2; go_ret; exact ⟨rfl, rfl⟩
  have HW : Hid (worth x = 0) := by unfold Hid worth; simp [c1, c2, c3, c4, c5, c6, c7]
  go_enter Tryz.func81, Tryz.ntmps81
  go_wp2
  go_ret
  exact ⟨ret_int HW.out.symm, rfl⟩

set_option maxHeartbeats 1000000 in
theorem specGetRoman (s : ByteArray) (w : World) (hs : s.size ≤ 1048576) :
    Calls Tryz.prog 51 #[.string s] w fun e w' => e = .returned (.int .i64 (getRoman s)) ∧ w' = w := by
  go_enter Tryz.func51, Tryz.ntmps51
  go_wp2
  go_loop [3, 4] (fun n i => ∃ (k : Nat) (v : Int), k ≤ s.size ∧ i = .int .i64 k ∧ n = .int .i64 v ∧ -1048576000 ≤ v ∧ v ≤ 1048576000 ∧ Hid (v = sumR s k)) (fun _ i => s.size - (intOf i).toNat)
  case atStart => exact ⟨0, 0, Nat.zero_le _, rfl, rfl, by omega, by omega, rfl⟩
  case round =>
    obtain ⟨k, v, hk, rfl, rfl, v0, v1, HV⟩ := hrel
    by_cases hlt : k < s.size
    · have hx := byteAt_eq s k hlt
      obtain ⟨u0, u1⟩ := worth_bd (byteAt s k)
      by_cases hz : worth (byteAt s k) = 0
      · have HB : Hid (getRoman s = 0) := get_bad s k hlt hz
        have hz' : (worth (byteAt s k) == 0) = true := by simp [hz]
        clear hz
        go_wp2_with (go_at_call 81; refine (l01Worth _ _).mono ?_; rintro e w' ⟨rfl, rfl⟩)
        go_ret
        exact ⟨ret_int HB.out.symm, rfl⟩
      have hz' : (worth (byteAt s k) == 0) = false := by simp [hz]
      clear hz
      by_cases h15 : 15 < s.size
      · have HB : Hid (getRoman s = 0) := get_long s h15
        go_wp2_with (go_at_call 81; refine (l01Worth _ _).mono ?_; rintro e w' ⟨rfl, rfl⟩)
        go_ret
        exact ⟨ret_int HB.out.symm, rfl⟩
      have hsb := sum_bd s (k + 1)
      obtain ⟨sb0, sb1⟩ : -1048576000 ≤ sumR s (k + 1) ∧ sumR s (k + 1) ≤ 1048576000 := by omega
      clear hsb
      have HS : Hid (sumR s (k + 1) = v + stepAt s k) := by unfold Hid; rw [HV.out]; rfl
      by_cases hn : k + 1 < s.size
      · have hx2 := byteAt_eq s (k + 1) hn
        obtain ⟨y0, y1⟩ := worth_bd (byteAt s (k + 1))
        by_cases hg : worth (byteAt s k) < worth (byteAt s (k + 1))
        · have HT : Hid (stepAt s k = -worth (byteAt s k)) := by unfold Hid stepAt; rw [if_pos ⟨hn, hg⟩]
          go_wp2_with (go_at_call 81; refine (l01Worth _ _).mono ?_; rintro e w' ⟨rfl, rfl⟩)
          exact ⟨⟨k + 1, sumR s (k + 1), by omega, by go_num, by rw [HS.out, HT.out], sb0, sb1, rfl⟩, by simp [intOf]; omega⟩
        · have HT : Hid (stepAt s k = worth (byteAt s k)) := by unfold Hid stepAt; rw [if_neg (by omega)]
          go_wp2_with (go_at_call 81; refine (l01Worth _ _).mono ?_; rintro e w' ⟨rfl, rfl⟩)
          exact ⟨⟨k + 1, sumR s (k + 1), by omega, by go_num, by rw [HS.out, HT.out], sb0, sb1, rfl⟩, by simp [intOf]; omega⟩
      · have HT : Hid (stepAt s k = worth (byteAt s k)) := by unfold Hid stepAt; rw [if_neg (by omega)]
        go_wp2_with (go_at_call 81; refine (l01Worth _ _).mono ?_; rintro e w' ⟨rfl, rfl⟩)
        exact ⟨⟨k + 1, sumR s (k + 1), by omega, by go_num, by rw [HS.out, HT.out], sb0, sb1, rfl⟩, by simp [intOf]; omega⟩
    · have hks : k = s.size := by omega
      by_cases hz : s.size = 0
      · have HB : Hid (getRoman s = 0) := get_empty s hz
        have hz' : s.toList.isEmpty = true := by rw [ByteArray.toList_eq]; simp; exact Array.eq_empty_of_size_eq_zero hz
        go_wp2
        go_ret
        exact ⟨ret_int HB.out.symm, rfl⟩
      · have hz' : s.toList.isEmpty = false := by rw [ByteArray.toList_eq]; simp; intro e; exact hz (by show s.data.size = 0; rw [e]; rfl)
        cases hq : ((putRoman v).toList == s.toList)
        · have HB : Hid (getRoman s = 0) := get_zero s (by rw [← hks, ← HV.out]; exact str_ne hq)
          clear hks
          go_wp2_with (go_at_call 63; refine (specPutRoman _ _).mono ?_; rintro e w' ⟨rfl, rfl⟩)
          go_ret
          exact ⟨ret_int HB.out.symm, rfl⟩
        · have HB : Hid (getRoman s = v) := by unfold Hid; rw [HV.out, hks]; exact get_sum s (by rw [← hks, ← HV.out]; exact str_eq hq)
          clear hks
          go_wp2_with (go_at_call 63; refine (specPutRoman _ _).mono ?_; rintro e w' ⟨rfl, rfl⟩)
          go_ret
          exact ⟨ret_int HB.out.symm, rfl⟩
end Go.Proofs.YtcdcniniafejbaaGreatDoor.ctr

namespace Go.Proofs.YtcdcniniafejbaaGreatDoor.ctr
open Go.RowKit

theorem valL_snoc (l : List UInt8) (c : UInt8) : valL (l ++ [c]) = 10 * valL l + (c.toNat : Int) - 48 := by
  unfold valL
  rw [List.foldl_append]
  rfl
theorem dig_nat (k : Nat) (h : k < 10) : (UInt8.ofNat (48 + k)).toNat = 48 + k := by
  show (48 + k) % 256 = 48 + k
  omega
theorem valL_dec (u : Nat) : valL (Lib.decDigits u) = (u : Int) := by
  induction u using Nat.strongRecOn with
  | ind u ih =>
    rw [Lib.decDigits]
    by_cases h : u < 10
    · rw [dif_pos h]
      have := dig_nat u h
      have e := valL_snoc [] (UInt8.ofNat (48 + u))
      rw [List.nil_append] at e
      rw [e, this]
      simp [valL]
      omega
    · rw [dif_neg h, valL_snoc, ih (u / 10) (by omega), dig_nat (u % 10) (by omega)]
      omega
theorem dec_digs (u : Nat) : (Lib.decDigits u).all digB = true := by
  induction u using Nat.strongRecOn with
  | ind u ih =>
    rw [Lib.decDigits]
    by_cases h : u < 10
    · rw [dif_pos h]
      simp only [List.all_cons, List.all_nil, Bool.and_true]
      unfold digB
      rw [dig_nat u h]
      exact inB_true (by omega) (by omega)
    · rw [dif_neg h, List.all_append, ih (u / 10) (by omega)]
      simp only [List.all_cons, List.all_nil, Bool.and_true, Bool.true_and]
      unfold digB
      rw [dig_nat (u % 10) (by omega)]
      exact inB_true (by omega) (by omega)
theorem read_back (e : Int) (h0 : 0 ≤ e) (h1 : e ≤ 999999999) : readDec (itoaB e) = e := by
  have hi : Lib.itoa e = Lib.decDigits e.toNat := by unfold Lib.itoa; rw [if_neg (by omega)]
  have hs : (itoaB e).size = (Lib.decDigits e.toNat).length := by show (Lib.itoa e).length = _; rw [hi]
  have hl : (itoaB e).data.toList = Lib.decDigits e.toNat := by show (Lib.itoa e).toArray.toList = _; rw [hi]
  have ht : (itoaB e).data.toList.take (itoaB e).size = Lib.decDigits e.toNat := by rw [take_all, hl]
  have hv : val (itoaB e) (itoaB e).size = e := by unfold val; rw [ht, valL_dec]; omega
  have hp : (10 : Nat) ^ (8 + 1) = 1000000000 := by decide
  have h9 : (itoaB e).size ≤ 9 := by rw [hs]; exact dec_len 8 e.toNat (by rw [hp]; omega)
  have hd : digs (itoaB e) (itoaB e).size = true := by unfold digs; rw [ht]; exact dec_digs _
  have := read_good (itoaB e) h9 hd (by rw [hv])
  rw [this, hv]

def worthL (l : List UInt8) (k : Nat) : Int := worth ((l.getD k 0).toNat : Int)
def stepL (l : List UInt8) (k : Nat) : Int := if k + 1 < l.length ∧ worthL l k < worthL l (k + 1) then -worthL l k else worthL l k
def sumRL (l : List UInt8) : Nat → Int
  | 0 => 0
  | k + 1 => sumRL l k + stepL l k
theorem sumR_list (s : ByteArray) : ∀ k, sumR s k = sumRL s.data.toList k
  | 0 => rfl
  | k + 1 => by
    have h := sumR_list s k
    unfold sumR sumRL
    rw [h]
    rfl
theorem stepL_cons (c : UInt8) (t : List UInt8) (k : Nat) : stepL (c :: t) (k + 1) = stepL t k := by
  unfold stepL worthL
  simp
theorem sumRL_cons (c : UInt8) (t : List UInt8) : ∀ n, sumRL (c :: t) (n + 1) = stepL (c :: t) 0 + sumRL t n
  | 0 => by simp [sumRL]
  | n + 1 => by
    have h := sumRL_cons c t n
    rw [sumRL, h, stepL_cons]
    show _ = _ + (sumRL t n + stepL t n)
    omega
/-- What the signs are worth, from the left. -/
def sumL : List UInt8 → Int
  | [] => 0
  | [c] => worth (c.toNat : Int)
  | c :: d :: l => (if worth (c.toNat : Int) < worth (d.toNat : Int) then -worth (c.toNat : Int) else worth (c.toNat : Int)) + sumL (d :: l)
theorem sumRL_all : ∀ l : List UInt8, sumRL l l.length = sumL l
  | [] => rfl
  | [c] => by simp [sumRL, sumL, stepL, worthL]
  | c :: d :: l => by
    rw [List.length_cons, sumRL_cons, sumRL_all (d :: l)]
    have : stepL (c :: d :: l) 0 = if worth (c.toNat : Int) < worth (d.toNat : Int) then -worth (c.toNat : Int) else worth (c.toNat : Int) := by
      unfold stepL worthL
      simp
    rw [this]
    rfl
theorem sumL_append (m : Int) : ∀ l1 l2 : List UInt8, (∀ x ∈ l1, m ≤ worth (x.toNat : Int)) → (∀ y, l2.head? = some y → worth (y.toNat : Int) ≤ m) → sumL (l1 ++ l2) = sumL l1 + sumL l2
  | [], l2, _, _ => by simp [sumL]
  | [c], [], _, _ => by simp [sumL]
  | [c], d :: l2, h1, h2 => by
    have a := h1 c (by simp)
    have b := h2 d rfl
    show (if worth (c.toNat : Int) < worth (d.toNat : Int) then -worth (c.toNat : Int) else worth (c.toNat : Int)) + sumL (d :: l2) = worth (c.toNat : Int) + sumL (d :: l2)
    rw [if_neg (by omega)]
  | c :: d :: l1, l2, h1, h2 => by
    have ih := sumL_append m (d :: l1) l2 (fun x hx => h1 x (by simp at hx ⊢; exact .inr hx)) h2
    show (if worth (c.toNat : Int) < worth (d.toNat : Int) then -worth (c.toNat : Int) else worth (c.toNat : Int)) + sumL ((d :: l1) ++ l2) = ((if worth (c.toNat : Int) < worth (d.toNat : Int) then -worth (c.toNat : Int) else worth (c.toNat : Int)) + sumL (d :: l1)) + sumL l2
    rw [ih]
    omega
theorem digL_mem {d : Nat} {a b c x : UInt8} (h : x ∈ digL d a b c) : x = a ∨ x = b ∨ x = c := by
  unfold digL at h
  split at h <;> simp at h <;> rcases h with h | h | h | h <;> simp_all
theorem digL_head {d : Nat} {a b c y : UInt8} {r : List UInt8} (h : (digL d a b c ++ r).head? = some y) : y = a ∨ y = b ∨ r.head? = some y := by
  unfold digL at h
  split at h <;> simp at h <;> simp_all
theorem sum_dig (d : Nat) (h : d < 10) : sumL (digL d 67 68 77) = 100 * (d : Int) ∧ sumL (digL d 88 76 67) = 10 * (d : Int) ∧ sumL (digL d 73 86 88) = (d : Int) := by
  have : d = 0 ∨ d = 1 ∨ d = 2 ∨ d = 3 ∨ d = 4 ∨ d = 5 ∨ d = 6 ∨ d = 7 ∨ d = 8 ∨ d = 9 := by omega
  rcases this with rfl | rfl | rfl | rfl | rfl | rfl | rfl | rfl | rfl | rfl <;> decide
theorem sum_many (k : Nat) (h : k < 4) : sumL (manyL 77 k) = 1000 * (k : Int) := by
  have : k = 0 ∨ k = 1 ∨ k = 2 ∨ k = 3 := by omega
  rcases this with rfl | rfl | rfl | rfl <;> decide
theorem sum_roman (n : Nat) (h : n < 4000) : sumL (roman n) = (n : Int) := by
  unfold roman
  rw [List.append_assoc, List.append_assoc, sumL_append 1000, sumL_append 100, sumL_append 10, sum_many _ (by omega), (sum_dig (n / 100 % 10) (by omega)).1, (sum_dig (n / 10 % 10) (by omega)).2.1, (sum_dig (n % 10) (by omega)).2.2]
  · omega
  · intro x hx
    rcases digL_mem hx with rfl | rfl | rfl <;> decide
  · intro y hy
    have hy' : (digL (n % 10) 73 86 88 ++ []).head? = some y := by rw [List.append_nil]; exact hy
    rcases digL_head hy' with rfl | rfl | h
    · decide
    · decide
    · simp at h
  · intro x hx
    rcases digL_mem hx with rfl | rfl | rfl <;> decide
  · intro y hy
    rcases digL_head hy with rfl | rfl | hy
    · decide
    · decide
    have hy' : (digL (n % 10) 73 86 88 ++ []).head? = some y := by rw [List.append_nil]; exact hy
    rcases digL_head hy' with rfl | rfl | h
    · decide
    · decide
    · simp at h
  · intro x hx
    have : x = 77 := List.eq_of_mem_replicate hx
    subst this
    decide
  · intro y hy
    rcases digL_head hy with rfl | rfl | hy
    · decide
    · decide
    rcases digL_head hy with rfl | rfl | hy
    · decide
    · decide
    have hy' : (digL (n % 10) 73 86 88 ++ []).head? = some y := by rw [List.append_nil]; exact hy
    rcases digL_head hy' with rfl | rfl | h
    · decide
    · decide
    · simp at h
theorem roman_back (g : Int) (h0 : 1 ≤ g) (h1 : g ≤ 3999) : getRoman (putRoman g) = g := by
  have hl : (putRoman g).data.toList = roman g.toNat := by unfold putRoman; rw [if_pos ⟨h0, h1⟩]
  have hs : sumR (putRoman g) (putRoman g).size = g := by
    rw [sumR_list]
    show sumRL (putRoman g).data.toList (putRoman g).data.toList.length = g
    rw [sumRL_all, hl, sum_roman _ (by omega)]
    omega
  rw [get_sum _ (by rw [hs]), hs]
theorem roman_some (g : Int) (h0 : 1 ≤ g) (h1 : g ≤ 3999) : (putRoman g).size ≠ 0 := by
  intro h
  have e := roman_back g h0 h1
  rw [get_empty _ h] at e
  omega
end Go.Proofs.YtcdcniniafejbaaGreatDoor.ctr

namespace Go.Proofs.YtcdcniniafejbaaGreatDoor.ctr
open Go.RowKit

def noText : ByteArray := ⟨#[]⟩
theorem parts_none (s : ByteArray) (g : Int) : ∀ k, (∀ j, j < k → bAt s j ≠ g) → partsTo s g k = [] ∧ startAt s g k = 0
  | 0, _ => ⟨rfl, rfl⟩
  | k + 1, h => by
    obtain ⟨h1, h2⟩ := parts_miss s g k (h k (by omega))
    obtain ⟨h3, h4⟩ := parts_none s g k (fun j hj => h j (by omega))
    exact ⟨h1.trans h3, h2.trans h4⟩
theorem parts_run (s : ByteArray) (g : Int) (a : Nat) : ∀ n, (∀ j, a ≤ j → j < a + n → bAt s j ≠ g) → partsTo s g (a + n) = partsTo s g a ∧ startAt s g (a + n) = startAt s g a
  | 0, _ => ⟨rfl, rfl⟩
  | n + 1, h => by
    obtain ⟨h1, h2⟩ := parts_miss s g (a + n) (h (a + n) (by omega) (by omega))
    obtain ⟨h3, h4⟩ := parts_run s g a n (fun j h1 h2 => h j h1 (by omega))
    exact ⟨h1.trans h3, h2.trans h4⟩
theorem parts_mono (s : ByteArray) (g : Int) (a : Nat) : ∀ n, (partsTo s g a).length ≤ (partsTo s g (a + n)).length
  | 0 => Nat.le_refl _
  | n + 1 => by
    have ih := parts_mono s g a n
    show _ ≤ (partsTo s g ((a + n) + 1)).length
    rw [partsTo]
    split
    · rw [List.length_append]; omega
    · exact ih
theorem ext_all (s : ByteArray) : s.extract 0 s.size = s := ByteArray.extract_zero_size
theorem bAt_ext (s : ByteArray) (a k : Nat) : bAt (s.extract a s.size) k = bAt s (a + k) := by
  unfold bAt
  have h1 : (s.extract a s.size).data.toList = (s.data.toList.drop a) := by
    rw [Lib.extract_eq]
    show (List.take (s.size - a) (List.drop a s.data.toList)) = _
    rw [List.take_of_length_le (by rw [List.length_drop]; exact Nat.le_refl _)]
  rw [h1, List.getD, List.getD, List.getElem?_drop]
theorem cut_none (s : ByteArray) (g : Int) (h : ∀ j, j < s.size → bAt s j ≠ g) : cut s g = [s] := by
  obtain ⟨h1, h2⟩ := parts_none s g s.size h
  unfold cut
  rw [h1, h2, ext_all]
  rfl
theorem parts_short (s : ByteArray) (g : Int) : ∀ k, ∀ x ∈ partsTo s g k, x.size ≤ s.size
  | 0, x, h => by simp [partsTo] at h
  | k + 1, x, h => by
    rw [partsTo] at h
    split at h
    · rcases List.mem_append.1 h with h | h
      · exact parts_short s g k x h
      · have : x = s.extract (startAt s g k) k := by simpa using h
        rw [this, ByteArray.size_extract]
        omega
    · exact parts_short s g k x h
theorem cut_short (s : ByteArray) (g : Int) (i : Nat) : ((cut s g).getD i ⟨#[]⟩).size ≤ s.size := by
  by_cases hi : i < (cut s g).length
  · have hm : (cut s g).getD i ⟨#[]⟩ ∈ cut s g := by
      rw [List.getD, List.getElem?_eq_getElem hi]
      exact List.getElem_mem _
    unfold cut at hm
    rcases List.mem_append.1 hm with h | h
    · exact parts_short s g _ _ h
    · have : (cut s g).getD i ⟨#[]⟩ = s.extract (startAt s g s.size) s.size := by simpa [cut] using h
      rw [this, ByteArray.size_extract]
      omega
  · rw [List.getD, List.getElem?_eq_none (by omega)]
    exact Nat.zero_le _

theorem cut_long (s : ByteArray) (g : Int) : (cut s g).length ≤ s.size + 1 := by
  have := parts_len s g s.size
  unfold cut
  rw [List.length_append]
  simp
  omega
theorem empty_yes {b : ByteArray} (h : b.size = 0) : b.toList.isEmpty = true := by
  rw [ByteArray.toList_eq]
  simp
  exact Array.eq_empty_of_size_eq_zero h
theorem empty_no {b : ByteArray} (h : b.size ≠ 0) : b.toList.isEmpty = false := by
  rw [ByteArray.toList_eq]
  simp
  intro e
  exact h (by show b.data.size = 0; rw [e]; rfl)
theorem readDec_sign (b : ByteArray) (k : Nat) (h : k < b.size) (hk : bAt b k < 48) : readDec b = -1 := by
  apply read_stop b k h
  have h1 := bAt_eq b k h
  unfold digB
  exact inB_false (.inl (by omega))
/-- The first sign of a kind, or none. -/
theorem cut_first (s : ByteArray) (g : UInt8) : (∃ p : Nat, p < s.size ∧ Lib.indexByte s.data.toList g = p ∧ bAt s p = (g.toNat : Int) ∧ ∀ j, j < p → bAt s j ≠ (g.toNat : Int)) ∨ (Lib.indexByte s.data.toList g = -1 ∧ ∀ j, j < s.size → bAt s j ≠ (g.toNat : Int)) := by
  have key : ∀ j, j < s.size → (bAt s j = (g.toNat : Int) ↔ s.data.toList[j]? = some g) := fun j hj => by
    have hl : j < s.data.toList.length := hj
    unfold bAt
    rw [List.getD, List.getElem?_eq_getElem hl]
    constructor
    · intro h
      simp only [Option.getD_some] at h
      have : (s.data.toList[j]).toNat = g.toNat := by omega
      rw [show s.data.toList[j] = g from UInt8.toNat_inj.1 this]
    · intro h
      rw [Option.some.inj h]
      rfl
  by_cases h : Lib.indexByte s.data.toList g = -1
  · exact .inr ⟨h, fun j hj e => Lib.indexByte_none h j ((key j hj).1 e)⟩
  · have hge := Lib.indexByte_ge s.data.toList g
    obtain ⟨p, hp⟩ := Int.eq_ofNat_of_zero_le (show 0 ≤ Lib.indexByte s.data.toList g by omega)
    obtain ⟨f1, f2⟩ := Lib.indexByte_some hp
    have hps : p < s.size := by
      have : p < s.data.toList.length := (List.getElem?_eq_some_iff.1 f1).1
      exact this
    exact .inl ⟨p, hps, hp, (key p hps).2 f1, fun j hj e => f2 j hj ((key j (by omega)).1 e)⟩
/-- A text with one sign of a kind is cut into two. -/
theorem cut_two (s : ByteArray) (g : Int) (p : Nat) (hp : p < s.size) (hat : bAt s p = g) (hno : ∀ j, j < p → bAt s j ≠ g) (hr : ∀ j, p < j → j < s.size → bAt s j ≠ g) : cut s g = [s.extract 0 p, s.extract (p + 1) s.size] := by
  obtain ⟨a1, a2⟩ := parts_none s g p hno
  obtain ⟨b1, b2⟩ := parts_hit s g p hat
  rw [a1, a2] at b1
  have hrun := parts_run s g (p + 1) (s.size - (p + 1)) (fun j h1 h2 h3 => hr j (by omega) (by omega) h3)
  rw [show p + 1 + (s.size - (p + 1)) = s.size from by omega, b1, b2] at hrun
  unfold cut
  rw [hrun.1, hrun.2]
  rfl
/-- A text with two signs of a kind is cut into more than two. -/
theorem cut_more (s : ByteArray) (g : Int) (p q : Nat) (hpq : p < q) (hq : q < s.size) (hat : bAt s p = g) (h3 : bAt s q = g) : 2 < (cut s g).length := by
  have c0 := (parts_hit s g p hat).1
  have c1 := parts_mono s g (p + 1) (q - (p + 1))
  have c2 := (parts_hit s g q h3).1
  have c3 := parts_mono s g (q + 1) (s.size - (q + 1))
  rw [show p + 1 + (q - (p + 1)) = q from by omega] at c1
  rw [show q + 1 + (s.size - (q + 1)) = s.size from by omega] at c3
  have c4 : (partsTo s g (q + 1)).length = (partsTo s g q).length + 1 := by rw [c2, List.length_append]; rfl
  have c5 : (partsTo s g (p + 1)).length = (partsTo s g p).length + 1 := by rw [c0, List.length_append]; rfl
  unfold cut
  rw [List.length_append]
  simp
  omega
theorem dec_size {e : Int} (h0 : 0 ≤ e) (h1 : e ≤ 9999) : (itoaB e).size ≤ 4 := by
  have hi : Lib.itoa e = Lib.decDigits e.toNat := by unfold Lib.itoa; rw [if_neg (by omega)]
  have hs : (itoaB e).size = (Lib.decDigits e.toNat).length := by show (Lib.itoa e).length = _; rw [hi]
  have hp : (10 : Nat) ^ (3 + 1) = 10000 := by decide
  rw [hs]
  exact dec_len 3 e.toNat (by rw [hp]; omega)
end Go.Proofs.YtcdcniniafejbaaGreatDoor.ctr

namespace Go.Proofs.YtcdcniniafejbaaGreatDoor.ctr
open Go.RowKit

/-- The value is a slice whose elements are these texts. -/
def StrRow (W : World) (v : Value) (xs : List ByteArray) : Prop :=
  ∃ a cap, v = .slice a xs.length cap ∧ (xs = [] ∨ ∃ g, a = some ⟨g, 0, none⟩ ∧ ∀ j, j < xs.length → W.cell? ⟨g, j, none⟩ = some (.string (xs.getD j ⟨#[]⟩)))
theorem StrRow.at {W : World} {v : Value} {xs : List ByteArray} (h : StrRow W v xs) : ∃ a cap, v = .slice a xs.length cap ∧ ∀ k, k < xs.length → ∃ g, a = some ⟨g, 0, none⟩ ∧ W.cell? ⟨g, k, none⟩ = some (.string (xs.getD k ⟨#[]⟩)) := by
  obtain ⟨a, cap, hv, hc⟩ := h
  refine ⟨a, cap, hv, fun k hk => ?_⟩
  rcases hc with rfl | ⟨g, ha, hc⟩
  · simp at hk
  · exact ⟨g, ha, hc k hk⟩

/-- A list's own row that can be written. -/
def OwnRow (W : World) (g n : Nat) : Prop := ∀ j, j < n → (∃ u, W.cell? ⟨g, j, none⟩ = some u) ∧ W.frozen? ⟨g, j, none⟩ = false
theorem mset_size (w : World) (p : Addr) (v : Value) : (w.setCell p v).heap.size = w.heap.size := by simp [World.setCell]
/-- The row g holds these texts. -/
def StrAt (W : World) (g : Nat) (xs : List ByteArray) : Prop := ∀ j, j < xs.length → W.cell? ⟨g, j, none⟩ = some (.string (xs.getD j ⟨#[]⟩))
theorem StrAt.row {W : World} {g cap : Nat} {xs : List ByteArray} (h : StrAt W g xs) : StrRow W (.slice (some ⟨g, 0, none⟩) xs.length cap) xs := ⟨_, _, rfl, .inr ⟨g, rfl, h⟩⟩
theorem StrAt.below {W W' : World} {g : Nat} {xs : List ByteArray} (h : StrAt W g xs) {B : Nat} (hb : Below B W W') (hg : g < B) : StrAt W' g xs := fun j hj => (hb.cell (p := ⟨g, j, none⟩) hg).trans (h j hj)
theorem StrAt.grown {W W' : World} {g r : Nat} {xs : List ByteArray} (h : StrAt W g xs) (hb : W.grownBy W' (some r)) (hg : g < W.heap.size) (hr : g ≠ r) : StrAt W' g xs := fun j hj =>
  (World.cell?_of_block (hb.block g hg (by intro e; exact hr (Option.some.inj e)))).trans (h j hj)
theorem own_row {W : World} {base : Nat} {v : Value} {xs : List ByteArray} (h : W.ownsRow base 9 1 v xs.length (xs.map Value.string)) (hx : xs ≠ []) :
    ∃ g cap, v = .slice (some ⟨g, 0, none⟩) xs.length cap ∧ base ≤ g ∧ g < W.heap.size ∧ StrAt W g xs ∧ OwnRow W g xs.length := by
  rcases h.2 with ⟨_, h0⟩ | ⟨g, cap, cur, hv, hb, hh, hcap, _, hsz, htake⟩
  · exact absurd (List.length_eq_zero_iff.1 h0) hx
  · subst hv
    have hlt : g < W.heap.size := (Array.getElem?_eq_some_iff.1 hh).1
    have hcell : ∀ j, j < xs.length → W.cell? ⟨g, j, none⟩ = some (.string (xs.getD j ⟨#[]⟩)) := fun j hj => by
      have := h.cellAt j (by omega)
      rw [this]
      simp [List.getD, hj]
    refine ⟨g, cap, rfl, hb, hlt, hcell, fun j hj => ⟨⟨_, hcell j hj⟩, ?_⟩⟩
    simp [World.frozen?, hh]
theorem cut_ne (s : ByteArray) (g : Int) : cut s g ≠ [] := by unfold cut; simp
end Go.Proofs.YtcdcniniafejbaaGreatDoor.ctr

namespace Go.Proofs.YtcdcniniafejbaaGreatDoor.ctr
open Go.RowKit

set_option maxHeartbeats 1000000 in
theorem signValue (x : Int) (w : World) : Calls Tryz.prog 79 #[.int .u8 x] w fun e w' => e = .returned (.int .i64 (worth x)) ∧ w' = w := by
  by_cases c1 : x = 73
  · subst c1; go_enter Tryz.func79, Tryz.ntmps79; go_wp2; go_ret; exact ⟨rfl, rfl⟩
  by_cases c2 : x = 86
  · subst c2; go_enter Tryz.func79, Tryz.ntmps79; go_wp2; go_ret; exact ⟨rfl, rfl⟩
  by_cases c3 : x = 88
  · subst c3; go_enter Tryz.func79, Tryz.ntmps79; go_wp2; go_ret; exact ⟨rfl, rfl⟩
  by_cases c4 : x = 76
  · subst c4; go_enter Tryz.func79, Tryz.ntmps79; go_wp2; go_ret; exact ⟨rfl, rfl⟩
  by_cases c5 : x = 67
  · subst c5; go_enter Tryz.func79, Tryz.ntmps79; go_wp2; go_ret; exact ⟨rfl, rfl⟩
  by_cases c6 : x = 68
  · subst c6; go_enter Tryz.func79, Tryz.ntmps79; go_wp2; go_ret; exact ⟨rfl, rfl⟩
  by_cases c7 : x = 77
  · subst c7; go_enter Tryz.func79, Tryz.ntmps79; go_wp2; go_ret; exact ⟨rfl, rfl⟩
  have HW : Hid (worth x = 0) := by unfold Hid worth; simp [c1, c2, c3, c4, c5, c6, c7]
  go_enter Tryz.func79, Tryz.ntmps79
  go_wp2
  go_ret
  exact ⟨ret_int HW.out.symm, rfl⟩

set_option maxHeartbeats 1000000 in
theorem implGetRoman (s : ByteArray) (w : World) (hs : s.size ≤ 1048576) (hT : kit.StrIs Tryz.prog w "loop.example/g00638/impl.digitShapes" shapes) :
    Calls Tryz.prog 48 #[.string s] w fun e w' => e = .returned (.int .i64 (getRoman s)) ∧ Below w.heap.size w w' := by
  have HTab : Hid (kit.StrIs Tryz.prog w "loop.example/g00638/impl.digitShapes" shapes) := hT
  clear hT
  go_enter Tryz.func48, Tryz.ntmps48
  go_wp2
  go_loop [3, 8] (fun n i => ∃ (k : Nat) (v : Int), k ≤ s.size ∧ i = .int .i64 k ∧ n = .int .i64 v ∧ -1048576000 ≤ v ∧ v ≤ 1048576000 ∧ Hid (v = sumR s k)) (fun _ i => s.size - (intOf i).toNat)
  case atStart => exact ⟨0, 0, Nat.zero_le _, rfl, rfl, by omega, by omega, rfl⟩
  case round =>
    obtain ⟨k, v, hk, rfl, rfl, v0, v1, HV⟩ := hrel
    by_cases hlt : k < s.size
    · have hx := byteAt_eq s k hlt
      obtain ⟨u0, u1⟩ := worth_bd (byteAt s k)
      have hsb := sum_bd s (k + 1)
      obtain ⟨sb0, sb1⟩ : -1048576000 ≤ sumR s (k + 1) ∧ sumR s (k + 1) ≤ 1048576000 := by omega
      clear hsb
      have HS : Hid (sumR s (k + 1) = v + stepAt s k) := by unfold Hid; rw [HV.out]; rfl
      by_cases hn : k + 1 < s.size
      · have hx2 := byteAt_eq s (k + 1) hn
        obtain ⟨y0, y1⟩ := worth_bd (byteAt s (k + 1))
        by_cases hg : worth (byteAt s k) < worth (byteAt s (k + 1))
        · have HT : Hid (stepAt s k = -worth (byteAt s k)) := by unfold Hid stepAt; rw [if_pos ⟨hn, hg⟩]
          go_wp2_with (go_at_call 79; refine (signValue _ _).mono ?_; rintro e w' ⟨rfl, rfl⟩)
          exact ⟨⟨k + 1, sumR s (k + 1), by omega, by go_num, by rw [HS.out, HT.out], sb0, sb1, rfl⟩, by simp [intOf]; omega⟩
        · have HT : Hid (stepAt s k = worth (byteAt s k)) := by unfold Hid stepAt; rw [if_neg (by omega)]
          go_wp2_with (go_at_call 79; refine (signValue _ _).mono ?_; rintro e w' ⟨rfl, rfl⟩)
          exact ⟨⟨k + 1, sumR s (k + 1), by omega, by go_num, by rw [HS.out, HT.out], sb0, sb1, rfl⟩, by simp [intOf]; omega⟩
      · have HT : Hid (stepAt s k = worth (byteAt s k)) := by unfold Hid stepAt; rw [if_neg (by omega)]
        go_wp2_with (go_at_call 79; refine (signValue _ _).mono ?_; rintro e w' ⟨rfl, rfl⟩)
        exact ⟨⟨k + 1, sumR s (k + 1), by omega, by go_num, by rw [HS.out, HT.out], sb0, sb1, rfl⟩, by simp [intOf]; omega⟩
    · have hks : k = s.size := by omega
      cases hq : ((putRoman v).toList == s.toList)
      · have HB : Hid (getRoman s = 0) := get_zero s (by rw [← hks, ← HV.out]; exact str_ne hq)
        clear hks
        go_wp2_with (go_at_call 42; refine (implPutRoman _ _ HTab.out).mono ?_; rintro e w' ⟨rfl, hb⟩)
        go_ret
        exact ⟨ret_int HB.out.symm, hb⟩
      · have HB : Hid (getRoman s = v) := by unfold Hid; rw [HV.out, hks]; exact get_sum s (by rw [← hks, ← HV.out]; exact str_eq hq)
        clear hks
        go_wp2_with (go_at_call 42; refine (implPutRoman _ _ HTab.out).mono ?_; rintro e w' ⟨rfl, hb⟩)
        go_ret
        exact ⟨ret_int HB.out.symm, hb⟩
end Go.Proofs.YtcdcniniafejbaaGreatDoor.ctr

namespace Go.Proofs.YtcdcniniafejbaaGreatDoor.ctr
open Go.RowKit

theorem run_ahead (s : ByteArray) (p : Nat) (hp : p < s.size) (w : World) : (Instr.slice 9 (.string s) none (some (.int .i64 (p : Int))) none).run Tryz.prog w = .ok (.string (s.extract 0 p)) w :=
  (run_slice_string_h (P := Tryz.prog) (w := w) (t := 9) (s := s) (ht := Tryz.underlying9) .i64 (p : Int) (by omega) (by omega)).trans (by rw [show ((p : Int)).toNat = p from by omega])
theorem run_behind (s : ByteArray) (p : Nat) (hp : p < s.size) (w : World) : (Instr.slice 9 (.string s) (some (.int .i64 ((p : Int) + 1))) none none).run Tryz.prog w = .ok (.string (s.extract (p + 1) s.size)) w :=
  (run_slice_string_l (P := Tryz.prog) (w := w) (t := 9) (s := s) (ht := Tryz.underlying9) .i64 ((p : Int) + 1) (by omega) (by omega)).trans (by rw [show ((p : Int) + 1).toNat = p + 1 from by omega])
set_option maxHeartbeats 1000000 in
theorem cutHit (s : ByteArray) (g : UInt8) (p : Nat) (w : World) (hs : s.size ≤ 1048576) (hp : p < s.size) (hix : Lib.indexByte s.data.toList g = p) : Calls Tryz.prog 78 #[.string s, .string ⟨#[g]⟩] w fun e w' => e = .returned (.tuple #[.string (s.extract 0 p), .string (s.extract (p + 1) s.size), .bool true]) ∧ Below w.heap.size w w' := by
  have KI : ∀ W, Calls Tryz.prog 112 #[.string s, .string ⟨#[g]⟩] W fun e w' => e = .returned (.int .i64 (p : Int)) ∧ w' = W := fun W => by rw [← hix]; exact Tryz.stringslite_Index_one s g W
  have h1 := run_ahead s p hp
  have h2 := run_behind s p hp
  have hwr : IntKind.i64.wrap ((p : Int) + 1) = (p : Int) + 1 := by rw [PlainAid.i64_is]; unfold wrap64; omega
  have hle : (p : Int) < (s.size : Int) := by omega
  have hle2 : (s.size : Int) ≤ 1048576 := by omega
  clear hix
  go_enter Tryz.func78, Tryz.ntmps78
  go_wp2_with fail
  refine (KI _).mono ?_
  rintro e w1 ⟨rfl, rfl⟩
  go_wp2
  go_region
  all_goals go_wp2
  all_goals go_ret3
  all_goals exact ⟨rfl, (Below.refl _ _).drew⟩
set_option maxHeartbeats 1000000 in
theorem cutMiss (s : ByteArray) (g : UInt8) (w : World) (hix : Lib.indexByte s.data.toList g = -1) : Calls Tryz.prog 78 #[.string s, .string ⟨#[g]⟩] w fun e w' => e = .returned (.tuple #[.string s, .string ⟨#[]⟩, .bool false]) ∧ Below w.heap.size w w' := by
  have KI : ∀ W, Calls Tryz.prog 112 #[.string s, .string ⟨#[g]⟩] W fun e w' => e = .returned (.int .i64 (-1)) ∧ w' = W := fun W => by rw [← hix]; exact Tryz.stringslite_Index_one s g W
  clear hix
  go_enter Tryz.func78, Tryz.ntmps78
  go_wp2_with fail
  refine (KI _).mono ?_
  rintro e w1 ⟨rfl, rfl⟩
  go_wp2
  go_ret3
  exact ⟨rfl, Below.refl _ _⟩
set_option maxHeartbeats 1000000 in
theorem cutFace (s a b : ByteArray) (g : UInt8) (f : Bool) (w : World) (h : Calls Tryz.prog 78 #[.string s, .string ⟨#[g]⟩] w fun e w' => e = .returned (.tuple #[.string a, .string b, .bool f]) ∧ Below w.heap.size w w') : Calls Tryz.prog 47 #[.string s, .string ⟨#[g]⟩] w fun e w' => e = .returned (.tuple #[.string a, .string b, .bool f]) ∧ Below w.heap.size w w' := by
  go_enter Tryz.func47, Tryz.ntmps47
  go_wp2_with fail
  refine h.mono ?_
  rintro e w1 ⟨rfl, hb⟩
  go_wp2
  go_ret3
  exact ⟨rfl, hb⟩
end Go.Proofs.YtcdcniniafejbaaGreatDoor.ctr

namespace Go.Proofs.YtcdcniniafejbaaGreatDoor.ctr
open Go.RowKit

section
variable {P : Program} {ops : Array Oper} {md : Region.Mode} {C : World → Prop}

theorem wpQuiet_mono {Q1 Q2 : Act → Prop} (hQ : ∀ a, Q1 a → Q2 a) : ∀ (l : List Oper) (a : Act), wpQuiet P ops C Q1 l a → wpQuiet P ops C Q2 l a
  | [], a, h => hQ a h
  | o :: l, a, h => by
    unfold wpQuiet at h ⊢
    split
    · rename_i hw
      rw [if_pos hw] at h
      exact Oper.quiet_mono (fun a' => wpQuiet_mono hQ l a') h
    · rename_i hw
      rw [if_neg hw] at h
      exact wpQuiet_mono hQ l _ h

/-- Whatever order is picked for the next m operations, all below N and all quiet; then R. -/
def wpMix (P : Program) (md : Region.Mode) (ops : Array Oper) (C : World → Prop) (N : Nat) (R : Array Bool → Act → Prop) : Nat → Array Bool → Act → Prop
  | 0, listed, a => R listed a
  | m + 1, listed, a => Region.ready md ops listed ≠ [] ∧ ∀ i ∈ Region.ready md ops listed, i < N ∧ qOp P ops C i (wpMix P md ops C N R m (listed.setIfInBounds i true)) a
/-- Each of the next n operations, in the order of the text, is ready when it comes, and apart from those that do not wait for it. -/
def lexP (md : Region.Mode) (ops : Array Oper) : Nat → Nat → Array Bool → Bool
  | 0, _, _ => true
  | n + 1, k, listed => (Region.ready md ops listed).contains k && Region.free md ops listed k && lexP md ops n (k + 1) (listed.setIfInBounds k true)
def setN : Nat → Nat → Array Bool → Array Bool
  | 0, _, l => l
  | n + 1, k, l => setN n (k + 1) (l.setIfInBounds k true)
/-- Each operation below N - 1 is waited for by a later one below N. -/
def linkB (md : Region.Mode) (ops : Array Oper) (N : Nat) : Bool := (List.range (N - 1)).all fun i => (List.range N).any fun k => decide (i < k) && ((ops[k]?).map fun o => o.after.any fun e => Region.binds md e && e.on == i).getD false
/-- Each operation from N on waits for number N - 1, or for one from N on. -/
def waitB (md : Region.Mode) (ops : Array Oper) (N : Nat) : Bool := (List.range ops.size).all fun j => decide (j < N) || ((ops[j]?).map fun o => o.after.any fun e => Region.binds md e && (e.on == N - 1 || (decide (N ≤ e.on) && decide (e.on < ops.size)))).getD false
def Closed (md : Region.Mode) (ops : Array Oper) (listed : Array Bool) : Prop := ∀ j o, ops[j]? = some o → listed.getD j false = true → ∀ e ∈ o.after, Region.binds md e = true → listed.getD e.on false = true
def Above (ops : Array Oper) (N : Nat) (listed : Array Bool) : Prop := ∀ j, N ≤ j → j < ops.size → listed.getD j true = false
theorem yes_no {listed : Array Bool} {i : Nat} (h : listed.getD i false = true) (h' : listed.getD i true = false) : False := by
  rcases Nat.lt_or_ge i listed.size with k | k
  · simp [k] at h h'
    rw [h] at h'
    cases h'
  · simp [Array.getElem?_eq_none k] at h
theorem closed_set {listed : Array Bool} (h : Closed md ops listed) {j : Nat} (hj : j ∈ Region.ready md ops listed) : Closed md ops (listed.setIfInBounds j true) := fun k o ho hk e he hb => by
  by_cases hkj : j = k
  · subst hkj
    obtain ⟨_, o', ho', hall⟩ := mem_ready.1 hj
    obtain rfl := Option.some.inj (ho.symm.trans ho')
    exact getD_set_true (hall e he hb)
  · rw [getD_set_ne false hkj] at hk
    exact getD_set_true (h k o ho hk e he hb)
theorem above_set {listed : Array Bool} {N : Nat} (h : Above ops N listed) {j : Nat} (hj : j < N) : Above ops N (listed.setIfInBounds j true) := fun k hk hs => by
  rw [getD_set_ne true (by omega)]
  exact h k hk hs
theorem all_below {listed : Array Bool} {N : Nat} (hc : Closed md ops listed) (hl : linkB md ops N = true) (hN : listed.getD (N - 1) false = true) : ∀ (d i : Nat), i + d = N - 1 → i < N → listed.getD i false = true := by
  intro d
  induction d using Nat.strongRecOn with
  | ind d ih =>
    intro i hid hi
    by_cases hd : d = 0
    · rw [show i = N - 1 by omega]
      exact hN
    · have h1 := List.all_eq_true.1 hl i (List.mem_range.2 (by omega))
      obtain ⟨k, hk, h2⟩ := List.any_eq_true.1 h1
      have hkN := List.mem_range.1 hk
      simp only [Bool.and_eq_true, decide_eq_true_eq] at h2
      obtain ⟨hik, h3⟩ := h2
      cases ho : ops[k]? with
      | none => simp [ho] at h3
      | some o =>
        simp only [ho, Option.map_some, Option.getD_some] at h3
        obtain ⟨x, hx, hxe⟩ := Array.any_eq_true'.1 h3
        simp only [Bool.and_eq_true, beq_iff_eq] at hxe
        have hkl := ih (N - 1 - k) (by omega) k (by omega) hkN
        have := hc k o ho hkl x hx hxe.1
        rw [hxe.2] at this
        exact this
theorem wait_for {listed : Array Bool} {N : Nat} (hc : Closed md ops listed) (ha : Above ops N listed) (hl : linkB md ops N = true) (hw : waitB md ops N = true) {i j : Nat} (hi : i < N) (hun : listed.getD i true = false) (hj : j ∈ Region.ready md ops listed) : j < N := by
  rcases Nat.lt_or_ge j N with h | h
  · exact h
  · exfalso
    obtain ⟨_, o, ho, hall⟩ := mem_ready.1 hj
    have hsz : j < ops.size := (Array.getElem?_eq_some_iff.1 ho).1
    have h1 := List.all_eq_true.1 hw j (List.mem_range.2 hsz)
    simp only [ho, Option.map_some, Option.getD_some, Bool.or_eq_true, decide_eq_true_eq] at h1
    rcases h1 with h1 | h1
    · omega
    · obtain ⟨x, hx, hxe⟩ := Array.any_eq_true'.1 h1
      simp only [Bool.and_eq_true, Bool.or_eq_true, beq_iff_eq, decide_eq_true_eq] at hxe
      have hlx := hall x hx hxe.1
      rcases hxe.2 with e | ⟨e1, e2⟩
      · rw [e] at hlx
        exact yes_no (all_below hc hl hlx (N - 1 - i) i (by omega) hi) hun
      · exact yes_no hlx (ha x.on e1 e2)
theorem wpAny_of_mix {N : Nat} {R : Array Bool → Act → Prop} {Q' : Exit → Act → World → Prop} {f : Nat} (hR : ∀ listed a w, C w → R listed a → wpAny P md ops Q' f listed a w) :
    ∀ (m : Nat) (listed : Array Bool) (a : Act) (w : World), C w → wpMix P md ops C N R m listed a → wpAny P md ops Q' (f + m) listed a w
  | 0, _, _, _, hw, h => hR _ _ _ hw h
  | m + 1, _, _, _, hw, h => ⟨fun h0 => absurd h0 h.1, fun i hi => wpOp_of_qOp hw (fun a' w' hw' k => wpAny_of_mix hR m _ a' w' hw' k) (h.2 i hi).2⟩
theorem mix_first {N : Nat} {R : Array Bool → Act → Prop} (hRl : ∀ listed a, R listed a → ∀ j, j < N → listed.getD j false = true) (hl : linkB md ops N = true) (hwt : waitB md ops N = true) {i : Nat} {oi : Oper} {v : Value} (hi : ops[i]? = some oi) (hN : i < N) (hsel : ∀ (j : Nat) (o : Oper) cs b, ops[j]? = some o → o.op ≠ .select cs b) :
    ∀ (m : Nat) (listed : Array Bool) (a : Act), Closed md ops listed → Above ops N listed →
      (∀ j oj, ops[j]? = some oj → j ≠ i → listed.getD j true = false → (∀ e ∈ oj.after, Region.binds md e = true → e.on ≠ i) → oi.apart ops oj = true) →
      i ∈ Region.ready md ops listed → YieldsIn P ops C oi v a →
      wpMix P md ops C N R m (listed.setIfInBounds i true) (a.put oi.dst v) → wpMix P md ops C N R (m + 1) listed a := by
  intro m
  induction m with
  | zero =>
    intro listed a hc ha _ hr hy H
    refine ⟨fun h => (by rw [h] at hr; cases hr), fun j hj => ?_⟩
    have hjN := wait_for hc ha hl hwt hN (mem_ready.1 hr).1 hj
    by_cases hji : j = i
    · subst hji
      exact ⟨hjN, hy.qOp hi H⟩
    · have h1 := hRl _ _ H j hjN
      rw [getD_set_ne false (Ne.symm hji)] at h1
      exact absurd (mem_ready.1 hj).1 (fun h => yes_no h1 h)
  | succ m ih =>
    intro listed a hc ha hfree hr hy H
    refine ⟨fun h => (by rw [h] at hr; cases hr), fun j hj => ?_⟩
    by_cases hji : j = i
    · subst hji
      exact ⟨hN, hy.qOp hi H⟩
    · obtain ⟨hjN, h1⟩ := H.2 j (ready_mono hj hji)
      refine ⟨hjN, ?_⟩
      obtain ⟨hjun, oj, hoj, hall⟩ := mem_ready.1 hj
      have hnot : ∀ e ∈ oj.after, Region.binds md e = true → e.on ≠ i := fun e he hb heq => by
        have k1 := hall e he hb
        rw [heq] at k1
        exact yes_no k1 (mem_ready.1 hr).1
      have h2 := qOp_put hoj (hfree j oj hoj hji hjun hnot) (fun cs b => hsel i oi cs b hi) (fun cs b => hsel j oj cs b hoj) hy h1
      have hfree' : ∀ k ok, ops[k]? = some ok → k ≠ i → (listed.setIfInBounds j true).getD k true = false → (∀ e ∈ ok.after, Region.binds md e = true → e.on ≠ i) → oi.apart ops ok = true := fun k ok hk hki hun hno => by
        refine hfree k ok hk hki ?_ hno
        by_cases hjk : j = k
        · subst hjk
          exact hjun
        · rw [getD_set_ne true hjk] at hun
          exact hun
      refine qOp_mono (fun a' h3 => ih (listed.setIfInBounds j true) a' (closed_set hc hj) (above_set ha hjN) hfree' (ready_mono hr (Ne.symm hji)) h3.1 ?_) h2
      rw [Array.setIfInBounds_comm _ _ hji]
      exact h3.2
theorem mix_lex {N : Nat} {R : Array Bool → Act → Prop} (hRl : ∀ listed a, R listed a → ∀ j, j < N → listed.getD j false = true) (hl : linkB md ops N = true) (hwt : waitB md ops N = true) (hs : Region.noSelect ops = true) : ∀ (l : List Oper) (k : Nat) (listed : Array Bool) (a : Act), k + l.length ≤ N → (∀ j, j < l.length → l[j]? = ops[k + j]?) →
    lexP md ops l.length k listed = true → Closed md ops listed → Above ops N listed → wpQuiet P ops C (fun a' => R (setN l.length k listed) a') l a → wpMix P md ops C N R l.length listed a
  | [], _, _, _, _, _, _, _, _, h => h
  | o :: l, k, listed, a, hk, hll, hB, hc, ha, h => by
    have h0 : ops[k]? = some o := by simpa using (hll 0 (by simp)).symm
    simp only [List.length_cons] at hk
    simp only [List.length_cons, lexP, Bool.and_eq_true] at hB
    obtain ⟨⟨hr, hf⟩, hB'⟩ := hB
    have hr' : k ∈ Region.ready md ops listed := by simpa using hr
    have hst : qOp P ops C k (wpQuiet P ops C (fun a' => R (setN (o :: l).length k listed) a') l) a := by unfold qOp; simp only [h0]; exact h
    obtain ⟨v, hy, hK⟩ := yieldsIn_of_qOp h0 hst
    exact mix_first hRl hl hwt h0 (by omega) (Region.noSelect_spec hs) l.length listed a hc ha (Region.free_spec h0 hf) hr' hy
      (mix_lex hRl hl hwt hs l (k + 1) _ _ (by omega) (fun j hj => by have := hll (j + 1) (by simpa using hj); simpa [Nat.add_assoc, Nat.add_comm 1 j] using this) hB' (closed_set hc hr') (above_set ha (by omega)) hK)
end
/-- The first n operations. -/
theorem any_prefix {P : Program} {C : World → Prop} {Q : Exit → Act → World → Prop} {big : List Oper} (n f : Nat) {a : Act} {w : World} (hn : n ≤ big.length) (hs : Region.noSelect big.toArray = true) (hB : lexP .any big.toArray n 0 (Array.replicate big.length false) = true) (hl : linkB .any big.toArray n = true) (hwt : waitB .any big.toArray n = true)
    (hA : ((List.range n).all fun j => (setN n 0 (Array.replicate big.length false)).getD j false) = true) (hw : C w)
    (h : wpQuiet P big.toArray C (fun a' => ∀ w', C w' → wpAny P .any big.toArray Q f (setN n 0 (Array.replicate big.length false)) a' w') (big.take n) a) : wpAny P .any big.toArray Q (f + n) (Array.replicate big.length false) a w := by
  have hlen : (big.take n).length = n := by rw [List.length_take]; omega
  have hAll : ∀ j, j < n → (setN n 0 (Array.replicate big.length false)).getD j false = true := fun j hj => List.all_eq_true.1 hA j (List.mem_range.2 hj)
  have hm := mix_lex (P := P) (md := .any) (ops := big.toArray) (C := C) (N := n) (R := fun listed a => (∀ j, j < n → listed.getD j false = true) ∧ ∀ w', C w' → wpAny P .any big.toArray Q f listed a w') (fun _ _ h => h.1) hl hwt hs (big.take n) 0 (Array.replicate big.length false) a (by omega)
    (fun j hj => by rw [hlen] at hj; simp [hj]) (by rw [hlen]; exact hB)
    (fun j o _ hj => by
      exfalso
      by_cases hjl : j < big.length
      · simp [hjl] at hj
      · simp [Array.getElem?_eq_none (show (Array.replicate big.length false).size ≤ j by simp; omega)] at hj)
    (fun j _ hj => by
      have hj' : j < big.length := by simpa using hj
      simp [hj'])
    (by rw [hlen]; exact wpQuiet_mono (fun a' h => ⟨hAll, h⟩) _ _ h)
  rw [hlen] at hm
  exact wpAny_of_mix (N := n) (R := fun listed a => (∀ j, j < n → listed.getD j false = true) ∧ ∀ w', C w' → wpAny P .any big.toArray Q f listed a w') (fun _ _ w h1 h2 => h2.2 w h1) n _ a w hw hm
/-- What is left, to the end, all quiet. -/
theorem any_rest {P : Program} {C : World → Prop} {Q : Exit → Act → World → Prop} {big : List Oper} (k n : Nat) {listed : Array Bool} {a : Act} {w : World} (hn : k + n = big.length) (hs : Region.noSelect big.toArray = true) (hB : Region.lexFrom .any big.toArray n k listed = true) (hw : C w)
    (h : wpQuiet P big.toArray C (fun a' => ∀ w', C w' → Q .normal a' w') (big.drop k) a) : wpAny P .any big.toArray Q n listed a w := by
  have hlen : (big.drop k).length = n := by rw [List.length_drop]; omega
  have := wpAnyQ_lex (P := P) (md := .any) (ops := big.toArray) (C := C) (Q := fun a' => ∀ w', C w' → Q .normal a' w') hs (big.drop k) k listed a (fun j => by simp) (by rw [hlen]; exact hB) h
  rw [hlen] at this
  exact wpAny_of_quiet (C := C) (fun _ w' hw' h => h w' hw') n listed a w hw this

section
variable {P : Program} {ops : Array Oper} {Q : Exit → Act → World → Prop} {md : Region.Mode}
theorem any_one {f i : Nat} {L : Array Bool} {a : Act} {w : World} (hr : Region.ready md ops L = [i]) (h : wpOp P ops Q i (wpAny P md ops Q f (L.setIfInBounds i true)) a w) : wpAny P md ops Q (f + 1) L a w :=
  ⟨fun h0 => (by rw [hr] at h0; cases h0), fun j hj => by rw [hr] at hj; obtain rfl : j = i := (by simpa using hj); exact h⟩
theorem any_two {f i k : Nat} {L : Array Bool} {a : Act} {w : World} (hr : Region.ready md ops L = [i, k]) (h : wpOp P ops Q i (wpAny P md ops Q f (L.setIfInBounds i true)) a w) (h' : wpOp P ops Q k (wpAny P md ops Q f (L.setIfInBounds k true)) a w) : wpAny P md ops Q (f + 1) L a w :=
  ⟨fun h0 => (by rw [hr] at h0; cases h0), fun j hj => by
    rw [hr] at hj
    have : j = i ∨ j = k := by simpa using hj
    rcases this with rfl | rfl
    · exact h
    · exact h'⟩
theorem any_three {f i k m : Nat} {L : Array Bool} {a : Act} {w : World} (hr : Region.ready md ops L = [i, k, m]) (h : wpOp P ops Q i (wpAny P md ops Q f (L.setIfInBounds i true)) a w) (h' : wpOp P ops Q k (wpAny P md ops Q f (L.setIfInBounds k true)) a w) (h'' : wpOp P ops Q m (wpAny P md ops Q f (L.setIfInBounds m true)) a w) : wpAny P md ops Q (f + 1) L a w :=
  ⟨fun h0 => (by rw [hr] at h0; cases h0), fun j hj => by
    rw [hr] at hj
    have : j = i ∨ j = k ∨ j = m := by simpa using hj
    rcases this with rfl | rfl | rfl
    · exact h
    · exact h'
    · exact h''⟩
theorem put_swap (a : Act) {x y : Tmp} (u v : Value) (h : x ≠ y) : (a.put (some x) u).put (some y) v = (a.put (some y) v).put (some x) u := Act.put_comm a u v (fun d hd => by cases hd; intro e; cases e; exact h rfl)
/-- Three moves i, j, k into x, y, z, and a call m into t that waits for j and k alone. -/
theorem any_call {f i j k m : Nat} {x y z t : Tmp} {vx vy vz : Value} {L : Array Bool} {a : Act} {w : World} {T : Value → World → Prop} (G : Act → Prop)
    (hxy : x ≠ y) (hxz : x ≠ z) (hxt : x ≠ t) (hyz : y ≠ z) (hij : i ≠ j) (hik : i ≠ k) (him : i ≠ m) (hjk : j ≠ k)
    (r0 : Region.ready md ops L = [i, j, k]) (r1 : Region.ready md ops (L.setIfInBounds i true) = [j, k]) (r2 : Region.ready md ops (L.setIfInBounds j true) = [i, k]) (r3 : Region.ready md ops (L.setIfInBounds k true) = [i, j])
    (r4 : Region.ready md ops ((L.setIfInBounds i true).setIfInBounds j true) = [k]) (r5 : Region.ready md ops ((L.setIfInBounds i true).setIfInBounds k true) = [j]) (r6 : Region.ready md ops ((L.setIfInBounds j true).setIfInBounds k true) = [i, m])
    (r7 : Region.ready md ops (((L.setIfInBounds i true).setIfInBounds j true).setIfInBounds k true) = [m]) (r8 : Region.ready md ops (((L.setIfInBounds j true).setIfInBounds k true).setIfInBounds m true) = [i])
    (g : G a) (gx : ∀ a' v, G a' → G (a'.put (some x) v)) (gy : ∀ a' v, G a' → G (a'.put (some y) v)) (gz : ∀ a' v, G a' → G (a'.put (some z) v)) (gt : ∀ a' v, G a' → G (a'.put (some t) v))
    (mi : ∀ a' w' K, G a' → K (a'.put (some x) vx) w' → wpOp P ops Q i K a' w') (mj : ∀ a' w' K, G a' → K (a'.put (some y) vy) w' → wpOp P ops Q j K a' w') (mk : ∀ a' w' K, G a' → K (a'.put (some z) vz) w' → wpOp P ops Q k K a' w')
    (mm : ∀ a' K, G a' → (∀ u w', T u w' → K (((a'.put (some y) vy).put (some z) vz).put (some t) u) w') → wpOp P ops Q m K ((a'.put (some y) vy).put (some z) vz) w)
    (F : ∀ u w', T u w' → wpAny P md ops Q f ((((L.setIfInBounds i true).setIfInBounds j true).setIfInBounds k true).setIfInBounds m true) ((((a.put (some x) vx).put (some y) vy).put (some z) vz).put (some t) u) w') : wpAny P md ops Q (f + 4) L a w := by
  have S7 : ∀ u w', T u w' → wpAny P md ops Q (f + 1) (((L.setIfInBounds j true).setIfInBounds k true).setIfInBounds m true) (((a.put (some y) vy).put (some z) vz).put (some t) u) w' := fun u w' hT => by
    refine any_one r8 (mi _ _ _ (gt _ _ (gz _ _ (gy _ _ g))) ?_)
    have h := F u w' hT
    rw [put_swap a vx vy hxy, put_swap _ vx vz hxz, put_swap _ vx u hxt, Array.setIfInBounds_comm _ _ hij, Array.setIfInBounds_comm _ _ hik, Array.setIfInBounds_comm _ _ him] at h
    exact h
  have S3 : wpAny P md ops Q (f + 1) (((L.setIfInBounds i true).setIfInBounds j true).setIfInBounds k true) (((a.put (some x) vx).put (some y) vy).put (some z) vz) w :=
    any_one r7 (mm _ _ (gx _ _ g) fun u w' hT => F u w' hT)
  have S56 : wpAny P md ops Q (f + 2) ((L.setIfInBounds j true).setIfInBounds k true) ((a.put (some y) vy).put (some z) vz) w := by
    refine any_two r6 (mi _ _ _ (gz _ _ (gy _ _ g)) ?_) (mm _ _ g fun u w' hT => S7 u w' hT)
    have h := S3
    rw [put_swap a vx vy hxy, put_swap _ vx vz hxz, Array.setIfInBounds_comm _ _ hij, Array.setIfInBounds_comm _ _ hik] at h
    exact h
  have S45 : wpAny P md ops Q (f + 2) ((L.setIfInBounds i true).setIfInBounds j true) ((a.put (some x) vx).put (some y) vy) w := any_one r4 (mk _ _ _ (gy _ _ (gx _ _ g)) S3)
  have S46 : wpAny P md ops Q (f + 2) ((L.setIfInBounds i true).setIfInBounds k true) ((a.put (some x) vx).put (some z) vz) w := by
    refine any_one r5 (mj _ _ _ (gz _ _ (gx _ _ g)) ?_)
    have h := S3
    rw [put_swap _ vy vz hyz, Array.setIfInBounds_comm _ _ hjk] at h
    exact h
  have S4 : wpAny P md ops Q (f + 3) (L.setIfInBounds i true) (a.put (some x) vx) w := any_two r1 (mj _ _ _ (gx _ _ g) S45) (mk _ _ _ (gx _ _ g) S46)
  have S5 : wpAny P md ops Q (f + 3) (L.setIfInBounds j true) (a.put (some y) vy) w := by
    refine any_two r2 (mi _ _ _ (gy _ _ g) ?_) (mk _ _ _ (gy _ _ g) S56)
    have h := S45
    rw [put_swap a vx vy hxy, Array.setIfInBounds_comm _ _ hij] at h
    exact h
  have S6 : wpAny P md ops Q (f + 3) (L.setIfInBounds k true) (a.put (some z) vz) w := by
    refine any_two r3 (mi _ _ _ (gz _ _ g) ?_) (mj _ _ _ (gz _ _ g) ?_)
    · have h := S46
      rw [put_swap a vx vz hxz, Array.setIfInBounds_comm _ _ hik] at h
      exact h
    · have h := S56
      rw [put_swap a vy vz hyz, Array.setIfInBounds_comm _ _ hjk] at h
      exact h
  exact any_three r0 (mi _ _ _ g S4) (mj _ _ _ g S5) (mk _ _ _ g S6)

theorem op_move {i : Nat} {o : Oper} {x : Operand} {d : Tmp} {v : Value} {K : Act → World → Prop} {a : Act} {w : World} (hi : ops[i]? = some o) (ho : o.op = .move x) (hd : o.dst = some d) (hw : Region.wanted o (yielded ops a.tmps) = true) (hv : a.eval x = v) (h : K (a.put (some d) v) w) : wpOp P ops Q i K a w := by
  refine wpOp_of_qOp (C := fun w' => w' = w) (K := fun a' => K a' w) rfl (fun a' w' hw' k => by rw [hw']; exact k) ?_
  unfold qOp
  simp only [hi, hw, if_true]
  refine BigFrame.quiet_move x ho ?_
  rw [hd, hv]
  exact h
theorem op_call {i : Nat} {o : Oper} {g : FuncId} {xs : Array Operand} {ats : Array TypeId} {d : Tmp} {args : Array Value} {T : Value → World → Prop} {K : Act → World → Prop} {a : Act} {w : World} (hi : ops[i]? = some o) (ho : o.op = .call { callee := .value (.func g), args := xs, argTypes := ats }) (hd : o.dst = some d) (hw : Region.wanted o (yielded ops a.tmps) = true)
    (ha : xs.map a.eval = args) (he : ∀ args w, (callFunc g args).run P w = .ok (.enter g args) w) (hc : Calls P g args w fun e w' => ∃ u, e = .returned u ∧ T u w') (h : ∀ u w', T u w' → K (a.put (some d) u) w') : wpOp P ops Q i K a w := by
  unfold wpOp
  simp only [hi, hw, if_true]
  left
  unfold Oper.wp
  have hx : execOp a.eval o = callFunc g args := by
    rw [← ha]
    simp [execOp, ho, resolve, invoke, Act.eval, Deferred.ofValue]
  rw [hx, he]
  refine hc.mono ?_
  rintro e w' ⟨u, rfl, hT⟩
  rw [hd]
  exact h u w' hT
end
end Go.Proofs.YtcdcniniafejbaaGreatDoor.ctr

namespace Go.Proofs.YtcdcniniafejbaaGreatDoor.ctr
open Go.RowKit

/-- Of each copy: its number, the slot it reads, the slot it writes, what it reads. -/
abbrev Mv := Nat × Tmp × Tmp × Value
def isMove (s : Tmp) : Op → Bool
  | .move (.tmp x) => x == s
  | _ => false
def mvB (md : Region.Mode) (ops : Array Oper) (g : Nat) (G : Tmp) (ds : List Tmp) : List Mv → Array Bool → Bool
  | [], _ => true
  | m :: ms, L => ((ops[m.1]?).map fun o => isMove m.2.1 o.op && o.dst == some m.2.2.1 && o.guard == some (g, false)).getD false && (Region.ready md ops L).contains m.1 && Region.free md ops L m.1 && ds.contains m.2.2.1 && !ds.contains m.2.1 && mvB md ops g G ds ms (L.setIfInBounds m.1 true)
def putM : List Mv → Act → Act
  | [], a => a
  | m :: ms, a => putM ms (a.put (some m.2.2.1) m.2.2.2)
def setM : List Mv → Array Bool → Array Bool
  | [], L => L
  | m :: ms, L => setM ms (L.setIfInBounds m.1 true)
def vM : List Mv → Act → Prop
  | [], _ => True
  | m :: ms, a => a.tmps[m.2.1]? = some m.2.2.2 ∧ vM ms a
theorem vM_put {md : Region.Mode} {ops : Array Oper} {g : Nat} {G : Tmp} {ds : List Tmp} {d : Tmp} (hd : ds.contains d = true) (u : Value) : ∀ (ms : List Mv) (L : Array Bool) (a : Act), mvB md ops g G ds ms L = true → vM ms a → vM ms (a.put (some d) u)
  | [], _, _, _, _ => trivial
  | m :: ms, L, a, hB, h => by
    simp only [mvB, Bool.and_eq_true] at hB
    refine ⟨?_, vM_put hd u ms _ a hB.2 h.2⟩
    show (a.tmps.setIfInBounds d u)[m.2.1]? = _
    rw [Array.getElem?_setIfInBounds_ne (fun e => by
      have := hB.1.2
      rw [← e, hd] at this
      cases this)]
    exact h.1
theorem any_moves {P : Program} {ops : Array Oper} {md : Region.Mode} {Q : Exit → Act → World → Prop} {g : Nat} {G : Tmp} {ds : List Tmp} (hs : Region.noSelect ops = true) (hg : (ops[g]?).bind (·.dst) = some G) (hG : ds.contains G = false) (hQ : ∀ c a d u w, Q (.panic c) (a.put (some d) u) w → Q (.panic c) a w) :
    ∀ (ms : List Mv) (f F : Nat) (L : Array Bool) (a : Act) (w : World), F = f + ms.length → mvB md ops g G ds ms L = true → a.tmps[G]? = some (.bool false) → vM ms a → wpAny P md ops Q f (setM ms L) (putM ms a) w → wpAny P md ops Q F L a w
  | [], f, F, L, a, w, hF, _, _, _, h => by
    rw [hF]
    exact h
  | m :: ms, f, F, L, a, w, hF, hB, ha, hv, h => by
    have hB' := hB
    simp only [mvB, Bool.and_eq_true] at hB
    obtain ⟨⟨⟨⟨⟨h1, h2⟩, h3⟩, h4⟩, _⟩, h6⟩ := hB
    cases ho : ops[m.1]? with
    | none => simp [ho] at h1
    | some o =>
      simp only [ho, Option.map_some, Option.getD_some, Bool.and_eq_true, beq_iff_eq] at h1
      obtain ⟨⟨hm, hd⟩, hgd⟩ := h1
      have hop : o.op = .move (.tmp m.2.1) := by
        cases hx : o.op with
        | move x =>
          cases x with
          | tmp x =>
            rw [hx] at hm
            simp only [isMove, beq_iff_eq] at hm
            rw [hm]
          | _ => rw [hx] at hm; simp [isMove] at hm
        | _ => rw [hx] at hm; simp [isMove] at hm
      have hw : Region.wanted o (yielded ops a.tmps) = true := by
        unfold Region.wanted
        rw [hgd]
        unfold yielded
        simp only [hg, Option.bind_some, ha]
        rfl
      have he : a.eval (.tmp m.2.1) = m.2.2.2 := by
        show a.tmps.getD m.2.1 undef = _
        rw [Array.getD_eq_getD_getElem?, hv.1]
        rfl
      rw [hF, List.length_cons, show f + (ms.length + 1) = f + ms.length + 1 by omega]
      refine wpAny_take (i := m.1) (v := m.2.2.2) ho hs h3 h2 (fun c a' w' hq => by rw [hd] at hq; exact hQ c a' _ _ w' hq) (Or.inl ⟨hw, fun w' => ?_⟩) ?_
      · simp [execOp, hop, he]
      · rw [hd]
        refine any_moves hs hg hG hQ ms f _ _ _ w rfl h6 ?_ (vM_put h4 _ ms _ a h6 hv.2) h
        show (a.tmps.setIfInBounds m.2.2.1 m.2.2.2)[G]? = _
        rw [Array.getElem?_setIfInBounds_ne (fun e => by rw [e, hG] at h4; cases h4)]
        exact ha
end Go.Proofs.YtcdcniniafejbaaGreatDoor.ctr

namespace Go.Proofs.YtcdcniniafejbaaGreatDoor.ctr
open Go.RowKit

/-- The code's bytes lie below n0 (or there are none). -/
def CodeAt (n0 : Nat) (W : World) (a : Option Addr) (len : Nat) : Prop :=
  len = 0 ∨ ∃ (b off : Nat) (zs : Nat → Int), a = some ⟨b, off, none⟩ ∧ b < n0 ∧ (∀ i, i < len → W.cell? ⟨b, off + i, none⟩ = some (.int .u8 (zs i))) ∧ ∀ i, i < len → 0 ≤ zs i ∧ zs i ≤ 255
theorem CodeAt.below {n0 : Nat} {W W' : World} {a : Option Addr} {len : Nat} (h : CodeAt n0 W a len) (hb : Below n0 W W') : CodeAt n0 W' a len := by
  rcases h with h | ⟨b, off, zs, ha, hlt, hc, hz⟩
  · exact .inl h
  · exact .inr ⟨b, off, zs, ha, hlt, fun i hi => by rw [hb.cell (p := ⟨b, off + i, none⟩) hlt]; exact hc i hi, hz⟩
/-- A cursor at block B over that code. -/
structure Cur (n0 : Nat) (W : World) (a : Option Addr) (len cap B : Nat) : Prop where
  lo : n0 ≤ B
  hi : B < W.heap.size
  code : CodeAt n0 W a len
  c0 : W.cell? ⟨B, 0, none⟩ = some (.slice a len cap)
  c1 : ∃ i : Nat, i ≤ len ∧ W.cell? ⟨B, 1, none⟩ = some (.int .i64 (i : Int))
  c2 : ∃ h : Int, W.cell? ⟨B, 2, none⟩ = some (.int .i64 h)
  f1 : W.frozen? ⟨B, 1, none⟩ = false
  f2 : W.frozen? ⟨B, 2, none⟩ = false
theorem Cur.drewN {n0 : Nat} {W : World} {a : Option Addr} {len cap B : Nat} (h : Cur n0 W a len cap B) (n : Nat) : Cur n0 (W.drewN n) a len cap B :=
  ⟨h.lo, h.hi, h.code, h.c0, h.c1, h.c2, h.f1, h.f2⟩
theorem set_size (w : World) (p : Addr) (v : Value) : (w.setCell p v).heap.size = w.heap.size := by simp [World.setCell]
theorem below_set (w : World) {n0 : Nat} (p : Addr) (hp : n0 ≤ p.block) (v : Value) : Below n0 w (w.setCell p v) := (Below.refl n0 w).setCell hp v
theorem Cur.set2 {n0 : Nat} {W : World} {a : Option Addr} {len cap B : Nat} (h : Cur n0 W a len cap B) (y : Int) : Cur n0 (W.setCell ⟨B, 2, none⟩ (.int .i64 y)) a len cap B := by
  obtain ⟨y0, hy0⟩ := h.c2
  obtain ⟨i, hi, h1⟩ := h.c1
  refine ⟨h.lo, by rw [set_size]; exact h.hi, h.code.below (below_set W _ h.lo _), ?_, ⟨i, hi, ?_⟩, ⟨y, World.cell?_setCell_same W _ _ hy0⟩, by rw [World.frozen?_setCell]; exact h.f1, by rw [World.frozen?_setCell]; exact h.f2⟩
  · rw [World.cell?_setCell_other W _ _ _ (by intro e; injection e with _ e2; omega)]; exact h.c0
  · rw [World.cell?_setCell_other W _ _ _ (by intro e; injection e with _ e2; omega)]; exact h1
theorem Cur.set1 {n0 : Nat} {W : World} {a : Option Addr} {len cap B : Nat} (h : Cur n0 W a len cap B) (k : Nat) (hk : k ≤ len) : Cur n0 (W.setCell ⟨B, 1, none⟩ (.int .i64 (k : Int))) a len cap B := by
  obtain ⟨y0, hy0⟩ := h.c2
  obtain ⟨i, hi, h1⟩ := h.c1
  refine ⟨h.lo, by rw [set_size]; exact h.hi, h.code.below (below_set W _ h.lo _), ?_, ⟨k, hk, World.cell?_setCell_same W _ _ h1⟩, ⟨y0, ?_⟩, by rw [World.frozen?_setCell]; exact h.f1, by rw [World.frozen?_setCell]; exact h.f2⟩
  · rw [World.cell?_setCell_other W _ _ _ (by intro e; injection e with _ e2; omega)]; exact h.c0
  · rw [World.cell?_setCell_other W _ _ _ (by intro e; injection e with _ e2; omega)]; exact hy0
theorem grown_set (W : World) (B o : Nat) (v : Value) : W.grownBy (W.setCell ⟨B, o, none⟩ v) (some B) :=
  ⟨rfl, rfl, rfl, by rw [set_size]; exact Nat.le_refl _, fun k _ hk => Below.heap_setCell W _ _ k (by intro e; apply hk; rw [e])⟩
theorem grown_drewN {W W1 : World} {r : Option Nat} (h : W.grownBy W1 r) (n : Nat) : W.grownBy (W1.drewN n) r := ⟨h.os, h.tape, h.output, h.size, h.block⟩
theorem grown_trans {W W1 W2 : World} {r : Option Nat} (h : W.grownBy W1 r) (k : W1.grownBy W2 r) : W.grownBy W2 r :=
  ⟨k.os.trans h.os, k.tape.trans h.tape, k.output.trans h.output, Nat.le_trans h.size k.size, fun j hj hr => (k.block j (Nat.lt_of_lt_of_le hj h.size) hr).trans (h.block j hj hr)⟩
theorem mask255 (x : Int) : 0 ≤ bits .and .i64 x 255 ∧ bits .and .i64 x 255 ≤ 255 := by
  show 0 ≤ IntKind.i64.wrap ((BitVec.ofInt 64 x &&& BitVec.ofInt 64 255).toNat : Int) ∧ IntKind.i64.wrap ((BitVec.ofInt 64 x &&& BitVec.ofInt 64 255).toNat : Int) ≤ 255
  have h1 : (BitVec.ofInt 64 x &&& BitVec.ofInt 64 255).toNat ≤ 255 := by
    rw [BitVec.toNat_and]
    exact Nat.le_trans Nat.and_le_right (by decide)
  have h2 : ∀ n : Nat, n ≤ 255 → 0 ≤ IntKind.i64.wrap (n : Int) ∧ IntKind.i64.wrap (n : Int) ≤ 255 := by
    intro n hn
    rw [PlainAid.i64_is]
    unfold wrap64
    omega
  exact h2 _ h1

set_option maxHeartbeats 1000000 in
theorem l01Byte (n0 : Nat) (W : World) (a : Option Addr) (len cap B : Nat) (hlen : len ≤ maxLen) (hC : Cur n0 W a len cap B) :
    Calls Tryz.prog 82 #[.pointer (some ⟨B, 0, none⟩)] W fun e W' => ∃ x : Int, e = .returned (.int .i64 x) ∧ 0 ≤ x ∧ x ≤ 255 ∧ Cur n0 W' a len cap B ∧ W.grownBy W' (some B) := by
  unfold maxLen at hlen
  have HK : Hid (Cur n0 W a len cap B) := hC
  obtain ⟨lo, hi, code, c0, ⟨i, hil, c1⟩, ⟨h, c2⟩, f1, f2⟩ := hC
  have HC : Hid (CodeAt n0 W a len) := code
  clear code
  by_cases hlt : i < len
  · obtain ⟨b, off, zs, rfl, hbn, hcell, hz⟩ : ∃ (b off : Nat) (zs : Nat → Int), a = some ⟨b, off, none⟩ ∧ b < n0 ∧ (∀ i, i < len → W.cell? ⟨b, off + i, none⟩ = some (.int .u8 (zs i))) ∧ ∀ i, i < len → 0 ≤ zs i ∧ zs i ≤ 255 := by
      rcases HC.out with h0 | h0
      · omega
      · exact h0
    obtain ⟨z0, z1⟩ := hz i hlt
    have hx := hcell i hlt
    have hne : ∀ v, (W.setCell ⟨B, 2, none⟩ v).cell? ⟨b, off + i, none⟩ = some (.int .u8 (zs i)) := fun v => by
      rw [World.cell?_setCell_other W _ _ _ (by intro e; injection e with e1; omega)]; exact hx
    clear hcell hz hx
    go_enter Tryz.func82, Tryz.ntmps82
    go_wp2
    go_quiet (fail)
    go_wp2
    go_quiet (fail)
    go_wp2
    go_quiet (fail)
    go_wp2
    go_ret
    rw [show ((i : Int) + 1) = ((i + 1 : Nat) : Int) from by omega]
    refine ⟨_, rfl, (mask255 _).1, (mask255 _).2, ?_, ?_⟩
    · exact ((HK.out.set2 _).drewN _).set1 (i + 1) (by omega)
    · exact grown_trans (grown_drewN (grown_set W B 2 _) _) (grown_set _ B 1 _)
  · go_enter Tryz.func82, Tryz.ntmps82
    go_wp2
    go_quiet (fail)
    go_wp2
    go_quiet (fail)
    go_wp2
    go_ret
    obtain ⟨m0, m1⟩ := mask255 (bits .xor .i64 (wrap64 (wrap64 (h * 6364136223846793005) + 1442695040888963407) / 8589934592) (wrap64 (wrap64 (h * 6364136223846793005) + 1442695040888963407) / 35184372088832))
    exact ⟨_, rfl, m0, m1, ((HK.out.set2 _).drewN _).drewN _, grown_drewN (grown_drewN (grown_set W B 2 _) _) _⟩

/-- What a call that draws leaves: the cursor stands, and of what lay there but the cursor's own block nothing has turned. -/
theorem Cur.alloc {n0 : Nat} {W : World} {a : Option Addr} {len cap B : Nat} (h : Cur n0 W a len cap B) (o : Obj) : Cur n0 (W.alloc o) a len cap B := by
  have hb : Below W.heap.size W (W.alloc o) := (Below.refl _ _).alloc (Nat.le_refl _) o
  obtain ⟨y0, hy0⟩ := h.c2
  obtain ⟨i, hi, h1⟩ := h.c1
  exact ⟨h.lo, Nat.lt_of_lt_of_le h.hi hb.size, h.code.below (hb.mono (Nat.le_trans h.lo (Nat.le_of_lt h.hi))), (hb.cell (p := ⟨B, 0, none⟩) h.hi).trans h.c0, ⟨i, hi, (hb.cell (p := ⟨B, 1, none⟩) h.hi).trans h1⟩,
    ⟨y0, (hb.cell (p := ⟨B, 2, none⟩) h.hi).trans hy0⟩, (hb.frozen (p := ⟨B, 1, none⟩) h.hi).trans h.f1, (hb.frozen (p := ⟨B, 2, none⟩) h.hi).trans h.f2⟩
theorem Cur.below {n0 : Nat} {W W' : World} {a : Option Addr} {len cap B : Nat} (h : Cur n0 W a len cap B) (hb : Below W.heap.size W W') : Cur n0 W' a len cap B := by
  obtain ⟨y0, hy0⟩ := h.c2
  obtain ⟨i, hi, h1⟩ := h.c1
  exact ⟨h.lo, Nat.lt_of_lt_of_le h.hi hb.size, h.code.below (hb.mono (Nat.le_trans h.lo (Nat.le_of_lt h.hi))), (hb.cell (p := ⟨B, 0, none⟩) h.hi).trans h.c0, ⟨i, hi, (hb.cell (p := ⟨B, 1, none⟩) h.hi).trans h1⟩,
    ⟨y0, (hb.cell (p := ⟨B, 2, none⟩) h.hi).trans hy0⟩, (hb.frozen (p := ⟨B, 1, none⟩) h.hi).trans h.f1, (hb.frozen (p := ⟨B, 2, none⟩) h.hi).trans h.f2⟩

set_option maxHeartbeats 1000000 in
theorem l01Below (n0 : Nat) (W : World) (a : Option Addr) (len cap B : Nat) (n : Int) (hlen : len ≤ maxLen) (hn : 0 < n) (hC : Cur n0 W a len cap B) :
    Calls Tryz.prog 52 #[.pointer (some ⟨B, 0, none⟩), .int .i64 n] W fun e W' => ∃ x : Int, e = .returned (.int .i64 x) ∧ 0 ≤ x ∧ x < n ∧ Cur n0 W' a len cap B ∧ W.grownBy W' (some B) := by
  have HK : Hid (Cur n0 W a len cap B) := hC
  clear hC
  by_cases h2 : n ≤ 256
  · go_enter Tryz.func52, Tryz.ntmps52
    go_wp2_with fail
    refine (l01Byte n0 _ a len cap B hlen HK.out).mono ?_
    rintro e W1 ⟨x, rfl, x0, x1, hC1, hG1⟩
    have HK1 : Hid (Cur n0 W1 a len cap B) := hC1
    have HG1 : Hid (W.grownBy W1 (some B)) := hG1
    clear hC1 hG1
    go_wp2
    go_ret
    exact ⟨x % n, rfl, Int.emod_nonneg _ (by omega), Int.emod_lt_of_pos _ hn, HK1.out, HG1.out⟩
  · go_enter Tryz.func52, Tryz.ntmps52
    go_wp2_with fail
    refine (l01Byte n0 _ a len cap B hlen HK.out).mono ?_
    rintro e W1 ⟨x1, rfl, a1, b1, hC1, hG1⟩
    have HK1 : Hid (Cur n0 W1 a len cap B) := hC1
    have HG1 : Hid (W.grownBy W1 (some B)) := hG1
    clear hC1 hG1
    go_wp2_with fail
    refine (l01Byte n0 _ a len cap B hlen HK1.out).mono ?_
    rintro e W2 ⟨x2, rfl, a2, b2, hC2, hG2⟩
    have HK2 : Hid (Cur n0 W2 a len cap B) := hC2
    have HG2 : Hid (W.grownBy W2 (some B)) := grown_trans HG1.out hG2
    clear hC2 hG2
    go_wp2_with fail
    refine (l01Byte n0 _ a len cap B hlen HK2.out).mono ?_
    rintro e W3 ⟨x3, rfl, a3, b3, hC3, hG3⟩
    have HK3 : Hid (Cur n0 W3 a len cap B) := hC3
    have HG3 : Hid (W.grownBy W3 (some B)) := grown_trans HG2.out hG3
    clear hC3 hG3
    go_wp2_with fail
    refine (l01Byte n0 _ a len cap B hlen HK3.out).mono ?_
    rintro e W4 ⟨x4, rfl, a4, b4, hC4, hG4⟩
    have HK4 : Hid (Cur n0 W4 a len cap B) := hC4
    have HG4 : Hid (W.grownBy W4 (some B)) := grown_trans HG3.out hG4
    clear hC4 hG4
    go_wp2
    go_ret
    exact ⟨_, rfl, Int.emod_nonneg _ (by omega), Int.emod_lt_of_pos _ hn, HK4.out, HG4.out⟩

set_option maxHeartbeats 1000000 in
theorem l01Once (n0 : Nat) (W : World) (a : Option Addr) (len cap B : Nat) (n : Int) (hlen : len ≤ maxLen) (hn : 0 < n) (hC : Cur n0 W a len cap B) :
    Calls Tryz.prog 44 #[.pointer (some ⟨B, 0, none⟩), .int .i64 n] W fun e W' => ∃ x : Bool, e = .returned (.bool x) ∧ Cur n0 W' a len cap B ∧ W.grownBy W' (some B) := by
  have HK : Hid (Cur n0 W a len cap B) := hC
  clear hC
  go_enter Tryz.func44, Tryz.ntmps44
  go_wp2_with fail
  refine (l01Below n0 _ a len cap B n hlen hn HK.out).mono ?_
  rintro e W1 ⟨x, rfl, x0, x1, hC1, hG1⟩
  have HK1 : Hid (Cur n0 W1 a len cap B) := hC1
  have HG1 : Hid (W.grownBy W1 (some B)) := hG1
  clear hC1 hG1
  go_wp2
  go_ret
  exact ⟨_, rfl, HK1.out, HG1.out⟩

theorem grown_cell {W W' : World} {B : Nat} (h : W.grownBy W' (some B)) {p : Addr} (hp : p.block < W.heap.size) (hne : p.block ≠ B) : W'.cell? p = W.cell? p :=
  World.cell?_of_block (h.block p.block hp (by intro e; exact hne (Option.some.inj e)))

set_option maxHeartbeats 1000000 in
theorem l01PickInt (n0 : Nat) (W : World) (a : Option Addr) (len cap B : Nat) (L k c2 : Nat) (zs : Nat → Int) (hlen : len ≤ maxLen) (hk : 0 < k) (hk2 : k ≤ 100000) (hL : L < W.heap.size) (hLB : L ≠ B) (hz : ∀ j, j < k → W.cell? ⟨L, j, none⟩ = some (.int .i64 (zs j))) (hC : Cur n0 W a len cap B) :
    Calls Tryz.prog 68 #[.pointer (some ⟨B, 0, none⟩), .slice (some ⟨L, 0, none⟩) k c2] W fun e W' => ∃ j : Nat, j < k ∧ e = .returned (.int .i64 (zs j)) ∧ Cur n0 W' a len cap B ∧ W.grownBy W' (some B) := by
  have HK : Hid (Cur n0 W a len cap B) := hC
  have HZ : Hid (∀ j, j < k → W.cell? ⟨L, j, none⟩ = some (.int .i64 (zs j))) := hz
  clear hC hz
  go_enter Tryz.func68, Tryz.ntmps68
  go_wp2_with fail
  refine (l01Below n0 _ a len cap B k hlen (by omega) HK.out).mono ?_
  rintro e W1 ⟨x, rfl, x0, x1, hC1, hG1⟩
  obtain ⟨j, rfl⟩ := Int.eq_ofNat_of_zero_le x0
  have hj : j < k := by omega
  have hcj : W1.cell? ⟨L, j, none⟩ = some (.int .i64 (zs j)) := (grown_cell hG1 (p := ⟨L, j, none⟩) hL hLB).trans (HZ.out j hj)
  have HK1 : Hid (Cur n0 W1 a len cap B) := hC1
  have HG1 : Hid (W.grownBy W1 (some B)) := hG1
  clear hC1 hG1
  go_wp2
  go_ret
  exact ⟨j, hj, rfl, HK1.out, HG1.out⟩

set_option maxHeartbeats 1000000 in
theorem l01Pick (n0 : Nat) (W : World) (a : Option Addr) (len cap B : Nat) (L k c2 : Nat) (ss : Nat → ByteArray) (hlen : len ≤ maxLen) (hk : 0 < k) (hk2 : k ≤ 100000) (hL : L < W.heap.size) (hLB : L ≠ B) (hz : ∀ j, j < k → W.cell? ⟨L, j, none⟩ = some (.string (ss j))) (hC : Cur n0 W a len cap B) :
    Calls Tryz.prog 45 #[.pointer (some ⟨B, 0, none⟩), .slice (some ⟨L, 0, none⟩) k c2] W fun e W' => ∃ j : Nat, j < k ∧ e = .returned (.string (ss j)) ∧ Cur n0 W' a len cap B ∧ W.grownBy W' (some B) := by
  have HK : Hid (Cur n0 W a len cap B) := hC
  have HZ : Hid (∀ j, j < k → W.cell? ⟨L, j, none⟩ = some (.string (ss j))) := hz
  clear hC hz
  go_enter Tryz.func45, Tryz.ntmps45
  go_wp2_with fail
  refine (l01Below n0 _ a len cap B k hlen (by omega) HK.out).mono ?_
  rintro e W1 ⟨x, rfl, x0, x1, hC1, hG1⟩
  obtain ⟨j, rfl⟩ := Int.eq_ofNat_of_zero_le x0
  have hj : j < k := by omega
  have hcj : W1.cell? ⟨L, j, none⟩ = some (.string (ss j)) := (grown_cell hG1 (p := ⟨L, j, none⟩) hL hLB).trans (HZ.out j hj)
  have HK1 : Hid (Cur n0 W1 a len cap B) := hC1
  have HG1 : Hid (W.grownBy W1 (some B)) := hG1
  clear hC1 hG1
  go_wp2
  go_ret
  exact ⟨j, hj, rfl, HK1.out, HG1.out⟩

theorem cur_new (W : World) (a : Option Addr) (len cap : Nat) (y : Int) (t : TypeId) (h : CodeAt W.heap.size W a len) : Cur W.heap.size (W.alloc (.cells #[.slice a len cap, .int .i64 0, .int .i64 y] t)) a len cap W.heap.size := by
  have hb : Below W.heap.size W (W.alloc (.cells #[.slice a len cap, .int .i64 0, .int .i64 y] t)) := (Below.refl _ _).alloc (Nat.le_refl _) _
  have hc : ∀ i, (W.alloc (.cells #[.slice a len cap, .int .i64 0, .int .i64 y] t)).cell? ⟨W.heap.size, i, none⟩ = #[Value.slice a len cap, .int .i64 0, .int .i64 y][i]? := fun i => by simp [World.alloc, World.cell?, -World.alloc_eq]
  have hf : ∀ i, (W.alloc (.cells #[.slice a len cap, .int .i64 0, .int .i64 y] t)).frozen? ⟨W.heap.size, i, none⟩ = false := fun i => by simp [World.alloc, World.frozen?, -World.alloc_eq]
  exact ⟨Nat.le_refl _, by simp [World.alloc, -World.alloc_eq], h.below hb, hc 0, ⟨0, Nat.zero_le _, hc 1⟩, ⟨y, hc 2⟩, hf 1, hf 2⟩

set_option maxHeartbeats 1000000 in
theorem l01New (W : World) (a : Option Addr) (len cap : Nat) (hlen : len ≤ maxLen) (hcode : CodeAt W.heap.size W a len) :
    Calls Tryz.prog 43 #[.slice a len cap] W fun e W' => ∃ B : Nat, e = .returned (.pointer (some ⟨B, 0, none⟩)) ∧ Cur W.heap.size W' a len cap B ∧ Below W.heap.size W W' := by
  have HC : Hid (CodeAt W.heap.size W a len) := hcode
  clear hcode
  have hl := hlen
  unfold maxLen at hl
  go_enter Tryz.func43, Tryz.ntmps43
  go_wp2
  go_loop [3, 4] (fun h i => ∃ (k : Nat) (y : Int), k ≤ len ∧ i = .int .i64 k ∧ h = .int .i64 y) (fun _ i => len - (intOf i).toNat)
  case atStart => exact ⟨0, _, Nat.zero_le _, rfl, rfl⟩
  case round =>
    obtain ⟨k, y, hk, rfl, rfl⟩ := hrel
    by_cases hlt : k < len
    · by_cases h4 : (k : Int) < 4000
      · obtain ⟨b, off, zs, rfl, hbn, hcell, hz⟩ : ∃ (b off : Nat) (zs : Nat → Int), a = some ⟨b, off, none⟩ ∧ b < W.heap.size ∧ (∀ i, i < len → W.cell? ⟨b, off + i, none⟩ = some (.int .u8 (zs i))) ∧ ∀ i, i < len → 0 ≤ zs i ∧ zs i ≤ 255 := by
          rcases HC.out with h0 | h0
          · omega
          · exact h0
        obtain ⟨z0, z1⟩ := hz k hlt
        have hx := hcell k hlt
        clear hcell hz
        go_wp2
        exact ⟨⟨k + 1, _, by omega, by go_num, rfl⟩, by simp [intOf]; omega⟩
      · go_wp2
        go_ret
        exact ⟨_, rfl, cur_new _ _ _ _ _ _ HC.out, (Below.refl _ _).alloc (Nat.le_refl _) _⟩
    · go_wp2
      go_ret
      exact ⟨_, rfl, cur_new _ _ _ _ _ _ HC.out, (Below.refl _ _).alloc (Nat.le_refl _) _⟩
end Go.Proofs.YtcdcniniafejbaaGreatDoor.ctr

namespace Go.Proofs.YtcdcniniafejbaaGreatDoor.ctr
open Go.RowKit

theorem cell_new (W : World) (c : Array Value) (t : TypeId) (i : Nat) : (W.alloc (.cells c t)).cell? ⟨W.heap.size, i, none⟩ = c[i]? := by simp [World.alloc, World.cell?, -World.alloc_eq]
theorem size_new (W : World) (o : Obj) : (W.alloc o).heap.size = W.heap.size + 1 := by simp [World.alloc, -World.alloc_eq]
theorem alloc_ints (W : World) (l : List Int) (t : TypeId) (j : Nat) (hj : j < l.length) : (W.alloc (.cells (l.map (Value.int .i64)).toArray t)).cell? ⟨W.heap.size, j, none⟩ = some (.int .i64 (l.getD j 0)) := by
  rw [cell_new]
  simp [List.getD, hj]
theorem alloc_strs (W : World) (l : List ByteArray) (t : TypeId) (j : Nat) (hj : j < l.length) : (W.alloc (.cells (l.map Value.string).toArray t)).cell? ⟨W.heap.size, j, none⟩ = some (.string (l.getD j ⟨#[]⟩)) := by
  rw [cell_new]
  simp [List.getD, hj]
theorem grown_alloc {W W1 : World} {r : Option Nat} (h : W.grownBy W1 r) (o : Obj) : W.grownBy (W1.alloc o) r := by
  refine ⟨h.os, h.tape, h.output, Nat.le_trans h.size (by rw [size_new]; omega), fun k hk hr => ?_⟩
  rw [Below.heap_alloc W1 o k (Nat.lt_of_lt_of_le hk h.size)]
  exact h.block k hk hr
theorem grown_refl (W : World) (r : Option Nat) : W.grownBy W r := ⟨rfl, rfl, rfl, Nat.le_refl _, fun _ _ _ => rfl⟩
theorem grown_of_below {W W1 : World} {r : Option Nat} (h : Below W.heap.size W W1) : W.grownBy W1 r := ⟨h.os, h.tape, h.output, h.size, fun k hk _ => h.block k hk⟩
theorem below_grownBy {n0 B : Nat} {W W1 W2 : World} (h : Below n0 W W1) (g : W1.grownBy W2 (some B)) (h0 : n0 ≤ W1.heap.size) (hB : n0 ≤ B) : Below n0 W W2 :=
  h.grown g h0 (fun k e => by cases e; exact hB)
/-- A number of 64 bits. -/
def I64 (z : Int) : Prop := -9223372036854775808 ≤ z ∧ z ≤ 9223372036854775807

end Go.Proofs.YtcdcniniafejbaaGreatDoor.ctr

namespace Go.Proofs.YtcdcniniafejbaaGreatDoor.ctr
open Go.RowKit

theorem Cur.store {n0 : Nat} {W : World} {a : Option Addr} {len cap B b i : Nat} (h : Cur n0 W a len cap B) (v : Value) (hb : n0 ≤ b) (hn : b ≠ B) : Cur n0 (W.setCell ⟨b, i, none⟩ v) a len cap B := by
  obtain ⟨y0, hy0⟩ := h.c2
  obtain ⟨j, hj, h1⟩ := h.c1
  refine ⟨h.lo, by rw [set_size]; exact h.hi, h.code.below (below_set W _ hb _), ?_, ⟨j, hj, ?_⟩, ⟨y0, ?_⟩, by rw [World.frozen?_setCell]; exact h.f1, by rw [World.frozen?_setCell]; exact h.f2⟩
  · rw [World.cell?_setCell_other W _ _ _ (by intro e; injection e with e1; omega)]; exact h.c0
  · rw [World.cell?_setCell_other W _ _ _ (by intro e; injection e with e1; omega)]; exact h1
  · rw [World.cell?_setCell_other W _ _ _ (by intro e; injection e with e1; omega)]; exact hy0
theorem Blk.grown {W W' : World} {b B : Nat} {vs : Array Value} {t : TypeId} (h : Blk W b vs t) (g : W.grownBy W' (some B)) (hn : b ≠ B) : Blk W' b vs t :=
  (g.block b h.lt (by intro e; exact hn (Option.some.inj e))).trans h
theorem grown_store {W W' : World} {B b i : Nat} (h : W.grownBy W' (some B)) (v : Value) (hb : W.heap.size ≤ b) : W.grownBy (W'.setCell ⟨b, i, none⟩ v) (some B) :=
  ⟨h.os, h.tape, h.output, by rw [set_size]; exact h.size, fun k hk hr => (Below.heap_setCell W' ⟨b, i, none⟩ v k (fun e => by have : k = b := e; omega)).trans (h.block k hk hr)⟩

def yearsIn : List Int := [1, 4, 100, 400, 1500, 1582, 1700, 1712, 1752, 1900, 2000, 3000]
set_option maxHeartbeats 1000000 in
theorem l02AnyYear (n0 : Nat) (W : World) (a : Option Addr) (len cap B : Nat) (hlen : len ≤ maxLen) (hC : Cur n0 W a len cap B) :
    Calls Tryz.prog 118 #[.pointer (some ⟨B, 0, none⟩)] W fun e W' => ∃ y : Int, e = .returned (.int .i64 y) ∧ Cur n0 W' a len cap B ∧ W.grownBy W' (some B) := by
  have HK : Hid (Cur n0 W a len cap B) := hC
  clear hC
  go_enter Tryz.func118, Tryz.ntmps118
  go_wp2_with fail
  refine (l01Below n0 _ a len cap B 6 hlen (by omega) HK.out).mono ?_
  rintro e W1 ⟨x, rfl, x0, x1, hC1, hG1⟩
  have HK1 : Hid (Cur n0 W1 a len cap B) := hC1
  have HG1 : Hid (W.grownBy W1 (some B)) := hG1
  clear hC1 hG1
  by_cases e0 : x = 0
  · subst e0
    go_wp2_with fail
    refine (l01PickInt n0 _ a len cap B W1.heap.size 12 12 (fun j => yearsIn.getD j 0) hlen (by omega) (by omega) (by rw [size_new]; omega) (Nat.ne_of_gt HK1.out.hi) (fun j hj => alloc_ints W1 yearsIn _ j hj) (HK1.out.alloc _)).mono ?_
    rintro e W2 ⟨j, hj, rfl, hC2, hG2⟩
    have HK2 : Hid (Cur n0 W2 a len cap B) := hC2
    have HG2 : Hid (W.grownBy W2 (some B)) := grown_trans (grown_alloc HG1.out _) hG2
    clear hC2 hG2
    generalize yearsIn.getD j 0 = z at *
    go_wp2
    go_ret
    exact ⟨z, rfl, HK2.out, HG2.out⟩
  by_cases e1 : x = 1
  · subst e1
    go_wp2_with fail
    refine (l01Below n0 _ a len cap B 300 hlen (by omega) HK1.out).mono ?_
    rintro e W2 ⟨z, rfl, z0, z1, hC2, hG2⟩
    have HK2 : Hid (Cur n0 W2 a len cap B) := hC2
    have HG2 : Hid (W.grownBy W2 (some B)) := grown_trans HG1.out hG2
    clear hC2 hG2
    go_wp2
    go_ret
    exact ⟨_, rfl, HK2.out, HG2.out⟩
  go_wp2_with fail
  refine (l01Below n0 _ a len cap B 3000 hlen (by omega) HK1.out).mono ?_
  rintro e W2 ⟨z, rfl, z0, z1, hC2, hG2⟩
  have HK2 : Hid (Cur n0 W2 a len cap B) := hC2
  have HG2 : Hid (W.grownBy W2 (some B)) := grown_trans HG1.out hG2
  clear hC2 hG2
  go_wp2
  go_ret
  exact ⟨_, rfl, HK2.out, HG2.out⟩

set_option maxHeartbeats 2000000 in
theorem l02Date (n0 : Nat) (W : World) (a : Option Addr) (len cap B : Nat) (hlen : len ≤ maxLen) (hC : Cur n0 W a len cap B) :
    Calls Tryz.prog 98 #[.pointer (some ⟨B, 0, none⟩)] W fun e W' => ∃ c y m d : Int, e = .returned (.agg #[.int .i64 c, .int .i64 y, .int .i64 m, .int .i64 d]) ∧ Cur n0 W' a len cap B ∧ W.grownBy W' (some B) := by
  have HK : Hid (Cur n0 W a len cap B) := hC
  clear hC
  have h1 := HK.out.hi
  have h2 := HK.out.lo
  go_enter Tryz.func98, Tryz.ntmps98
  go_wp2_with fail
  refine (l01Below n0 _ a len cap B 2 hlen (by omega) (HK.out.alloc _)).mono ?_
  rintro e W1 ⟨c, rfl, hc0, hc1, hC, hG⟩
  have HK1 : Hid (Cur n0 W1 a len cap B) := hC
  have HG1 : Hid (W.grownBy W1 (some B)) := grown_trans (grown_alloc (grown_refl W _) _) hG
  have HZ1 : Hid (Blk W1 W.heap.size #[.int .i64 0, .int .i64 0, .int .i64 0, .int .i64 0] 87) := (Blk.new W _ _).grown hG (by omega)
  clear hC hG
  go_wp2_with fail
  refine (l02AnyYear n0 _ a len cap B hlen HK1.out).mono ?_
  rintro e W2 ⟨y, rfl, hC, hG⟩
  have HK2 : Hid (Cur n0 W2 a len cap B) := hC
  have HG2 : Hid (W.grownBy W2 (some B)) := grown_trans HG1.out hG
  have HZ2 : Hid (Blk W2 W.heap.size #[.int .i64 0, .int .i64 0, .int .i64 0, .int .i64 0] 87) := HZ1.out.grown hG (by omega)
  clear hC hG
  go_wp2_with fail
  refine (l01Below n0 _ a len cap B 12 hlen (by omega) HK2.out).mono ?_
  rintro e W3 ⟨m, rfl, hm0, hm1, hC, hG⟩
  have HK3 : Hid (Cur n0 W3 a len cap B) := hC
  have HG3 : Hid (W.grownBy W3 (some B)) := grown_trans HG2.out hG
  have HZ3 : Hid (Blk W3 W.heap.size #[.int .i64 0, .int .i64 0, .int .i64 0, .int .i64 0] 87) := HZ2.out.grown hG (by omega)
  have h3 : W.heap.size < W3.heap.size := HZ3.out.lt
  clear hC hG
  have KM : ∀ W, Calls Tryz.prog 91 #[.int .i64 c, .int .i64 y, .int .i64 (1 + m)] W fun e w' => e = .returned (.int .i64 (monthDays c y (1 + m))) ∧ Below W.heap.size W w' := specMonthDays c y (1 + m)
  have bm := monthDays_ge (y := y) (show c = 0 ∨ c = 1 by omega) (show 1 ≤ 1 + m by omega) (show 1 + m ≤ 12 by omega)
  have bm2 := monthDays_le c y (1 + m)
  generalize monthDays c y (1 + m) = md at *
  go_wp2_with fail
  refine (KM _).mono ?_
  rintro e W4 ⟨rfl, hb⟩
  have HK4 : Hid (Cur n0 W4 a len cap B) := (HK3.out.alloc _).below hb
  have HG4 : Hid (W.grownBy W4 (some B)) := grown_trans (grown_alloc HG3.out _) (grown_of_below hb)
  have HZ4 : Hid (Blk W4 W.heap.size #[.int .i64 0, .int .i64 0, .int .i64 0, .int .i64 0] 87) := (HZ3.out.alloc _).below hb (by rw [size_new]; omega)
  have HD4 : Hid (Blk W4 W3.heap.size #[.int .i64 c, .int .i64 y, .int .i64 (1 + m), .int .i64 0] 87) := (Blk.new W3 _ _).below hb (by rw [size_new]; omega)
  clear hb
  go_wp2_with fail
  refine (l01Below n0 _ a len cap B md hlen (by omega) HK4.out).mono ?_
  rintro e W5 ⟨d, rfl, hd0, hd1, hC, hG⟩
  have HK5 : Hid (Cur n0 W5 a len cap B) := hC
  have HG5 : Hid (W.grownBy W5 (some B)) := grown_trans HG4.out hG
  have HZ5 : Hid (Blk W5 W.heap.size #[.int .i64 0, .int .i64 0, .int .i64 0, .int .i64 0] 87) := HZ4.out.grown hG (by omega)
  have HD5 : Hid (Blk W5 W3.heap.size #[.int .i64 c, .int .i64 y, .int .i64 (1 + m), .int .i64 0] 87) := HD4.out.grown hG (by omega)
  clear hC hG
  have u3 := HD5.out.cell 3 rfl
  have v3 := HD5.out.thaw 3
  go_wp2_with fail
  refine (l01Once n0 _ a len cap B 6 hlen (by omega) (HK5.out.store _ (by omega) (by omega))).mono ?_
  rintro e W7 ⟨o, rfl, hC, hG⟩
  have HKv : Hid (Cur n0 W7 a len cap B) := hC
  have HGv : Hid (W.grownBy W7 (some B)) := grown_trans (grown_store HG5.out _ (by omega)) hG
  have HZv : Hid (Blk W7 W.heap.size #[.int .i64 0, .int .i64 0, .int .i64 0, .int .i64 0] 87) := (HZ5.out.other (by omega)).grown hG (by omega)
  have HDv : Hid (Blk W7 W3.heap.size #[.int .i64 c, .int .i64 y, .int .i64 (1 + m), .int .i64 (1 + d)] 87) := (HD5.out.set 3 _).grown hG (by omega)
  clear hC hG u3 v3 KM
  cases o
  · go_wp2_with fail
    refine (l01Below n0 _ a len cap B 24 hlen (by omega) HKv.out).mono ?_
    rintro e V1 ⟨s, rfl, s0, s1, hC, hG⟩
    have HK1 : Hid (Cur n0 V1 a len cap B) := hC
    have HG1 : Hid (W.grownBy V1 (some B)) := grown_trans HGv.out hG
    have HZ1 : Hid (Blk V1 W.heap.size #[.int .i64 0, .int .i64 0, .int .i64 0, .int .i64 0] 87) := HZv.out.grown hG (by omega)
    have HD1 : Hid (Blk V1 W3.heap.size #[.int .i64 c, .int .i64 y, .int .i64 (1 + m), .int .i64 (1 + d)] 87) := HDv.out.grown hG (by omega)
    clear hC hG
    by_cases e0 : s = 0
    · subst e0
      go_wp2_with fail
      refine (l01PickInt n0 _ a len cap B V1.heap.size 4 4 (fun j => ([0, 3001, -1, 9223372036854775807] : List Int).getD j 0) hlen (by omega) (by omega) (by rw [size_new]; omega) (Nat.ne_of_gt HK1.out.hi) (fun j hj => alloc_ints V1 [0, 3001, -1, 9223372036854775807] _ j hj) (HK1.out.alloc _)).mono ?_
      rintro e V2 ⟨j, hj, rfl, hC, hG⟩
      have HK2 : Hid (Cur n0 V2 a len cap B) := hC
      have HG2 : Hid (W.grownBy V2 (some B)) := grown_trans (grown_alloc HG1.out _) hG
      have HZ2 : Hid (Blk V2 W.heap.size #[.int .i64 0, .int .i64 0, .int .i64 0, .int .i64 0] 87) := (HZ1.out.alloc _).grown hG (by omega)
      have HD2 : Hid (Blk V2 W3.heap.size #[.int .i64 c, .int .i64 y, .int .i64 (1 + m), .int .i64 (1 + d)] 87) := (HD1.out.alloc _).grown hG (by omega)
      clear hC hG
      generalize ([0, 3001, -1, 9223372036854775807] : List Int).getD j 0 = z at *
      have p0 : V2.cell? ⟨W3.heap.size, 0, none⟩ = some (.int .i64 c) := (HD2.out).cell 0 rfl
      have p1 : V2.cell? ⟨W3.heap.size, 1, none⟩ = some (.int .i64 y) := (HD2.out).cell 1 rfl
      have p2 : V2.cell? ⟨W3.heap.size, 2, none⟩ = some (.int .i64 (1 + m)) := (HD2.out).cell 2 rfl
      have p3 : V2.cell? ⟨W3.heap.size, 3, none⟩ = some (.int .i64 (1 + d)) := (HD2.out).cell 3 rfl
      have f1 : V2.frozen? ⟨W3.heap.size, 1, none⟩ = false := (HD2.out).thaw 1
      have q0 : V2.cell? ⟨W.heap.size, 0, none⟩ = some (.int .i64 0) := (HZ2.out).cell 0 rfl
      have q1 : V2.cell? ⟨W.heap.size, 1, none⟩ = some (.int .i64 0) := (HZ2.out).cell 1 rfl
      have q2 : V2.cell? ⟨W.heap.size, 2, none⟩ = some (.int .i64 0) := (HZ2.out).cell 2 rfl
      have q3 : V2.cell? ⟨W.heap.size, 3, none⟩ = some (.int .i64 0) := (HZ2.out).cell 3 rfl
      have g0 : V2.frozen? ⟨W.heap.size, 0, none⟩ = false := (HZ2.out).thaw 0
      have g1 : V2.frozen? ⟨W.heap.size, 1, none⟩ = false := (HZ2.out).thaw 1
      have g2 : V2.frozen? ⟨W.heap.size, 2, none⟩ = false := (HZ2.out).thaw 2
      have g3 : V2.frozen? ⟨W.heap.size, 3, none⟩ = false := (HZ2.out).thaw 3
      go_wp2_with fail
      obtain ⟨W9, e9⟩ : ∃ W9, W9 = (((((V2.setCell ⟨W3.heap.size, 1, none⟩ (.int .i64 z)).setCell ⟨W.heap.size, 0, none⟩ (.int .i64 c)).setCell ⟨W.heap.size, 1, none⟩ (.int .i64 z)).setCell ⟨W.heap.size, 2, none⟩ (.int .i64 (1 + m))).setCell ⟨W.heap.size, 3, none⟩ (.int .i64 (1 + d))) := ⟨_, rfl⟩
      have Z9 : Blk W9 W.heap.size #[.int .i64 c, .int .i64 z, .int .i64 (1 + m), .int .i64 (1 + d)] 87 := by rw [e9]; exact ((((HZ2.out.other (by omega)).set 0 _).set 1 _).set 2 _).set 3 _
      have K9 : Cur n0 W9 a len cap B := by rw [e9]; exact ((((HK2.out.store _ (by omega) (by omega)).store _ (by omega) (by omega)).store _ (by omega) (by omega)).store _ (by omega) (by omega)).store _ (by omega) (by omega)
      have G9 : W.grownBy W9 (some B) := by rw [e9]; exact grown_store (grown_store (grown_store (grown_store (grown_store HG2.out _ (by omega)) _ (Nat.le_refl _)) _ (Nat.le_refl _)) _ (Nat.le_refl _)) _ (Nat.le_refl _)
      rw [← e9]
      clear e9
      have r0 : W9.cell? ⟨W.heap.size, 0, none⟩ = some (.int .i64 c) := Z9.cell 0 rfl
      have r1 : W9.cell? ⟨W.heap.size, 1, none⟩ = some (.int .i64 z) := Z9.cell 1 rfl
      have r2 : W9.cell? ⟨W.heap.size, 2, none⟩ = some (.int .i64 (1 + m)) := Z9.cell 2 rfl
      have r3 : W9.cell? ⟨W.heap.size, 3, none⟩ = some (.int .i64 (1 + d)) := Z9.cell 3 rfl
      refine bodyPost_ret (by simp [results, Tryz.results98, go_sem, r0, r1, r2, r3]; try rfl) rfl ?_
      exact ⟨_, _, _, _, rfl, K9, G9⟩
    by_cases e1 : s = 1
    · subst e1
      go_wp2_with fail
      refine (l01PickInt n0 _ a len cap B V1.heap.size 3 3 (fun j => ([0, 13, -1] : List Int).getD j 0) hlen (by omega) (by omega) (by rw [size_new]; omega) (Nat.ne_of_gt HK1.out.hi) (fun j hj => alloc_ints V1 [0, 13, -1] _ j hj) (HK1.out.alloc _)).mono ?_
      rintro e V2 ⟨j, hj, rfl, hC, hG⟩
      have HK2 : Hid (Cur n0 V2 a len cap B) := hC
      have HG2 : Hid (W.grownBy V2 (some B)) := grown_trans (grown_alloc HG1.out _) hG
      have HZ2 : Hid (Blk V2 W.heap.size #[.int .i64 0, .int .i64 0, .int .i64 0, .int .i64 0] 87) := (HZ1.out.alloc _).grown hG (by omega)
      have HD2 : Hid (Blk V2 W3.heap.size #[.int .i64 c, .int .i64 y, .int .i64 (1 + m), .int .i64 (1 + d)] 87) := (HD1.out.alloc _).grown hG (by omega)
      clear hC hG
      generalize ([0, 13, -1] : List Int).getD j 0 = z at *
      have p0 : V2.cell? ⟨W3.heap.size, 0, none⟩ = some (.int .i64 c) := (HD2.out).cell 0 rfl
      have p1 : V2.cell? ⟨W3.heap.size, 1, none⟩ = some (.int .i64 y) := (HD2.out).cell 1 rfl
      have p2 : V2.cell? ⟨W3.heap.size, 2, none⟩ = some (.int .i64 (1 + m)) := (HD2.out).cell 2 rfl
      have p3 : V2.cell? ⟨W3.heap.size, 3, none⟩ = some (.int .i64 (1 + d)) := (HD2.out).cell 3 rfl
      have f2 : V2.frozen? ⟨W3.heap.size, 2, none⟩ = false := (HD2.out).thaw 2
      have q0 : V2.cell? ⟨W.heap.size, 0, none⟩ = some (.int .i64 0) := (HZ2.out).cell 0 rfl
      have q1 : V2.cell? ⟨W.heap.size, 1, none⟩ = some (.int .i64 0) := (HZ2.out).cell 1 rfl
      have q2 : V2.cell? ⟨W.heap.size, 2, none⟩ = some (.int .i64 0) := (HZ2.out).cell 2 rfl
      have q3 : V2.cell? ⟨W.heap.size, 3, none⟩ = some (.int .i64 0) := (HZ2.out).cell 3 rfl
      have g0 : V2.frozen? ⟨W.heap.size, 0, none⟩ = false := (HZ2.out).thaw 0
      have g1 : V2.frozen? ⟨W.heap.size, 1, none⟩ = false := (HZ2.out).thaw 1
      have g2 : V2.frozen? ⟨W.heap.size, 2, none⟩ = false := (HZ2.out).thaw 2
      have g3 : V2.frozen? ⟨W.heap.size, 3, none⟩ = false := (HZ2.out).thaw 3
      go_wp2_with fail
      obtain ⟨W9, e9⟩ : ∃ W9, W9 = (((((V2.setCell ⟨W3.heap.size, 2, none⟩ (.int .i64 z)).setCell ⟨W.heap.size, 0, none⟩ (.int .i64 c)).setCell ⟨W.heap.size, 1, none⟩ (.int .i64 y)).setCell ⟨W.heap.size, 2, none⟩ (.int .i64 z)).setCell ⟨W.heap.size, 3, none⟩ (.int .i64 (1 + d))) := ⟨_, rfl⟩
      have Z9 : Blk W9 W.heap.size #[.int .i64 c, .int .i64 y, .int .i64 z, .int .i64 (1 + d)] 87 := by rw [e9]; exact ((((HZ2.out.other (by omega)).set 0 _).set 1 _).set 2 _).set 3 _
      have K9 : Cur n0 W9 a len cap B := by rw [e9]; exact ((((HK2.out.store _ (by omega) (by omega)).store _ (by omega) (by omega)).store _ (by omega) (by omega)).store _ (by omega) (by omega)).store _ (by omega) (by omega)
      have G9 : W.grownBy W9 (some B) := by rw [e9]; exact grown_store (grown_store (grown_store (grown_store (grown_store HG2.out _ (by omega)) _ (Nat.le_refl _)) _ (Nat.le_refl _)) _ (Nat.le_refl _)) _ (Nat.le_refl _)
      rw [← e9]
      clear e9
      have r0 : W9.cell? ⟨W.heap.size, 0, none⟩ = some (.int .i64 c) := Z9.cell 0 rfl
      have r1 : W9.cell? ⟨W.heap.size, 1, none⟩ = some (.int .i64 y) := Z9.cell 1 rfl
      have r2 : W9.cell? ⟨W.heap.size, 2, none⟩ = some (.int .i64 z) := Z9.cell 2 rfl
      have r3 : W9.cell? ⟨W.heap.size, 3, none⟩ = some (.int .i64 (1 + d)) := Z9.cell 3 rfl
      refine bodyPost_ret (by simp [results, Tryz.results98, go_sem, r0, r1, r2, r3]; try rfl) rfl ?_
      exact ⟨_, _, _, _, rfl, K9, G9⟩
    by_cases e2 : s = 2
    · subst e2
      go_wp2_with fail
      refine (l01PickInt n0 _ a len cap B V1.heap.size 3 3 (fun j => ([0, 32, -1] : List Int).getD j 0) hlen (by omega) (by omega) (by rw [size_new]; omega) (Nat.ne_of_gt HK1.out.hi) (fun j hj => alloc_ints V1 [0, 32, -1] _ j hj) (HK1.out.alloc _)).mono ?_
      rintro e V2 ⟨j, hj, rfl, hC, hG⟩
      have HK2 : Hid (Cur n0 V2 a len cap B) := hC
      have HG2 : Hid (W.grownBy V2 (some B)) := grown_trans (grown_alloc HG1.out _) hG
      have HZ2 : Hid (Blk V2 W.heap.size #[.int .i64 0, .int .i64 0, .int .i64 0, .int .i64 0] 87) := (HZ1.out.alloc _).grown hG (by omega)
      have HD2 : Hid (Blk V2 W3.heap.size #[.int .i64 c, .int .i64 y, .int .i64 (1 + m), .int .i64 (1 + d)] 87) := (HD1.out.alloc _).grown hG (by omega)
      clear hC hG
      generalize ([0, 32, -1] : List Int).getD j 0 = z at *
      have p0 : V2.cell? ⟨W3.heap.size, 0, none⟩ = some (.int .i64 c) := (HD2.out).cell 0 rfl
      have p1 : V2.cell? ⟨W3.heap.size, 1, none⟩ = some (.int .i64 y) := (HD2.out).cell 1 rfl
      have p2 : V2.cell? ⟨W3.heap.size, 2, none⟩ = some (.int .i64 (1 + m)) := (HD2.out).cell 2 rfl
      have p3 : V2.cell? ⟨W3.heap.size, 3, none⟩ = some (.int .i64 (1 + d)) := (HD2.out).cell 3 rfl
      have f3 : V2.frozen? ⟨W3.heap.size, 3, none⟩ = false := (HD2.out).thaw 3
      have q0 : V2.cell? ⟨W.heap.size, 0, none⟩ = some (.int .i64 0) := (HZ2.out).cell 0 rfl
      have q1 : V2.cell? ⟨W.heap.size, 1, none⟩ = some (.int .i64 0) := (HZ2.out).cell 1 rfl
      have q2 : V2.cell? ⟨W.heap.size, 2, none⟩ = some (.int .i64 0) := (HZ2.out).cell 2 rfl
      have q3 : V2.cell? ⟨W.heap.size, 3, none⟩ = some (.int .i64 0) := (HZ2.out).cell 3 rfl
      have g0 : V2.frozen? ⟨W.heap.size, 0, none⟩ = false := (HZ2.out).thaw 0
      have g1 : V2.frozen? ⟨W.heap.size, 1, none⟩ = false := (HZ2.out).thaw 1
      have g2 : V2.frozen? ⟨W.heap.size, 2, none⟩ = false := (HZ2.out).thaw 2
      have g3 : V2.frozen? ⟨W.heap.size, 3, none⟩ = false := (HZ2.out).thaw 3
      go_wp2_with fail
      obtain ⟨W9, e9⟩ : ∃ W9, W9 = (((((V2.setCell ⟨W3.heap.size, 3, none⟩ (.int .i64 z)).setCell ⟨W.heap.size, 0, none⟩ (.int .i64 c)).setCell ⟨W.heap.size, 1, none⟩ (.int .i64 y)).setCell ⟨W.heap.size, 2, none⟩ (.int .i64 (1 + m))).setCell ⟨W.heap.size, 3, none⟩ (.int .i64 z)) := ⟨_, rfl⟩
      have Z9 : Blk W9 W.heap.size #[.int .i64 c, .int .i64 y, .int .i64 (1 + m), .int .i64 z] 87 := by rw [e9]; exact ((((HZ2.out.other (by omega)).set 0 _).set 1 _).set 2 _).set 3 _
      have K9 : Cur n0 W9 a len cap B := by rw [e9]; exact ((((HK2.out.store _ (by omega) (by omega)).store _ (by omega) (by omega)).store _ (by omega) (by omega)).store _ (by omega) (by omega)).store _ (by omega) (by omega)
      have G9 : W.grownBy W9 (some B) := by rw [e9]; exact grown_store (grown_store (grown_store (grown_store (grown_store HG2.out _ (by omega)) _ (Nat.le_refl _)) _ (Nat.le_refl _)) _ (Nat.le_refl _)) _ (Nat.le_refl _)
      rw [← e9]
      clear e9
      have r0 : W9.cell? ⟨W.heap.size, 0, none⟩ = some (.int .i64 c) := Z9.cell 0 rfl
      have r1 : W9.cell? ⟨W.heap.size, 1, none⟩ = some (.int .i64 y) := Z9.cell 1 rfl
      have r2 : W9.cell? ⟨W.heap.size, 2, none⟩ = some (.int .i64 (1 + m)) := Z9.cell 2 rfl
      have r3 : W9.cell? ⟨W.heap.size, 3, none⟩ = some (.int .i64 z) := Z9.cell 3 rfl
      refine bodyPost_ret (by simp [results, Tryz.results98, go_sem, r0, r1, r2, r3]; try rfl) rfl ?_
      exact ⟨_, _, _, _, rfl, K9, G9⟩
    by_cases e3 : s = 3
    · subst e3
      go_wp2_with fail
      refine (l01PickInt n0 _ a len cap B V1.heap.size 2 2 (fun j => ([2, -1] : List Int).getD j 0) hlen (by omega) (by omega) (by rw [size_new]; omega) (Nat.ne_of_gt HK1.out.hi) (fun j hj => alloc_ints V1 [2, -1] _ j hj) (HK1.out.alloc _)).mono ?_
      rintro e V2 ⟨j, hj, rfl, hC, hG⟩
      have HK2 : Hid (Cur n0 V2 a len cap B) := hC
      have HG2 : Hid (W.grownBy V2 (some B)) := grown_trans (grown_alloc HG1.out _) hG
      have HZ2 : Hid (Blk V2 W.heap.size #[.int .i64 0, .int .i64 0, .int .i64 0, .int .i64 0] 87) := (HZ1.out.alloc _).grown hG (by omega)
      have HD2 : Hid (Blk V2 W3.heap.size #[.int .i64 c, .int .i64 y, .int .i64 (1 + m), .int .i64 (1 + d)] 87) := (HD1.out.alloc _).grown hG (by omega)
      clear hC hG
      generalize ([2, -1] : List Int).getD j 0 = z at *
      have p0 : V2.cell? ⟨W3.heap.size, 0, none⟩ = some (.int .i64 c) := (HD2.out).cell 0 rfl
      have p1 : V2.cell? ⟨W3.heap.size, 1, none⟩ = some (.int .i64 y) := (HD2.out).cell 1 rfl
      have p2 : V2.cell? ⟨W3.heap.size, 2, none⟩ = some (.int .i64 (1 + m)) := (HD2.out).cell 2 rfl
      have p3 : V2.cell? ⟨W3.heap.size, 3, none⟩ = some (.int .i64 (1 + d)) := (HD2.out).cell 3 rfl
      have f0 : V2.frozen? ⟨W3.heap.size, 0, none⟩ = false := (HD2.out).thaw 0
      have q0 : V2.cell? ⟨W.heap.size, 0, none⟩ = some (.int .i64 0) := (HZ2.out).cell 0 rfl
      have q1 : V2.cell? ⟨W.heap.size, 1, none⟩ = some (.int .i64 0) := (HZ2.out).cell 1 rfl
      have q2 : V2.cell? ⟨W.heap.size, 2, none⟩ = some (.int .i64 0) := (HZ2.out).cell 2 rfl
      have q3 : V2.cell? ⟨W.heap.size, 3, none⟩ = some (.int .i64 0) := (HZ2.out).cell 3 rfl
      have g0 : V2.frozen? ⟨W.heap.size, 0, none⟩ = false := (HZ2.out).thaw 0
      have g1 : V2.frozen? ⟨W.heap.size, 1, none⟩ = false := (HZ2.out).thaw 1
      have g2 : V2.frozen? ⟨W.heap.size, 2, none⟩ = false := (HZ2.out).thaw 2
      have g3 : V2.frozen? ⟨W.heap.size, 3, none⟩ = false := (HZ2.out).thaw 3
      go_wp2_with fail
      obtain ⟨W9, e9⟩ : ∃ W9, W9 = (((((V2.setCell ⟨W3.heap.size, 0, none⟩ (.int .i64 z)).setCell ⟨W.heap.size, 0, none⟩ (.int .i64 z)).setCell ⟨W.heap.size, 1, none⟩ (.int .i64 y)).setCell ⟨W.heap.size, 2, none⟩ (.int .i64 (1 + m))).setCell ⟨W.heap.size, 3, none⟩ (.int .i64 (1 + d))) := ⟨_, rfl⟩
      have Z9 : Blk W9 W.heap.size #[.int .i64 z, .int .i64 y, .int .i64 (1 + m), .int .i64 (1 + d)] 87 := by rw [e9]; exact ((((HZ2.out.other (by omega)).set 0 _).set 1 _).set 2 _).set 3 _
      have K9 : Cur n0 W9 a len cap B := by rw [e9]; exact ((((HK2.out.store _ (by omega) (by omega)).store _ (by omega) (by omega)).store _ (by omega) (by omega)).store _ (by omega) (by omega)).store _ (by omega) (by omega)
      have G9 : W.grownBy W9 (some B) := by rw [e9]; exact grown_store (grown_store (grown_store (grown_store (grown_store HG2.out _ (by omega)) _ (Nat.le_refl _)) _ (Nat.le_refl _)) _ (Nat.le_refl _)) _ (Nat.le_refl _)
      rw [← e9]
      clear e9
      have r0 : W9.cell? ⟨W.heap.size, 0, none⟩ = some (.int .i64 z) := Z9.cell 0 rfl
      have r1 : W9.cell? ⟨W.heap.size, 1, none⟩ = some (.int .i64 y) := Z9.cell 1 rfl
      have r2 : W9.cell? ⟨W.heap.size, 2, none⟩ = some (.int .i64 (1 + m)) := Z9.cell 2 rfl
      have r3 : W9.cell? ⟨W.heap.size, 3, none⟩ = some (.int .i64 (1 + d)) := Z9.cell 3 rfl
      refine bodyPost_ret (by simp [results, Tryz.results98, go_sem, r0, r1, r2, r3]; try rfl) rfl ?_
      exact ⟨_, _, _, _, rfl, K9, G9⟩
    have p0 : V1.cell? ⟨W3.heap.size, 0, none⟩ = some (.int .i64 c) := (HD1.out).cell 0 rfl
    have p1 : V1.cell? ⟨W3.heap.size, 1, none⟩ = some (.int .i64 y) := (HD1.out).cell 1 rfl
    have p2 : V1.cell? ⟨W3.heap.size, 2, none⟩ = some (.int .i64 (1 + m)) := (HD1.out).cell 2 rfl
    have p3 : V1.cell? ⟨W3.heap.size, 3, none⟩ = some (.int .i64 (1 + d)) := (HD1.out).cell 3 rfl
    have q0 : V1.cell? ⟨W.heap.size, 0, none⟩ = some (.int .i64 0) := (HZ1.out).cell 0 rfl
    have q1 : V1.cell? ⟨W.heap.size, 1, none⟩ = some (.int .i64 0) := (HZ1.out).cell 1 rfl
    have q2 : V1.cell? ⟨W.heap.size, 2, none⟩ = some (.int .i64 0) := (HZ1.out).cell 2 rfl
    have q3 : V1.cell? ⟨W.heap.size, 3, none⟩ = some (.int .i64 0) := (HZ1.out).cell 3 rfl
    have g0 : V1.frozen? ⟨W.heap.size, 0, none⟩ = false := (HZ1.out).thaw 0
    have g1 : V1.frozen? ⟨W.heap.size, 1, none⟩ = false := (HZ1.out).thaw 1
    have g2 : V1.frozen? ⟨W.heap.size, 2, none⟩ = false := (HZ1.out).thaw 2
    have g3 : V1.frozen? ⟨W.heap.size, 3, none⟩ = false := (HZ1.out).thaw 3
    go_wp2_with fail
    obtain ⟨W9, e9⟩ : ∃ W9, W9 = ((((V1.setCell ⟨W.heap.size, 0, none⟩ (.int .i64 c)).setCell ⟨W.heap.size, 1, none⟩ (.int .i64 y)).setCell ⟨W.heap.size, 2, none⟩ (.int .i64 (1 + m))).setCell ⟨W.heap.size, 3, none⟩ (.int .i64 (1 + d))) := ⟨_, rfl⟩
    have Z9 : Blk W9 W.heap.size #[.int .i64 c, .int .i64 y, .int .i64 (1 + m), .int .i64 (1 + d)] 87 := by rw [e9]; exact ((((HZ1.out).set 0 _).set 1 _).set 2 _).set 3 _
    have K9 : Cur n0 W9 a len cap B := by rw [e9]; exact ((((HK1.out).store _ (by omega) (by omega)).store _ (by omega) (by omega)).store _ (by omega) (by omega)).store _ (by omega) (by omega)
    have G9 : W.grownBy W9 (some B) := by rw [e9]; exact grown_store (grown_store (grown_store (grown_store (HG1.out) _ (Nat.le_refl _)) _ (Nat.le_refl _)) _ (Nat.le_refl _)) _ (Nat.le_refl _)
    rw [← e9]
    clear e9
    have r0 : W9.cell? ⟨W.heap.size, 0, none⟩ = some (.int .i64 c) := Z9.cell 0 rfl
    have r1 : W9.cell? ⟨W.heap.size, 1, none⟩ = some (.int .i64 y) := Z9.cell 1 rfl
    have r2 : W9.cell? ⟨W.heap.size, 2, none⟩ = some (.int .i64 (1 + m)) := Z9.cell 2 rfl
    have r3 : W9.cell? ⟨W.heap.size, 3, none⟩ = some (.int .i64 (1 + d)) := Z9.cell 3 rfl
    refine bodyPost_ret (by simp [results, Tryz.results98, go_sem, r0, r1, r2, r3]; try rfl) rfl ?_
    exact ⟨_, _, _, _, rfl, K9, G9⟩
  · have u2 := HDv.out.cell 2 rfl
    have v2 := HDv.out.thaw 2
    go_wp2_with fail
    refine (l01Below n0 _ a len cap B 3 hlen (by omega) (HKv.out.store _ (by omega) (by omega))).mono ?_
    rintro e W8 ⟨d2, rfl, hd2, hd3, hC, hG⟩
    have HK8 : Hid (Cur n0 W8 a len cap B) := hC
    have HG8 : Hid (W.grownBy W8 (some B)) := grown_trans (grown_store HGv.out _ (by omega)) hG
    have HZ8 : Hid (Blk W8 W.heap.size #[.int .i64 0, .int .i64 0, .int .i64 0, .int .i64 0] 87) := (HZv.out.other (by omega)).grown hG (by omega)
    have HD8 : Hid (Blk W8 W3.heap.size #[.int .i64 c, .int .i64 y, .int .i64 2, .int .i64 (1 + d)] 87) := (HDv.out.set 2 _).grown hG (by omega)
    clear hC hG u2 v2 HKv HGv HZv HDv
    have u3 := HD8.out.cell 3 rfl
    have v3 := HD8.out.thaw 3
    have HKv : Hid (Cur n0 (W8.setCell ⟨W3.heap.size, 3, none⟩ (.int .i64 (28 + d2))) a len cap B) := HK8.out.store _ (by omega) (by omega)
    have HGv : Hid (W.grownBy (W8.setCell ⟨W3.heap.size, 3, none⟩ (.int .i64 (28 + d2))) (some B)) := grown_store HG8.out _ (by omega)
    have HZv : Hid (Blk (W8.setCell ⟨W3.heap.size, 3, none⟩ (.int .i64 (28 + d2))) W.heap.size #[.int .i64 0, .int .i64 0, .int .i64 0, .int .i64 0] 87) := HZ8.out.other (by omega)
    have HDv : Hid (Blk (W8.setCell ⟨W3.heap.size, 3, none⟩ (.int .i64 (28 + d2))) W3.heap.size #[.int .i64 c, .int .i64 y, .int .i64 2, .int .i64 (28 + d2)] 87) := HD8.out.set 3 _
    go_wp2_with fail
    refine (l01Below n0 _ a len cap B 24 hlen (by omega) HKv.out).mono ?_
    rintro e V1 ⟨s, rfl, s0, s1, hC, hG⟩
    have HK1 : Hid (Cur n0 V1 a len cap B) := hC
    have HG1 : Hid (W.grownBy V1 (some B)) := grown_trans HGv.out hG
    have HZ1 : Hid (Blk V1 W.heap.size #[.int .i64 0, .int .i64 0, .int .i64 0, .int .i64 0] 87) := HZv.out.grown hG (by omega)
    have HD1 : Hid (Blk V1 W3.heap.size #[.int .i64 c, .int .i64 y, .int .i64 2, .int .i64 (28 + d2)] 87) := HDv.out.grown hG (by omega)
    clear hC hG
    by_cases e0 : s = 0
    · subst e0
      go_wp2_with fail
      refine (l01PickInt n0 _ a len cap B V1.heap.size 4 4 (fun j => ([0, 3001, -1, 9223372036854775807] : List Int).getD j 0) hlen (by omega) (by omega) (by rw [size_new]; omega) (Nat.ne_of_gt HK1.out.hi) (fun j hj => alloc_ints V1 [0, 3001, -1, 9223372036854775807] _ j hj) (HK1.out.alloc _)).mono ?_
      rintro e V2 ⟨j, hj, rfl, hC, hG⟩
      have HK2 : Hid (Cur n0 V2 a len cap B) := hC
      have HG2 : Hid (W.grownBy V2 (some B)) := grown_trans (grown_alloc HG1.out _) hG
      have HZ2 : Hid (Blk V2 W.heap.size #[.int .i64 0, .int .i64 0, .int .i64 0, .int .i64 0] 87) := (HZ1.out.alloc _).grown hG (by omega)
      have HD2 : Hid (Blk V2 W3.heap.size #[.int .i64 c, .int .i64 y, .int .i64 2, .int .i64 (28 + d2)] 87) := (HD1.out.alloc _).grown hG (by omega)
      clear hC hG
      generalize ([0, 3001, -1, 9223372036854775807] : List Int).getD j 0 = z at *
      have p0 : V2.cell? ⟨W3.heap.size, 0, none⟩ = some (.int .i64 c) := (HD2.out).cell 0 rfl
      have p1 : V2.cell? ⟨W3.heap.size, 1, none⟩ = some (.int .i64 y) := (HD2.out).cell 1 rfl
      have p2 : V2.cell? ⟨W3.heap.size, 2, none⟩ = some (.int .i64 2) := (HD2.out).cell 2 rfl
      have p3 : V2.cell? ⟨W3.heap.size, 3, none⟩ = some (.int .i64 (28 + d2)) := (HD2.out).cell 3 rfl
      have f1 : V2.frozen? ⟨W3.heap.size, 1, none⟩ = false := (HD2.out).thaw 1
      have q0 : V2.cell? ⟨W.heap.size, 0, none⟩ = some (.int .i64 0) := (HZ2.out).cell 0 rfl
      have q1 : V2.cell? ⟨W.heap.size, 1, none⟩ = some (.int .i64 0) := (HZ2.out).cell 1 rfl
      have q2 : V2.cell? ⟨W.heap.size, 2, none⟩ = some (.int .i64 0) := (HZ2.out).cell 2 rfl
      have q3 : V2.cell? ⟨W.heap.size, 3, none⟩ = some (.int .i64 0) := (HZ2.out).cell 3 rfl
      have g0 : V2.frozen? ⟨W.heap.size, 0, none⟩ = false := (HZ2.out).thaw 0
      have g1 : V2.frozen? ⟨W.heap.size, 1, none⟩ = false := (HZ2.out).thaw 1
      have g2 : V2.frozen? ⟨W.heap.size, 2, none⟩ = false := (HZ2.out).thaw 2
      have g3 : V2.frozen? ⟨W.heap.size, 3, none⟩ = false := (HZ2.out).thaw 3
      go_wp2_with fail
      obtain ⟨W9, e9⟩ : ∃ W9, W9 = (((((V2.setCell ⟨W3.heap.size, 1, none⟩ (.int .i64 z)).setCell ⟨W.heap.size, 0, none⟩ (.int .i64 c)).setCell ⟨W.heap.size, 1, none⟩ (.int .i64 z)).setCell ⟨W.heap.size, 2, none⟩ (.int .i64 2)).setCell ⟨W.heap.size, 3, none⟩ (.int .i64 (28 + d2))) := ⟨_, rfl⟩
      have Z9 : Blk W9 W.heap.size #[.int .i64 c, .int .i64 z, .int .i64 2, .int .i64 (28 + d2)] 87 := by rw [e9]; exact ((((HZ2.out.other (by omega)).set 0 _).set 1 _).set 2 _).set 3 _
      have K9 : Cur n0 W9 a len cap B := by rw [e9]; exact ((((HK2.out.store _ (by omega) (by omega)).store _ (by omega) (by omega)).store _ (by omega) (by omega)).store _ (by omega) (by omega)).store _ (by omega) (by omega)
      have G9 : W.grownBy W9 (some B) := by rw [e9]; exact grown_store (grown_store (grown_store (grown_store (grown_store HG2.out _ (by omega)) _ (Nat.le_refl _)) _ (Nat.le_refl _)) _ (Nat.le_refl _)) _ (Nat.le_refl _)
      rw [← e9]
      clear e9
      have r0 : W9.cell? ⟨W.heap.size, 0, none⟩ = some (.int .i64 c) := Z9.cell 0 rfl
      have r1 : W9.cell? ⟨W.heap.size, 1, none⟩ = some (.int .i64 z) := Z9.cell 1 rfl
      have r2 : W9.cell? ⟨W.heap.size, 2, none⟩ = some (.int .i64 2) := Z9.cell 2 rfl
      have r3 : W9.cell? ⟨W.heap.size, 3, none⟩ = some (.int .i64 (28 + d2)) := Z9.cell 3 rfl
      refine bodyPost_ret (by simp [results, Tryz.results98, go_sem, r0, r1, r2, r3]; try rfl) rfl ?_
      exact ⟨_, _, _, _, rfl, K9, G9⟩
    by_cases e1 : s = 1
    · subst e1
      go_wp2_with fail
      refine (l01PickInt n0 _ a len cap B V1.heap.size 3 3 (fun j => ([0, 13, -1] : List Int).getD j 0) hlen (by omega) (by omega) (by rw [size_new]; omega) (Nat.ne_of_gt HK1.out.hi) (fun j hj => alloc_ints V1 [0, 13, -1] _ j hj) (HK1.out.alloc _)).mono ?_
      rintro e V2 ⟨j, hj, rfl, hC, hG⟩
      have HK2 : Hid (Cur n0 V2 a len cap B) := hC
      have HG2 : Hid (W.grownBy V2 (some B)) := grown_trans (grown_alloc HG1.out _) hG
      have HZ2 : Hid (Blk V2 W.heap.size #[.int .i64 0, .int .i64 0, .int .i64 0, .int .i64 0] 87) := (HZ1.out.alloc _).grown hG (by omega)
      have HD2 : Hid (Blk V2 W3.heap.size #[.int .i64 c, .int .i64 y, .int .i64 2, .int .i64 (28 + d2)] 87) := (HD1.out.alloc _).grown hG (by omega)
      clear hC hG
      generalize ([0, 13, -1] : List Int).getD j 0 = z at *
      have p0 : V2.cell? ⟨W3.heap.size, 0, none⟩ = some (.int .i64 c) := (HD2.out).cell 0 rfl
      have p1 : V2.cell? ⟨W3.heap.size, 1, none⟩ = some (.int .i64 y) := (HD2.out).cell 1 rfl
      have p2 : V2.cell? ⟨W3.heap.size, 2, none⟩ = some (.int .i64 2) := (HD2.out).cell 2 rfl
      have p3 : V2.cell? ⟨W3.heap.size, 3, none⟩ = some (.int .i64 (28 + d2)) := (HD2.out).cell 3 rfl
      have f2 : V2.frozen? ⟨W3.heap.size, 2, none⟩ = false := (HD2.out).thaw 2
      have q0 : V2.cell? ⟨W.heap.size, 0, none⟩ = some (.int .i64 0) := (HZ2.out).cell 0 rfl
      have q1 : V2.cell? ⟨W.heap.size, 1, none⟩ = some (.int .i64 0) := (HZ2.out).cell 1 rfl
      have q2 : V2.cell? ⟨W.heap.size, 2, none⟩ = some (.int .i64 0) := (HZ2.out).cell 2 rfl
      have q3 : V2.cell? ⟨W.heap.size, 3, none⟩ = some (.int .i64 0) := (HZ2.out).cell 3 rfl
      have g0 : V2.frozen? ⟨W.heap.size, 0, none⟩ = false := (HZ2.out).thaw 0
      have g1 : V2.frozen? ⟨W.heap.size, 1, none⟩ = false := (HZ2.out).thaw 1
      have g2 : V2.frozen? ⟨W.heap.size, 2, none⟩ = false := (HZ2.out).thaw 2
      have g3 : V2.frozen? ⟨W.heap.size, 3, none⟩ = false := (HZ2.out).thaw 3
      go_wp2_with fail
      obtain ⟨W9, e9⟩ : ∃ W9, W9 = (((((V2.setCell ⟨W3.heap.size, 2, none⟩ (.int .i64 z)).setCell ⟨W.heap.size, 0, none⟩ (.int .i64 c)).setCell ⟨W.heap.size, 1, none⟩ (.int .i64 y)).setCell ⟨W.heap.size, 2, none⟩ (.int .i64 z)).setCell ⟨W.heap.size, 3, none⟩ (.int .i64 (28 + d2))) := ⟨_, rfl⟩
      have Z9 : Blk W9 W.heap.size #[.int .i64 c, .int .i64 y, .int .i64 z, .int .i64 (28 + d2)] 87 := by rw [e9]; exact ((((HZ2.out.other (by omega)).set 0 _).set 1 _).set 2 _).set 3 _
      have K9 : Cur n0 W9 a len cap B := by rw [e9]; exact ((((HK2.out.store _ (by omega) (by omega)).store _ (by omega) (by omega)).store _ (by omega) (by omega)).store _ (by omega) (by omega)).store _ (by omega) (by omega)
      have G9 : W.grownBy W9 (some B) := by rw [e9]; exact grown_store (grown_store (grown_store (grown_store (grown_store HG2.out _ (by omega)) _ (Nat.le_refl _)) _ (Nat.le_refl _)) _ (Nat.le_refl _)) _ (Nat.le_refl _)
      rw [← e9]
      clear e9
      have r0 : W9.cell? ⟨W.heap.size, 0, none⟩ = some (.int .i64 c) := Z9.cell 0 rfl
      have r1 : W9.cell? ⟨W.heap.size, 1, none⟩ = some (.int .i64 y) := Z9.cell 1 rfl
      have r2 : W9.cell? ⟨W.heap.size, 2, none⟩ = some (.int .i64 z) := Z9.cell 2 rfl
      have r3 : W9.cell? ⟨W.heap.size, 3, none⟩ = some (.int .i64 (28 + d2)) := Z9.cell 3 rfl
      refine bodyPost_ret (by simp [results, Tryz.results98, go_sem, r0, r1, r2, r3]; try rfl) rfl ?_
      exact ⟨_, _, _, _, rfl, K9, G9⟩
    by_cases e2 : s = 2
    · subst e2
      go_wp2_with fail
      refine (l01PickInt n0 _ a len cap B V1.heap.size 3 3 (fun j => ([0, 32, -1] : List Int).getD j 0) hlen (by omega) (by omega) (by rw [size_new]; omega) (Nat.ne_of_gt HK1.out.hi) (fun j hj => alloc_ints V1 [0, 32, -1] _ j hj) (HK1.out.alloc _)).mono ?_
      rintro e V2 ⟨j, hj, rfl, hC, hG⟩
      have HK2 : Hid (Cur n0 V2 a len cap B) := hC
      have HG2 : Hid (W.grownBy V2 (some B)) := grown_trans (grown_alloc HG1.out _) hG
      have HZ2 : Hid (Blk V2 W.heap.size #[.int .i64 0, .int .i64 0, .int .i64 0, .int .i64 0] 87) := (HZ1.out.alloc _).grown hG (by omega)
      have HD2 : Hid (Blk V2 W3.heap.size #[.int .i64 c, .int .i64 y, .int .i64 2, .int .i64 (28 + d2)] 87) := (HD1.out.alloc _).grown hG (by omega)
      clear hC hG
      generalize ([0, 32, -1] : List Int).getD j 0 = z at *
      have p0 : V2.cell? ⟨W3.heap.size, 0, none⟩ = some (.int .i64 c) := (HD2.out).cell 0 rfl
      have p1 : V2.cell? ⟨W3.heap.size, 1, none⟩ = some (.int .i64 y) := (HD2.out).cell 1 rfl
      have p2 : V2.cell? ⟨W3.heap.size, 2, none⟩ = some (.int .i64 2) := (HD2.out).cell 2 rfl
      have p3 : V2.cell? ⟨W3.heap.size, 3, none⟩ = some (.int .i64 (28 + d2)) := (HD2.out).cell 3 rfl
      have f3 : V2.frozen? ⟨W3.heap.size, 3, none⟩ = false := (HD2.out).thaw 3
      have q0 : V2.cell? ⟨W.heap.size, 0, none⟩ = some (.int .i64 0) := (HZ2.out).cell 0 rfl
      have q1 : V2.cell? ⟨W.heap.size, 1, none⟩ = some (.int .i64 0) := (HZ2.out).cell 1 rfl
      have q2 : V2.cell? ⟨W.heap.size, 2, none⟩ = some (.int .i64 0) := (HZ2.out).cell 2 rfl
      have q3 : V2.cell? ⟨W.heap.size, 3, none⟩ = some (.int .i64 0) := (HZ2.out).cell 3 rfl
      have g0 : V2.frozen? ⟨W.heap.size, 0, none⟩ = false := (HZ2.out).thaw 0
      have g1 : V2.frozen? ⟨W.heap.size, 1, none⟩ = false := (HZ2.out).thaw 1
      have g2 : V2.frozen? ⟨W.heap.size, 2, none⟩ = false := (HZ2.out).thaw 2
      have g3 : V2.frozen? ⟨W.heap.size, 3, none⟩ = false := (HZ2.out).thaw 3
      go_wp2_with fail
      obtain ⟨W9, e9⟩ : ∃ W9, W9 = (((((V2.setCell ⟨W3.heap.size, 3, none⟩ (.int .i64 z)).setCell ⟨W.heap.size, 0, none⟩ (.int .i64 c)).setCell ⟨W.heap.size, 1, none⟩ (.int .i64 y)).setCell ⟨W.heap.size, 2, none⟩ (.int .i64 2)).setCell ⟨W.heap.size, 3, none⟩ (.int .i64 z)) := ⟨_, rfl⟩
      have Z9 : Blk W9 W.heap.size #[.int .i64 c, .int .i64 y, .int .i64 2, .int .i64 z] 87 := by rw [e9]; exact ((((HZ2.out.other (by omega)).set 0 _).set 1 _).set 2 _).set 3 _
      have K9 : Cur n0 W9 a len cap B := by rw [e9]; exact ((((HK2.out.store _ (by omega) (by omega)).store _ (by omega) (by omega)).store _ (by omega) (by omega)).store _ (by omega) (by omega)).store _ (by omega) (by omega)
      have G9 : W.grownBy W9 (some B) := by rw [e9]; exact grown_store (grown_store (grown_store (grown_store (grown_store HG2.out _ (by omega)) _ (Nat.le_refl _)) _ (Nat.le_refl _)) _ (Nat.le_refl _)) _ (Nat.le_refl _)
      rw [← e9]
      clear e9
      have r0 : W9.cell? ⟨W.heap.size, 0, none⟩ = some (.int .i64 c) := Z9.cell 0 rfl
      have r1 : W9.cell? ⟨W.heap.size, 1, none⟩ = some (.int .i64 y) := Z9.cell 1 rfl
      have r2 : W9.cell? ⟨W.heap.size, 2, none⟩ = some (.int .i64 2) := Z9.cell 2 rfl
      have r3 : W9.cell? ⟨W.heap.size, 3, none⟩ = some (.int .i64 z) := Z9.cell 3 rfl
      refine bodyPost_ret (by simp [results, Tryz.results98, go_sem, r0, r1, r2, r3]; try rfl) rfl ?_
      exact ⟨_, _, _, _, rfl, K9, G9⟩
    by_cases e3 : s = 3
    · subst e3
      go_wp2_with fail
      refine (l01PickInt n0 _ a len cap B V1.heap.size 2 2 (fun j => ([2, -1] : List Int).getD j 0) hlen (by omega) (by omega) (by rw [size_new]; omega) (Nat.ne_of_gt HK1.out.hi) (fun j hj => alloc_ints V1 [2, -1] _ j hj) (HK1.out.alloc _)).mono ?_
      rintro e V2 ⟨j, hj, rfl, hC, hG⟩
      have HK2 : Hid (Cur n0 V2 a len cap B) := hC
      have HG2 : Hid (W.grownBy V2 (some B)) := grown_trans (grown_alloc HG1.out _) hG
      have HZ2 : Hid (Blk V2 W.heap.size #[.int .i64 0, .int .i64 0, .int .i64 0, .int .i64 0] 87) := (HZ1.out.alloc _).grown hG (by omega)
      have HD2 : Hid (Blk V2 W3.heap.size #[.int .i64 c, .int .i64 y, .int .i64 2, .int .i64 (28 + d2)] 87) := (HD1.out.alloc _).grown hG (by omega)
      clear hC hG
      generalize ([2, -1] : List Int).getD j 0 = z at *
      have p0 : V2.cell? ⟨W3.heap.size, 0, none⟩ = some (.int .i64 c) := (HD2.out).cell 0 rfl
      have p1 : V2.cell? ⟨W3.heap.size, 1, none⟩ = some (.int .i64 y) := (HD2.out).cell 1 rfl
      have p2 : V2.cell? ⟨W3.heap.size, 2, none⟩ = some (.int .i64 2) := (HD2.out).cell 2 rfl
      have p3 : V2.cell? ⟨W3.heap.size, 3, none⟩ = some (.int .i64 (28 + d2)) := (HD2.out).cell 3 rfl
      have f0 : V2.frozen? ⟨W3.heap.size, 0, none⟩ = false := (HD2.out).thaw 0
      have q0 : V2.cell? ⟨W.heap.size, 0, none⟩ = some (.int .i64 0) := (HZ2.out).cell 0 rfl
      have q1 : V2.cell? ⟨W.heap.size, 1, none⟩ = some (.int .i64 0) := (HZ2.out).cell 1 rfl
      have q2 : V2.cell? ⟨W.heap.size, 2, none⟩ = some (.int .i64 0) := (HZ2.out).cell 2 rfl
      have q3 : V2.cell? ⟨W.heap.size, 3, none⟩ = some (.int .i64 0) := (HZ2.out).cell 3 rfl
      have g0 : V2.frozen? ⟨W.heap.size, 0, none⟩ = false := (HZ2.out).thaw 0
      have g1 : V2.frozen? ⟨W.heap.size, 1, none⟩ = false := (HZ2.out).thaw 1
      have g2 : V2.frozen? ⟨W.heap.size, 2, none⟩ = false := (HZ2.out).thaw 2
      have g3 : V2.frozen? ⟨W.heap.size, 3, none⟩ = false := (HZ2.out).thaw 3
      go_wp2_with fail
      obtain ⟨W9, e9⟩ : ∃ W9, W9 = (((((V2.setCell ⟨W3.heap.size, 0, none⟩ (.int .i64 z)).setCell ⟨W.heap.size, 0, none⟩ (.int .i64 z)).setCell ⟨W.heap.size, 1, none⟩ (.int .i64 y)).setCell ⟨W.heap.size, 2, none⟩ (.int .i64 2)).setCell ⟨W.heap.size, 3, none⟩ (.int .i64 (28 + d2))) := ⟨_, rfl⟩
      have Z9 : Blk W9 W.heap.size #[.int .i64 z, .int .i64 y, .int .i64 2, .int .i64 (28 + d2)] 87 := by rw [e9]; exact ((((HZ2.out.other (by omega)).set 0 _).set 1 _).set 2 _).set 3 _
      have K9 : Cur n0 W9 a len cap B := by rw [e9]; exact ((((HK2.out.store _ (by omega) (by omega)).store _ (by omega) (by omega)).store _ (by omega) (by omega)).store _ (by omega) (by omega)).store _ (by omega) (by omega)
      have G9 : W.grownBy W9 (some B) := by rw [e9]; exact grown_store (grown_store (grown_store (grown_store (grown_store HG2.out _ (by omega)) _ (Nat.le_refl _)) _ (Nat.le_refl _)) _ (Nat.le_refl _)) _ (Nat.le_refl _)
      rw [← e9]
      clear e9
      have r0 : W9.cell? ⟨W.heap.size, 0, none⟩ = some (.int .i64 z) := Z9.cell 0 rfl
      have r1 : W9.cell? ⟨W.heap.size, 1, none⟩ = some (.int .i64 y) := Z9.cell 1 rfl
      have r2 : W9.cell? ⟨W.heap.size, 2, none⟩ = some (.int .i64 2) := Z9.cell 2 rfl
      have r3 : W9.cell? ⟨W.heap.size, 3, none⟩ = some (.int .i64 (28 + d2)) := Z9.cell 3 rfl
      refine bodyPost_ret (by simp [results, Tryz.results98, go_sem, r0, r1, r2, r3]; try rfl) rfl ?_
      exact ⟨_, _, _, _, rfl, K9, G9⟩
    have p0 : V1.cell? ⟨W3.heap.size, 0, none⟩ = some (.int .i64 c) := (HD1.out).cell 0 rfl
    have p1 : V1.cell? ⟨W3.heap.size, 1, none⟩ = some (.int .i64 y) := (HD1.out).cell 1 rfl
    have p2 : V1.cell? ⟨W3.heap.size, 2, none⟩ = some (.int .i64 2) := (HD1.out).cell 2 rfl
    have p3 : V1.cell? ⟨W3.heap.size, 3, none⟩ = some (.int .i64 (28 + d2)) := (HD1.out).cell 3 rfl
    have q0 : V1.cell? ⟨W.heap.size, 0, none⟩ = some (.int .i64 0) := (HZ1.out).cell 0 rfl
    have q1 : V1.cell? ⟨W.heap.size, 1, none⟩ = some (.int .i64 0) := (HZ1.out).cell 1 rfl
    have q2 : V1.cell? ⟨W.heap.size, 2, none⟩ = some (.int .i64 0) := (HZ1.out).cell 2 rfl
    have q3 : V1.cell? ⟨W.heap.size, 3, none⟩ = some (.int .i64 0) := (HZ1.out).cell 3 rfl
    have g0 : V1.frozen? ⟨W.heap.size, 0, none⟩ = false := (HZ1.out).thaw 0
    have g1 : V1.frozen? ⟨W.heap.size, 1, none⟩ = false := (HZ1.out).thaw 1
    have g2 : V1.frozen? ⟨W.heap.size, 2, none⟩ = false := (HZ1.out).thaw 2
    have g3 : V1.frozen? ⟨W.heap.size, 3, none⟩ = false := (HZ1.out).thaw 3
    go_wp2_with fail
    obtain ⟨W9, e9⟩ : ∃ W9, W9 = ((((V1.setCell ⟨W.heap.size, 0, none⟩ (.int .i64 c)).setCell ⟨W.heap.size, 1, none⟩ (.int .i64 y)).setCell ⟨W.heap.size, 2, none⟩ (.int .i64 2)).setCell ⟨W.heap.size, 3, none⟩ (.int .i64 (28 + d2))) := ⟨_, rfl⟩
    have Z9 : Blk W9 W.heap.size #[.int .i64 c, .int .i64 y, .int .i64 2, .int .i64 (28 + d2)] 87 := by rw [e9]; exact ((((HZ1.out).set 0 _).set 1 _).set 2 _).set 3 _
    have K9 : Cur n0 W9 a len cap B := by rw [e9]; exact ((((HK1.out).store _ (by omega) (by omega)).store _ (by omega) (by omega)).store _ (by omega) (by omega)).store _ (by omega) (by omega)
    have G9 : W.grownBy W9 (some B) := by rw [e9]; exact grown_store (grown_store (grown_store (grown_store (HG1.out) _ (Nat.le_refl _)) _ (Nat.le_refl _)) _ (Nat.le_refl _)) _ (Nat.le_refl _)
    rw [← e9]
    clear e9
    have r0 : W9.cell? ⟨W.heap.size, 0, none⟩ = some (.int .i64 c) := Z9.cell 0 rfl
    have r1 : W9.cell? ⟨W.heap.size, 1, none⟩ = some (.int .i64 y) := Z9.cell 1 rfl
    have r2 : W9.cell? ⟨W.heap.size, 2, none⟩ = some (.int .i64 2) := Z9.cell 2 rfl
    have r3 : W9.cell? ⟨W.heap.size, 3, none⟩ = some (.int .i64 (28 + d2)) := Z9.cell 3 rfl
    refine bodyPost_ret (by simp [results, Tryz.results98, go_sem, r0, r1, r2, r3]; try rfl) rfl ?_
    exact ⟨_, _, _, _, rfl, K9, G9⟩
end Go.Proofs.YtcdcniniafejbaaGreatDoor.ctr

namespace Go.Proofs.YtcdcniniafejbaaGreatDoor.ctr
open Go.RowKit

set_option maxHeartbeats 1000000 in
theorem l02Good (n0 : Nat) (W : World) (a : Option Addr) (len cap B : Nat) (hlen : len ≤ maxLen) (hC : Cur n0 W a len cap B) :
    Calls Tryz.prog 70 #[.pointer (some ⟨B, 0, none⟩)] W fun e W' => ∃ c y m d : Int, e = .returned (.agg #[.int .i64 c, .int .i64 y, .int .i64 m, .int .i64 d]) ∧ Cur n0 W' a len cap B ∧ W.grownBy W' (some B) := by
  have HK : Hid (Cur n0 W a len cap B) := hC
  clear hC
  have h1 := HK.out.hi
  have h2 := HK.out.lo
  go_enter Tryz.func70, Tryz.ntmps70
  go_wp2_with fail
  refine (l02Date n0 _ a len cap B hlen (HK.out.alloc _)).mono ?_
  rintro e W1 ⟨c, y, m, d, rfl, hC, hG⟩
  have HK1 : Hid (Cur n0 W1 a len cap B) := hC
  have HG1 : Hid (W.grownBy W1 (some B)) := grown_trans (grown_alloc (grown_refl W _) _) hG
  have HZ1 : Hid (Blk W1 W.heap.size #[.int .i64 0, .int .i64 0, .int .i64 0, .int .i64 0] 87) := (Blk.new W _ _).grown hG (by omega)
  have h3 : W.heap.size < W1.heap.size := HZ1.out.lt
  clear hC hG
  have K0 := fun W => specDateOk c y m d W
  cases hok : dateOk c y m d
  · rw [hok] at K0
    clear hok
    go_wp2_with fail
    refine (K0 _).mono ?_
    rintro e W2 ⟨rfl, hb⟩
    have HK2 : Hid (Cur n0 W2 a len cap B) := (HK1.out.alloc _).below hb
    have HG2 : Hid (W.grownBy W2 (some B)) := grown_trans (grown_alloc HG1.out _) (grown_of_below hb)
    have HZ2 : Hid (Blk W2 W.heap.size #[.int .i64 0, .int .i64 0, .int .i64 0, .int .i64 0] 87) := (HZ1.out.alloc _).below hb (by rw [size_new]; omega)
    have HD2 : Hid (Blk W2 W1.heap.size #[.int .i64 c, .int .i64 y, .int .i64 m, .int .i64 d] 87) := (Blk.new W1 _ _).below hb (by rw [size_new]; omega)
    clear hb
    have p0 : W2.cell? ⟨W1.heap.size, 0, none⟩ = some (.int .i64 c) := (HD2.out).cell 0 rfl
    have p1 : W2.cell? ⟨W1.heap.size, 1, none⟩ = some (.int .i64 y) := (HD2.out).cell 1 rfl
    have p2 : W2.cell? ⟨W1.heap.size, 2, none⟩ = some (.int .i64 m) := (HD2.out).cell 2 rfl
    have p3 : W2.cell? ⟨W1.heap.size, 3, none⟩ = some (.int .i64 d) := (HD2.out).cell 3 rfl
    have q0 : W2.cell? ⟨W.heap.size, 0, none⟩ = some (.int .i64 0) := (HZ2.out).cell 0 rfl
    have q1 : W2.cell? ⟨W.heap.size, 1, none⟩ = some (.int .i64 0) := (HZ2.out).cell 1 rfl
    have q2 : W2.cell? ⟨W.heap.size, 2, none⟩ = some (.int .i64 0) := (HZ2.out).cell 2 rfl
    have q3 : W2.cell? ⟨W.heap.size, 3, none⟩ = some (.int .i64 0) := (HZ2.out).cell 3 rfl
    have g0 : W2.frozen? ⟨W.heap.size, 0, none⟩ = false := (HZ2.out).thaw 0
    have g1 : W2.frozen? ⟨W.heap.size, 1, none⟩ = false := (HZ2.out).thaw 1
    have g2 : W2.frozen? ⟨W.heap.size, 2, none⟩ = false := (HZ2.out).thaw 2
    have g3 : W2.frozen? ⟨W.heap.size, 3, none⟩ = false := (HZ2.out).thaw 3
    go_wp2_with fail
    obtain ⟨W9, e9⟩ : ∃ W9, W9 = ((((W2.setCell ⟨W.heap.size, 0, none⟩ (.int .i64 0)).setCell ⟨W.heap.size, 1, none⟩ (.int .i64 1345)).setCell ⟨W.heap.size, 2, none⟩ (.int .i64 4)).setCell ⟨W.heap.size, 3, none⟩ (.int .i64 1)) := ⟨_, rfl⟩
    have Z9 : Blk W9 W.heap.size #[.int .i64 0, .int .i64 1345, .int .i64 4, .int .i64 1] 87 := by rw [e9]; exact ((((HZ2.out).set 0 _).set 1 _).set 2 _).set 3 _
    have K9 : Cur n0 W9 a len cap B := by rw [e9]; exact ((((HK2.out).store _ (by omega) (by omega)).store _ (by omega) (by omega)).store _ (by omega) (by omega)).store _ (by omega) (by omega)
    have G9 : W.grownBy W9 (some B) := by rw [e9]; exact grown_store (grown_store (grown_store (grown_store (HG2.out) _ (Nat.le_refl _)) _ (Nat.le_refl _)) _ (Nat.le_refl _)) _ (Nat.le_refl _)
    rw [← e9]
    clear e9
    have r0 : W9.cell? ⟨W.heap.size, 0, none⟩ = some (.int .i64 0) := Z9.cell 0 rfl
    have r1 : W9.cell? ⟨W.heap.size, 1, none⟩ = some (.int .i64 1345) := Z9.cell 1 rfl
    have r2 : W9.cell? ⟨W.heap.size, 2, none⟩ = some (.int .i64 4) := Z9.cell 2 rfl
    have r3 : W9.cell? ⟨W.heap.size, 3, none⟩ = some (.int .i64 1) := Z9.cell 3 rfl
    refine bodyPost_ret (by simp [results, Tryz.results70, go_sem, r0, r1, r2, r3]; try rfl) rfl ?_
    exact ⟨_, _, _, _, rfl, K9, G9⟩
  · rw [hok] at K0
    clear hok
    go_wp2_with fail
    refine (K0 _).mono ?_
    rintro e W2 ⟨rfl, hb⟩
    have HK2 : Hid (Cur n0 W2 a len cap B) := (HK1.out.alloc _).below hb
    have HG2 : Hid (W.grownBy W2 (some B)) := grown_trans (grown_alloc HG1.out _) (grown_of_below hb)
    have HZ2 : Hid (Blk W2 W.heap.size #[.int .i64 0, .int .i64 0, .int .i64 0, .int .i64 0] 87) := (HZ1.out.alloc _).below hb (by rw [size_new]; omega)
    have HD2 : Hid (Blk W2 W1.heap.size #[.int .i64 c, .int .i64 y, .int .i64 m, .int .i64 d] 87) := (Blk.new W1 _ _).below hb (by rw [size_new]; omega)
    clear hb
    have p0 : W2.cell? ⟨W1.heap.size, 0, none⟩ = some (.int .i64 c) := (HD2.out).cell 0 rfl
    have p1 : W2.cell? ⟨W1.heap.size, 1, none⟩ = some (.int .i64 y) := (HD2.out).cell 1 rfl
    have p2 : W2.cell? ⟨W1.heap.size, 2, none⟩ = some (.int .i64 m) := (HD2.out).cell 2 rfl
    have p3 : W2.cell? ⟨W1.heap.size, 3, none⟩ = some (.int .i64 d) := (HD2.out).cell 3 rfl
    have q0 : W2.cell? ⟨W.heap.size, 0, none⟩ = some (.int .i64 0) := (HZ2.out).cell 0 rfl
    have q1 : W2.cell? ⟨W.heap.size, 1, none⟩ = some (.int .i64 0) := (HZ2.out).cell 1 rfl
    have q2 : W2.cell? ⟨W.heap.size, 2, none⟩ = some (.int .i64 0) := (HZ2.out).cell 2 rfl
    have q3 : W2.cell? ⟨W.heap.size, 3, none⟩ = some (.int .i64 0) := (HZ2.out).cell 3 rfl
    have g0 : W2.frozen? ⟨W.heap.size, 0, none⟩ = false := (HZ2.out).thaw 0
    have g1 : W2.frozen? ⟨W.heap.size, 1, none⟩ = false := (HZ2.out).thaw 1
    have g2 : W2.frozen? ⟨W.heap.size, 2, none⟩ = false := (HZ2.out).thaw 2
    have g3 : W2.frozen? ⟨W.heap.size, 3, none⟩ = false := (HZ2.out).thaw 3
    go_wp2_with fail
    obtain ⟨W9, e9⟩ : ∃ W9, W9 = ((((W2.setCell ⟨W.heap.size, 0, none⟩ (.int .i64 c)).setCell ⟨W.heap.size, 1, none⟩ (.int .i64 y)).setCell ⟨W.heap.size, 2, none⟩ (.int .i64 m)).setCell ⟨W.heap.size, 3, none⟩ (.int .i64 d)) := ⟨_, rfl⟩
    have Z9 : Blk W9 W.heap.size #[.int .i64 c, .int .i64 y, .int .i64 m, .int .i64 d] 87 := by rw [e9]; exact ((((HZ2.out).set 0 _).set 1 _).set 2 _).set 3 _
    have K9 : Cur n0 W9 a len cap B := by rw [e9]; exact ((((HK2.out).store _ (by omega) (by omega)).store _ (by omega) (by omega)).store _ (by omega) (by omega)).store _ (by omega) (by omega)
    have G9 : W.grownBy W9 (some B) := by rw [e9]; exact grown_store (grown_store (grown_store (grown_store (HG2.out) _ (Nat.le_refl _)) _ (Nat.le_refl _)) _ (Nat.le_refl _)) _ (Nat.le_refl _)
    rw [← e9]
    clear e9
    have r0 : W9.cell? ⟨W.heap.size, 0, none⟩ = some (.int .i64 c) := Z9.cell 0 rfl
    have r1 : W9.cell? ⟨W.heap.size, 1, none⟩ = some (.int .i64 y) := Z9.cell 1 rfl
    have r2 : W9.cell? ⟨W.heap.size, 2, none⟩ = some (.int .i64 m) := Z9.cell 2 rfl
    have r3 : W9.cell? ⟨W.heap.size, 3, none⟩ = some (.int .i64 d) := Z9.cell 3 rfl
    refine bodyPost_ret (by simp [results, Tryz.results70, go_sem, r0, r1, r2, r3]; try rfl) rfl ?_
    exact ⟨_, _, _, _, rfl, K9, G9⟩

def somesIn : List Int := [-1, -2, 0, 1, 1095727, 1095728, 1095750, -1000, -1001, 1200000, 1200001, 9223372036854775807, -9223372036854775808]
theorem somes_ok (j : Nat) (h : j < 13) : I64 (somesIn.getD j 0) := by
  have : j = 0 ∨ j = 1 ∨ j = 2 ∨ j = 3 ∨ j = 4 ∨ j = 5 ∨ j = 6 ∨ j = 7 ∨ j = 8 ∨ j = 9 ∨ j = 10 ∨ j = 11 ∨ j = 12 := by omega
  unfold I64
  rcases this with rfl | rfl | rfl | rfl | rfl | rfl | rfl | rfl | rfl | rfl | rfl | rfl | rfl <;> simp [somesIn]
end Go.Proofs.YtcdcniniafejbaaGreatDoor.ctr

namespace Go.Proofs.YtcdcniniafejbaaGreatDoor.ctr
open Go.RowKit

def calsIn : List Int := [0, 1, 0, 1, 0, 1, 0, 1, 2, -1]
def oddYears : List Int := [0, 3001, -5, 9223372036854775807]
def stepsIn : List Int := [0, 1, 19, 60, -1, 1000]
end Go.Proofs.YtcdcniniafejbaaGreatDoor.ctr

namespace Go.Proofs.YtcdcniniafejbaaGreatDoor.ctr
open Go.RowKit

end Go.Proofs.YtcdcniniafejbaaGreatDoor.ctr

namespace Go.Proofs.YtcdcniniafejbaaGreatDoor.ctr
open Go.RowKit

def bentIn : List ByteArray := [⟨#[48]⟩, ⟨#[32]⟩, ⟨#[73]⟩, ⟨#[97]⟩, ⟨#[10]⟩, ⟨#[47]⟩, ⟨#[49]⟩, ⟨#[88]⟩]
def bentFor : List ByteArray := [⟨#[48]⟩, ⟨#[65]⟩, ⟨#[86]⟩, ⟨#[57]⟩, ⟨#[32]⟩, ⟨#[98]⟩]
theorem hide {p : Prop} (h : p) : Hid p := h
theorem Cur.drew {n0 : Nat} {W : World} {a : Option Addr} {len cap B : Nat} (h : Cur n0 W a len cap B) : Cur n0 W.drew a len cap B :=
  ⟨h.lo, h.hi, h.code, h.c0, h.c1, h.c2, h.f1, h.f2⟩
theorem grown_drew {W W1 : World} {r : Option Nat} (h : W.grownBy W1 r) : W.grownBy W1.drew r := ⟨h.os, h.tape, h.output, h.size, h.block⟩
theorem bentIn_len : ∀ j : Fin 8, (bentIn.getD j.val ⟨#[]⟩).size = 1 := by decide
theorem bentFor_len : ∀ j : Fin 6, (bentFor.getD j.val ⟨#[]⟩).size = 1 := by decide
theorem ext_size (s : ByteArray) (i j : Nat) : (s.extract i j).size = min j s.size - i := ByteArray.size_extract ..

set_option maxHeartbeats 2000000 in
theorem l01Bent (n0 : Nat) (W : World) (a : Option Addr) (len cap B : Nat) (s : ByteArray) (hlen : len ≤ maxLen) (hs : s.size ≤ 1000) (hC : Cur n0 W a len cap B) :
    Calls Tryz.prog 46 #[.pointer (some ⟨B, 0, none⟩), .string s] W fun e W' => ∃ r : ByteArray, e = .returned (.string r) ∧ r.size ≤ s.size + 1 ∧ Cur n0 W' a len cap B ∧ W.grownBy W' (some B) := by
  have HK : Hid (Cur n0 W a len cap B) := hC
  clear hC
  go_enter Tryz.func46, Tryz.ntmps46
  go_wp2_with fail
  refine (l01Below n0 _ a len cap B _ hlen (by omega) HK.out).mono ?_
  rintro e W1 ⟨x, rfl, x0, x1, hC1, hG1⟩
  obtain ⟨i, rfl⟩ := Int.eq_ofNat_of_zero_le x0
  have HK1 : Hid (Cur n0 W1 a len cap B) := hC1
  have HG1 : Hid (W.grownBy W1 (some B)) := hG1
  clear hC1 hG1
  go_wp2_with fail
  refine (l01Below n0 _ a len cap B 10 hlen (by omega) HK1.out).mono ?_
  rintro e W2 ⟨k, rfl, k0, k1, hC2, hG2⟩
  have HK2 : Hid (Cur n0 W2 a len cap B) := hC2
  have HG2 : Hid (W.grownBy W2 (some B)) := grown_trans HG1.out hG2
  clear hC2 hG2
  have hi : i ≤ s.size := by omega
  have hx1 : (s.extract 0 i).size ≤ 1000 := by rw [ext_size]; omega
  have hx2 : (s.extract i s.size).size ≤ 1000 := by rw [ext_size]; omega
  have hx3 : (s.extract (i + 1) s.size).size ≤ 1000 := by rw [ext_size]; omega
  by_cases e0 : k = 0
  · subst e0
    go_wp2
    go_ret
    exact ⟨_, rfl, by rw [ext_size]; omega, HK2.out, HG2.out⟩
  have e0' : (k == 0) = false := by simp [e0]
  by_cases e1 : k = 1
  · subst e1
    go_wp2
    go_region_with (go_at_call 45; refine (l01Pick n0 _ a len cap B W2.heap.size 8 8 (fun j => bentIn.getD j ⟨#[]⟩) hlen (by omega) (by omega) ?_ ?_ ?_ ?_).mono ?_; (show W2.heap.size < (W2.alloc _).heap.size; rw [size_new]; omega); exact Nat.ne_of_gt HK2.out.hi; exact (fun j hj => alloc_strs W2 bentIn _ j hj); (first | exact (HK2.out.alloc _).drew | exact HK2.out.alloc _ | exact (HK2.out.alloc _).drewN _); rintro e W3 ⟨j, hj, rfl, hC3, hG3⟩; obtain ⟨r, hr, hr1⟩ : ∃ r, bentIn.getD j ⟨#[]⟩ = r ∧ r.size ≤ 1 := ⟨_, rfl, Nat.le_of_eq (bentIn_len ⟨j, hj⟩)⟩; rw [hr]; clear hr; have HG3 := hide hG3; have HC3 := hide hC3; clear hG3 hC3)
    go_wp2
    go_ret
    refine ⟨_, rfl, ?_, (Hid.out HC3), ?_⟩
    · simp only [ByteArray.size_append, ext_size]
      omega
    · first | exact grown_trans (grown_drew (grown_alloc HG2.out _)) HG3.out | exact grown_trans (grown_alloc HG2.out _) HG3.out | exact grown_trans (grown_drewN (grown_alloc HG2.out _) _) HG3.out
  have e1' : (k == 1) = false := by simp [e1]
  by_cases e2 : k = 2
  · subst e2
    by_cases hl : i < s.size
    · have hl2 : (i : Int) + 1 ≤ (s.size : Int) := by omega
      have hwr : IntKind.i64.wrap ((i : Int) + 1) = (i : Int) + 1 := by rw [PlainAid.i64_is]; unfold wrap64; omega
      have hle : (i : Int) ≤ 1000 := by omega
      have hsl : ∀ w : World, (Instr.slice 9 (.string s) (some (.int .i64 ((i : Int) + 1))) none none).run Tryz.prog w = .ok (.string (s.extract (i + 1) s.size)) w := fun w => (run_slice_string_l (P := Tryz.prog) (w := w) (t := 9) (s := s) (ht := Tryz.underlying9) .i64 ((i : Int) + 1) (by omega) (by omega)).trans (by rw [show ((i : Int) + 1).toNat = i + 1 from by omega])
      go_wp2
      go_region_with (go_at_call 45; refine (l01Pick n0 _ a len cap B W2.heap.size 6 6 (fun j => bentFor.getD j ⟨#[]⟩) hlen (by omega) (by omega) ?_ ?_ ?_ ?_).mono ?_; (show W2.heap.size < (W2.alloc _).heap.size; rw [size_new]; omega); exact Nat.ne_of_gt HK2.out.hi; exact (fun j hj => alloc_strs W2 bentFor _ j hj); (first | exact (HK2.out.alloc _).drew | exact HK2.out.alloc _ | exact (HK2.out.alloc _).drewN _); rintro e W3 ⟨j, hj, rfl, hC3, hG3⟩; obtain ⟨r, hr, hr1⟩ : ∃ r, bentFor.getD j ⟨#[]⟩ = r ∧ r.size ≤ 1 := ⟨_, rfl, Nat.le_of_eq (bentFor_len ⟨j, hj⟩)⟩; rw [hr]; clear hr; have HG3 := hide hG3; have HC3 := hide hC3; clear hG3 hC3)
      go_wp2
      go_ret
      refine ⟨_, rfl, ?_, (Hid.out HC3), ?_⟩
      · simp only [ByteArray.size_append, ext_size]
        omega
      · first | exact grown_trans (grown_drew (grown_alloc HG2.out _)) HG3.out | exact grown_trans (grown_alloc HG2.out _) HG3.out | exact grown_trans (grown_drewN (grown_alloc HG2.out _) _) HG3.out
    · go_wp2
      go_ret
      exact ⟨_, rfl, by omega, HK2.out, HG2.out⟩
  have e2' : (k == 2) = false := by simp [e2]
  go_wp2
  go_ret
  exact ⟨_, rfl, by omega, HK2.out, HG2.out⟩
end Go.Proofs.YtcdcniniafejbaaGreatDoor.ctr

namespace Go.Proofs.YtcdcniniafejbaaGreatDoor.ctr
open Go.RowKit Go.ChangeShapes

theorem code_of {W : World} {a : Option Addr} {len cap : Nat} {zs : List Int} (h : kit.IsRow .u8 W a len cap zs) : CodeAt W.heap.size W a len ∧ len ≤ maxLen := by
  rcases h with ⟨rfl, rfl, rfl, rfl⟩ | ⟨x, rfl, hl, hm, hz, hcell, hwz⟩
  · exact ⟨.inl rfl, Nat.zero_le _⟩
  · refine ⟨?_, Nat.le_trans hl hm⟩
    by_cases h0 : len = 0
    · exact .inl h0
    · obtain ⟨b, off, spot⟩ := x
      have hc := hcell 0 (by omega)
      have hspot : spot = none := by simpa [Addr.add] using World.cell?_spot hc
      subst hspot
      have hadd : ∀ i : Nat, (⟨b, off, none⟩ : Addr).add i = ⟨b, off + i, none⟩ := fun i => by unfold Addr.add; split <;> simp_all
      have hblk : b < W.heap.size := by
        rw [hadd] at hc
        by_cases hb : b < W.heap.size
        · exact hb
        · simp [World.cell?, Array.getElem?_eq_none (Nat.le_of_not_lt hb)] at hc
      refine .inr ⟨b, off, fun i => zs.getD i 0, rfl, hblk, fun i hi => by rw [← hadd]; exact hcell i (by omega), fun i hi => ?_⟩
      have hmem : zs.getD i 0 ∈ zs := by
        rw [List.getD, List.getElem?_eq_getElem (show i < zs.length by omega)]
        exact List.getElem_mem _
      exact bounds_u8 (hwz _ hmem)
theorem CodeAt.up {W W' : World} {a : Option Addr} {len : Nat} (h : CodeAt W.heap.size W a len) (hb : Below W.heap.size W W') : CodeAt W'.heap.size W' a len := by
  rcases h with h | ⟨b, off, zs, ha, hlt, hc, hz⟩
  · exact .inl h
  · exact .inr ⟨b, off, zs, ha, Nat.lt_of_lt_of_le hlt hb.size, fun i hi => by rw [hb.cell (p := ⟨b, off + i, none⟩) hlt]; exact hc i hi, hz⟩

theorem big_ (w : World) (a : Option Addr) (len cap : Nat) : Calls Tryz.prog 5 #[.slice a len cap] w fun e w' => e = .returned (.bool (decide ((1048576 : Int) < (len : Int)))) ∧ w' = w := by
  go_enter Tryz.func5, Tryz.ntmps5
  go_wp2
  go_ret
  exact ⟨rfl, rfl⟩
end Go.Proofs.YtcdcniniafejbaaGreatDoor.ctr

namespace Go.Proofs.YtcdcniniafejbaaGreatDoor.ctr
open Go.RowKit

theorem cell_two_new (w : World) (x y : Value) (t : TypeId) : ∀ j u, [x, y][j]? = some u → (w.alloc (.cells #[x, y] t)).cell? ((⟨w.heap.size, 0, none⟩ : Addr).add j) = some u := by
  intro j u hj
  have ha : (⟨w.heap.size, 0, none⟩ : Addr).add j = ⟨w.heap.size, j, none⟩ := by unfold Addr.add; split <;> simp_all
  rw [ha, cell_new]
  simpa using hj
def styOdd : List Int := [-1, 7]
set_option maxHeartbeats 1000000 in
theorem l06Style (n0 : Nat) (W : World) (a : Option Addr) (len cap B : Nat) (hlen : len ≤ maxLen) (hC : Cur n0 W a len cap B) :
    Calls Tryz.prog 67 #[.pointer (some ⟨B, 0, none⟩)] W fun e W' => ∃ n : Int, e = .returned (.int .i64 n) ∧ Cur n0 W' a len cap B ∧ W.grownBy W' (some B) := by
  have HK : Hid (Cur n0 W a len cap B) := hC
  clear hC
  go_enter Tryz.func67, Tryz.ntmps67
  go_wp2_with fail
  refine (l01Once n0 _ a len cap B 20 hlen (by omega) HK.out).mono ?_
  rintro e W1 ⟨o, rfl, hC1, hG1⟩
  have HK1 : Hid (Cur n0 W1 a len cap B) := hC1
  have HG1 : Hid (W.grownBy W1 (some B)) := hG1
  clear hC1 hG1
  cases o
  · go_wp2_with fail
    refine (l01Below n0 _ a len cap B 7 hlen (by omega) HK1.out).mono ?_
    rintro e W2 ⟨x, rfl, _, _, hC2, hG2⟩
    have HK2 := hideP hC2
    have HG2 := hideP (grown_trans HG1.out hG2)
    clear hC2 hG2
    go_wp2
    go_ret
    exact ⟨_, rfl, HK2.out, HG2.out⟩
  · go_wp2_with fail
    refine (l01PickInt _ _ a len cap B W1.heap.size 2 2 (fun j => styOdd.getD j 0) hlen (by omega) (by omega) (by rw [size_new]; omega) (Nat.ne_of_gt HK1.out.hi) (fun j hj => alloc_ints W1 styOdd _ j hj) (HK1.out.alloc _)).mono ?_
    rintro e W2 ⟨j, hj, rfl, hC2, hG2⟩
    have HK2 := hideP hC2
    have HG2 := hideP (grown_trans (grown_alloc HG1.out _) hG2)
    clear hC2 hG2
    generalize styOdd.getD j 0 = z at *
    go_wp2
    go_ret
    exact ⟨_, rfl, HK2.out, HG2.out⟩

def styCals : List Int := [0, 1, 0, 1, 0, 1, 2]
/-- The texts that are drawn from. -/
def styTexts : List ByteArray := (stys.map fun s => (⟨s.toArray⟩ : ByteArray)) ++ [⟨#[]⟩, ⟨#[74, 97, 110]⟩]
theorem styTexts_short : ∀ j : Fin 9, (styTexts.getD j.val ⟨#[]⟩).size ≤ 6 := by decide
theorem own_names (w : World) : (w.alloc (.cells styVals 9)).ownsRow w.heap.size 9 1 (.slice (some ⟨w.heap.size, 0, none⟩) 7 7) 7 styVals.toList :=
  ⟨rfl, .inr ⟨w.heap.size, 7, styVals, rfl, Nat.le_refl _, by simp [World.alloc, -World.alloc_eq], Nat.le_refl _, by unfold maxLen; omega, rfl, rfl⟩⟩
theorem styVals_app : styVals.toList ++ [.string ⟨#[]⟩, .string ⟨#[74, 97, 110]⟩] = styTexts.map Value.string := rfl
end Go.Proofs.YtcdcniniafejbaaGreatDoor.ctr
