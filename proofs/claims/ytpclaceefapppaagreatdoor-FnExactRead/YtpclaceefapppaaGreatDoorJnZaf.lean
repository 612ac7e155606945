/- A row of structs of ints that lies in a block of its own with room behind it ('PRow'): what is read, what stor; and what else the law reaches. -/
import Derived.Test.YtpclaceefapppaaGreatDoorJnZaa
import Derived.Laws.AppendOwn
import Derived.Handy
import Derived.Test.YtpclaceefapppaaGreatDoorJnZab
import Derived.Laws.OwnMore
import Derived.OwnWalk
import Derived.RangeFuncBox
import Derived.Maps.AppendAt
import Derived.BigQuiet
import Derived.Deep.QuietTactic
import Derived.Deep.RegionWith
import Derived.Lib.ItoaNum
import Derived.Laws.IdiomStrings
set_option maxRecDepth 100000
set_option maxHeartbeats 1000000
namespace Go.Proofs.YtpclaceefapppaaGreatDoor.ctr
open Go.RowKit
def CIs {α : Type} (K : IK α) (cur : Array Value) (L : List α) : Prop := ∀ k, k < L.length → ∀ (j : Nat) (z : Int), (K.iv (atK K L k))[j]? = some z → cur[k * K.m + j]? = some (.int .i64 z)
def PRow {α : Type} (K : IK α) (T : TypeId) (w : World) (g cap : Nat) (L : List α) : Prop := ∃ cur, Blk w g cur T ∧ cur.size = cap * K.m ∧ L.length ≤ cap ∧ cap ≤ maxLen ∧ CIs K cur L
theorem atK_set {α : Type} {K : IK α} {L : List α} {i k : Nat} {x : α} (hi : i < L.length) : atK K (L.set i x) k = if k = i then x else atK K L k := by
 unfold atK
 simp only [List.getD, List.getElem?_set]
 by_cases e : i = k
 · subst e; simp [hi]
 · simp [e, Ne.symm e]
theorem CIs.set {α : Type} {K : IK α} {cur : Array Value} {L : List α} (h : CIs K cur L) {i cap : Nat} (x : α) (hi : i < L.length) (hc : L.length ≤ cap) (hs : cur.size = cap * K.m) : CIs K (setI cur (i * K.m) 0 (K.iv x)) (L.set i x) := by
 intro k hk j z e
 have hk' : k < L.length := by simpa using hk
 have hl : (K.iv x).length = K.m := K.len x
 have h1 : (i + 1) * K.m ≤ cap * K.m := Nat.mul_le_mul_right _ (by omega)
 have e1 : (i + 1) * K.m = i * K.m + K.m := by rw [Nat.add_mul]; omega
 rw [atK_set hi] at e
 by_cases q : k = i
 · subst q
   rw [if_pos rfl] at e
   have := setI_new (K.iv x) cur (k * K.m) 0 j z (by omega) e
   rw [Nat.add_zero] at this
   exact this
 · rw [if_neg q] at e
   have hj : j < K.m := by rw [← K.len (atK K L k)]; exact (List.getElem?_eq_some_iff.1 e).1
   rw [setI_old _ _ _ _ _ (by
    rcases Nat.lt_or_gt_of_ne q with q | q
    · left
      have : (k + 1) * K.m ≤ i * K.m := Nat.mul_le_mul_right _ q
      rw [Nat.add_mul] at this
      omega
    · right
      have : (i + 1) * K.m ≤ k * K.m := Nat.mul_le_mul_right _ q
      omega)]
   exact h k hk' j z e
theorem PRow.lt {α : Type} {K : IK α} {T : TypeId} {w : World} {g cap : Nat} {L : List α} (h : PRow K T w g cap L) : g < w.heap.size := by obtain ⟨cur, h, _⟩ := h; exact h.lt
theorem PRow.at {α : Type} {K : IK α} {T : TypeId} {w : World} {g cap : Nat} {L : List α} (h : PRow K T w g cap L) {k : Nat} (hk : k < L.length) : IAt K w g k (atK K L k) := by
 obtain ⟨cur, hB, _, _, _, hC⟩ := h
 exact fun j z e => hB.cell _ (hC k hk j z e)
theorem PRow.below {α : Type} {K : IK α} {T : TypeId} {B : Nat} {w w' : World} {g cap : Nat} {L : List α} (h : PRow K T w g cap L) (hb : Below B w w') (hg : g < B) : PRow K T w' g cap L := by
 obtain ⟨cur, hB, r⟩ := h
 exact ⟨cur, hB.below hb hg, r⟩
theorem PRow.grown {α : Type} {K : IK α} {T : TypeId} {w w' : World} {g cap : Nat} {L : List α} {r : Option Nat} (h : PRow K T w g cap L) (hb : w.grownBy w' r) (hg : some g ≠ r) : PRow K T w' g cap L := by
 obtain ⟨cur, hB, q⟩ := h
 exact ⟨cur, (hb.block g hB.lt hg).trans hB, q⟩
theorem PRow.row {α : Type} {K : IK α} {T : TypeId} {w : World} {g cap : Nat} {L : List α} (h : PRow K T w g cap L) : IRow K w (.slice (some ⟨g, 0, none⟩) L.length cap) L := by
 obtain ⟨cur, hB, _, h1, h2, hC⟩ := h
 exact ⟨_, cap, rfl, h1, h2, fun k hk => ⟨g, rfl, hB.lt, fun j z e => hB.cell _ (hC k hk j z e)⟩⟩
theorem CIs.take {α : Type} {K : IK α} {cur : Array Value} {L : List α} (h : CIs K cur L) (hm : 0 < K.m) {cap : Nat} (hc : L.length ≤ cap) (hs : cur.size = cap * K.m) : cur.toList.take (L.length * K.m) = icells K L := by
 have h1 : L.length * K.m ≤ cap * K.m := Nat.mul_le_mul_right _ hc
 apply List.ext_getElem?
 intro q
 by_cases hq : q < L.length * K.m
 · rw [List.getElem?_take, if_pos hq]
   have hk : q / K.m < L.length := Nat.div_lt_of_lt_mul (by rw [Nat.mul_comm]; exact hq)
   have hj : q % K.m < K.m := Nat.mod_lt _ hm
   have hd : q / K.m * K.m + q % K.m = q := by rw [Nat.mul_comm]; exact Nat.div_add_mod q K.m
   have e : (K.iv (atK K L (q / K.m)))[q % K.m]? = some ((K.iv (atK K L (q / K.m)))[q % K.m]'(by rw [K.len]; exact hj)) := by simp
   have a := h _ hk _ _ e
   have b := icells_at L _ _ _ hk e
   rw [hd] at a b
   rw [b]
   simpa using a
 · rw [List.getElem?_eq_none (by simp; omega), List.getElem?_eq_none (by rw [icells_len]; omega)]
theorem CIs.of_take {α : Type} {K : IK α} {cur : Array Value} {L : List α} (h : cur.toList.take (L.length * K.m) = icells K L) : CIs K cur L := by
 intro k hk j z e
 have hj : j < K.m := by rw [← K.len (atK K L k)]; exact (List.getElem?_eq_some_iff.1 e).1
 have b := icells_at L k j z hk e
 have hq : k * K.m + j < L.length * K.m := by
  have : (k + 1) * K.m ≤ L.length * K.m := Nat.mul_le_mul_right _ hk
  rw [Nat.add_mul] at this
  omega
 rw [← h, List.getElem?_take, if_pos hq] at b
 simpa using b
theorem PRow.owns {α : Type} {K : IK α} {T : TypeId} {w : World} {g cap base : Nat} {L : List α} (h : PRow K T w g cap L) (hm : 0 < K.m) (hg : base ≤ g) : w.ownsRow base T K.m (.slice (some ⟨g, 0, none⟩) L.length cap) L.length (icells K L) := by
 obtain ⟨cur, hB, hs, h1, h2, hC⟩ := h
 exact ⟨icells_len L, .inr ⟨g, cap, cur, rfl, hg, hB, h1, h2, hs, hC.take hm h1 hs⟩⟩
theorem PRow.of_owns {α : Type} {K : IK α} {T : TypeId} {w : World} {base : Nat} {v : Value} {L : List α} (h : w.ownsRow base T K.m v L.length (icells K L)) (h0 : 0 < L.length) : ∃ g cap, v = .slice (some ⟨g, 0, none⟩) L.length cap ∧ base ≤ g ∧ PRow K T w g cap L := by
 obtain ⟨_, ⟨_, h⟩ | ⟨g, cap, cur, rfl, hg, hB, h1, h2, hs, hC⟩⟩ := h
 · omega
 · exact ⟨g, cap, rfl, hg, cur, hB, hs, h1, h2, CIs.of_take hC⟩
theorem icells_app {α : Type} {K : IK α} : ∀ (l l' : List α), icells K (l ++ l') = icells K l ++ icells K l'
  | [], l' => rfl
  | a :: l, l' => by rw [List.cons_append, icells, icells, icells_app l l', List.append_assoc]
theorem icell_one {α : Type} {K : IK α} {l : List α} : ∀ u ∈ icells K l, u.oneCell' = true := by
 induction l with
 | nil => simp [icells]
 | cons a l ih =>
  intro u hu
  rcases List.mem_append.1 hu with h | h
  · obtain ⟨z, _, rfl⟩ := List.mem_map.1 h
    rfl
  · exact ih u h
theorem PRow.shorter {α : Type} {K : IK α} {T : TypeId} {w : World} {g cap : Nat} {L : List α} (h : PRow K T w g cap L) (n : Nat) : PRow K T w g cap (L.take n) := by
 obtain ⟨cur, hB, hs, h1, h2, hC⟩ := h
 refine ⟨cur, hB, hs, by simp; omega, h2, fun k hk j z e => hC k (by simp at hk; omega) j z ?_⟩
 simp at hk
 have hkn : k < n := by omega
 have : atK K (L.take n) k = atK K L k := by simp [atK, List.getD, hkn]
 rw [← this]
 exact e
def digL (d : Nat) (a b c : UInt8) : List UInt8 :=
 match d with
 | 1 => [a] | 2 => [a, a] | 3 => [a, a, a] | 4 => [a, b] | 5 => [b] | 6 => [b, a] | 7 => [b, a, a] | 8 => [b, a, a, a] | 9 => [a, c] | _ => []
theorem digL_len (d : Nat) (a b c : UInt8) : (digL d a b c).length ≤ 4 := by unfold digL; split <;> simp
def manyL (c : UInt8) (n : Nat) : List UInt8 := List.replicate n c
theorem manyL_len (c : UInt8) (n : Nat) : (manyL c n).length = n := by simp [manyL]
theorem manyL_snoc (c : UInt8) (n : Nat) : manyL c n ++ [c] = manyL c (n + 1) := by simp [manyL, List.replicate_succ']
def roman (n : Nat) : List UInt8 := manyL 77 (n / 1000) ++ digL (n / 100 % 10) 67 68 77 ++ digL (n / 10 % 10) 88 76 67 ++ digL (n % 10) 73 86 88
def putRoman (n : Int) : ByteArray := ⟨(if 1 ≤ n ∧ n ≤ 3999 then roman n.toNat else []).toArray⟩
theorem roman_int (n : Int) (h : 0 ≤ n) : roman n.toNat = manyL 77 (n / 1000).toNat ++ digL (n / 100 % 10).toNat 67 68 77 ++ digL (n / 10 % 10).toNat 88 76 67 ++ digL (n % 10).toNat 73 86 88 := by
 unfold roman
 rw [show (n / 1000).toNat = n.toNat / 1000 from by omega, show (n / 100 % 10).toNat = n.toNat / 100 % 10 from by omega, show (n / 10 % 10).toNat = n.toNat / 10 % 10 from by omega, show (n % 10).toNat = n.toNat % 10 from by omega]
theorem putRoman_no {n : Int} (h : n < 1 ∨ 3999 < n) : putRoman n = ⟨#[]⟩ := by unfold putRoman; rw [if_neg (by omega)]
theorem join_list (a b : List UInt8) : (⟨a.toArray⟩ : ByteArray) ++ ⟨b.toArray⟩ = ⟨(a ++ b).toArray⟩ := by
 apply WideShapes.bytes_inj
 simp
theorem digit_cases {d : Int} (h0 : 0 ≤ d) (h1 : d ≤ 9) : d = 0 ∨ d = 1 ∨ d = 2 ∨ d = 3 ∨ d = 4 ∨ d = 5 ∨ d = 6 ∨ d = 7 ∨ d = 8 ∨ d = 9 := by omega
theorem l01Many (c : UInt8) (n : Int) (w : World) (h0 : 0 ≤ n) (h3 : n ≤ 1000) :
    CS 272 #[.string ⟨#[c]⟩, .int .i64 n] w (.string ⟨(manyL c n.toNat).toArray⟩) := by
  go_enter Tryz.func272, Tryz.ntmps272
  go_wp2
  go_loop [5, 6] (fun o i => ∃ k : Nat, (k : Int) ≤ n ∧ i = .int .i64 k ∧ ∃ l : List UInt8, l.length = k ∧ o = .string ⟨l.toArray⟩ ∧ Hid (l = manyL c k)) (fun _ i => n.toNat - (intOf i).toNat)
  case atStart => exact ⟨0, by omega, rfl, [], rfl, rfl, rfl⟩
  case round =>
   obtain ⟨k, hk, rfl, l, hl, rfl, HL⟩ := hrel
   have hl' : l.length ≤ 1000 := by omega
   have HK : Hid (l.length = k) := hl
   clear hl
   by_cases hlt : (k : Int) < n
   · go_wp2
     refine ⟨⟨k + 1, by omega, by go_num, l ++ [c], by simp [HK.out], ?_, by unfold Hid; rw [HL.out, manyL_snoc]⟩, by simp [intOf]; omega⟩
     exact congrArg Value.string (join_list l [c])
   · have e : n.toNat = k := by omega
     have HE : Hid (n.toNat = k) := e
     clear e
     go_wp2
     go_ret
     exact ⟨ret_str (by rw [HE.out, HL.out]), rfl⟩
theorem l01Digit (d : Int) (a b c : UInt8) (w : World) (h0 : 0 ≤ d) (h9 : d ≤ 9) :
    CS 273 #[.int .i64 d, .string ⟨#[a]⟩, .string ⟨#[b]⟩, .string ⟨#[c]⟩] w (.string ⟨(digL d.toNat a b c).toArray⟩) := by
  rcases digit_cases h0 h9 with rfl | rfl | rfl | rfl | rfl | rfl | rfl | rfl | rfl | rfl
  all_goals
   go_enter Tryz.func273, Tryz.ntmps273
   go_wp2_with (go_at_call 272; refine (l01Many _ _ _ (by omega) (by omega)).mono ?_; rintro e w' ⟨rfl, rfl⟩)
   go_ret
   exact ⟨rfl, rfl⟩
theorem specPutRoman (n : Int) (w : World) :
    CS 215 #[.int .i64 n] w (.string (putRoman n)) := by
  by_cases hin : 1 ≤ n ∧ n ≤ 3999
  · obtain ⟨h1, h2⟩ := hin
    have HP : Hid (putRoman n = ⟨(roman n.toNat).toArray⟩) := by unfold Hid putRoman; rw [if_pos ⟨h1, h2⟩]
    have hi : inB n 1 3999 = true := inB_true h1 h2
    go_enter Tryz.func215, Tryz.ntmps215
    go_wp2_with (go_at_call 98; refine (l01In _ _ _ _).mono ?_; rintro e w' ⟨rfl, rfl⟩)
    refine (l01Many _ _ _ (by omega) (by omega)).mono ?_
    rintro e w' ⟨rfl, rfl⟩
    have l1 := manyL_len 77 (n / 1000).toNat
    generalize hx1 : manyL 77 (n / 1000).toNat = x1 at *
    have hl1 : x1.length ≤ 3 := by omega
    have H1 : Hid (manyL 77 (n / 1000).toNat = x1) := hx1
    clear hx1 l1
    go_wp2_with fail
    refine (l01Digit _ _ _ _ _ (by omega) (by omega)).mono ?_
    rintro e w' ⟨rfl, rfl⟩
    have hl2 := digL_len (n / 100 % 10).toNat 67 68 77
    generalize hx2 : digL (n / 100 % 10).toNat 67 68 77 = x2 at *
    have H2 : Hid (digL (n / 100 % 10).toNat 67 68 77 = x2) := hx2
    clear hx2
    go_wp2_with fail
    refine (l01Digit _ _ _ _ _ (by omega) (by omega)).mono ?_
    rintro e w' ⟨rfl, rfl⟩
    have hl3 := digL_len (n / 10 % 10).toNat 88 76 67
    generalize hx3 : digL (n / 10 % 10).toNat 88 76 67 = x3 at *
    have H3 : Hid (digL (n / 10 % 10).toNat 88 76 67 = x3) := hx3
    clear hx3
    go_wp2_with fail
    refine (l01Digit _ _ _ _ _ (by omega) (by omega)).mono ?_
    rintro e w' ⟨rfl, rfl⟩
    have hl4 := digL_len (n % 10).toNat 73 86 88
    generalize hx4 : digL (n % 10).toNat 73 86 88 = x4 at *
    have H4 : Hid (digL (n % 10).toNat 73 86 88 = x4) := hx4
    clear hx4
    go_wp2
    go_ret
    refine ⟨ret_str ?_, rfl⟩
    rw [join_list, join_list, join_list, HP.out, roman_int n (by omega), H1.out, H2.out, H3.out, H4.out]
  · have HP := putRoman_no (n := n) (by omega)
    rw [HP]
    clear HP
    have hi : inB n 1 3999 = false := inB_false (by omega)
    go_enter Tryz.func215, Tryz.ntmps215
    go_wp2_with (go_at_call 98; refine (l01In _ _ _ _).mono ?_; rintro e w' ⟨rfl, rfl⟩)
    go_ret
    exact ⟨rfl, rfl⟩
def worth (x : Int) : Int := if x = 73 then 1 else if x = 86 then 5 else if x = 88 then 10 else if x = 76 then 50 else if x = 67 then 100 else if x = 68 then 500 else if x = 77 then 1000 else 0
theorem worth_bd (x : Int) : 0 ≤ worth x ∧ worth x ≤ 1000 := by
 unfold worth
 repeat' split
 all_goals omega
def byteAt (s : ByteArray) (k : Nat) : Int := ((s.data.toList.getD k 0).toNat : Int)
theorem byteAt_eq (s : ByteArray) (k : Nat) (h : k < s.size) : (s[k].toNat : Int) = byteAt s k := by
 have h' : k < s.data.toList.length := h
 unfold byteAt
 rw [List.getD, List.getElem?_eq_getElem h']
 rfl
def stepAt (s : ByteArray) (k : Nat) : Int := if k + 1 < s.size ∧ worth (byteAt s k) < worth (byteAt s (k + 1)) then -worth (byteAt s k) else worth (byteAt s k)
def sumR (s : ByteArray) : Nat → Int
  | 0 => 0
  | k + 1 => sumR s k + stepAt s k
theorem step_bd (s : ByteArray) (k : Nat) : -1000 ≤ stepAt s k ∧ stepAt s k ≤ 1000 := by
 have := worth_bd (byteAt s k)
 unfold stepAt
 split <;> omega
theorem sum_bd (s : ByteArray) : ∀ k : Nat, -1000 * (k : Int) ≤ sumR s k ∧ sumR s k ≤ 1000 * (k : Int)
  | 0 => by simp [sumR]
  | k + 1 => by
   have h1 := sum_bd s k
   have h2 := step_bd s k
   unfold sumR
   omega
def getRoman (s : ByteArray) : Int := if putRoman (sumR s s.size) = s then sumR s s.size else 0
def goodB (c : UInt8) : Bool := worth (c.toNat : Int) != 0
theorem digL_all (p : UInt8 → Bool) (d : Nat) (a b c : UInt8) (ha : p a = true) (hb : p b = true) (hc : p c = true) : (digL d a b c).all p = true := by
 unfold digL
 split <;> simp [ha, hb, hc]
theorem roman_good (n : Int) : (putRoman n).data.toList.all goodB = true ∧ (putRoman n).size ≤ 15 := by
 unfold putRoman
 by_cases h : 1 ≤ n ∧ n ≤ 3999
 · rw [if_pos h]
   unfold roman
   constructor
   · simp only [List.all_append, Bool.and_eq_true]
     refine ⟨⟨⟨?_, digL_all _ _ _ _ _ (by decide) (by decide) (by decide)⟩, digL_all _ _ _ _ _ (by decide) (by decide) (by decide)⟩, digL_all _ _ _ _ _ (by decide) (by decide) (by decide)⟩
     simp [manyL]
     exact .inr (by decide)
   · show (manyL 77 (n.toNat / 1000) ++ digL (n.toNat / 100 % 10) 67 68 77 ++ digL (n.toNat / 10 % 10) 88 76 67 ++ digL (n.toNat % 10) 73 86 88).length ≤ 15
     have h1 := manyL_len 77 (n.toNat / 1000)
     have h2 := digL_len (n.toNat / 100 % 10) 67 68 77
     have h3 := digL_len (n.toNat / 10 % 10) 88 76 67
     have h4 := digL_len (n.toNat % 10) 73 86 88
     simp only [List.length_append]
     omega
 · rw [if_neg h]
   exact ⟨rfl, Nat.zero_le _⟩
theorem get_zero (s : ByteArray) (h : putRoman (sumR s s.size) ≠ s) : getRoman s = 0 := by unfold getRoman; rw [if_neg h]
theorem get_long (s : ByteArray) (h : 15 < s.size) : getRoman s = 0 := by
 apply get_zero
 intro e
 have := (roman_good (sumR s s.size)).2
 rw [e] at this
 omega
theorem get_bad (s : ByteArray) (k : Nat) (h : k < s.size) (hw : worth (byteAt s k) = 0) : getRoman s = 0 := by
 apply get_zero
 intro e
 have := (roman_good (sumR s s.size)).1
 rw [e, List.all_eq_true] at this
 have h' : k < s.data.toList.length := h
 have hg := this _ (List.getElem_mem h')
 unfold goodB at hg
 have : byteAt s k = ((s.data.toList[k]).toNat : Int) := by unfold byteAt; rw [List.getD, List.getElem?_eq_getElem h']; rfl
 rw [← this, hw] at hg
 simp at hg
theorem get_sum (s : ByteArray) (h : putRoman (sumR s s.size) = s) : getRoman s = sumR s s.size := by unfold getRoman; rw [if_pos h]
theorem get_empty (s : ByteArray) (h : s.size = 0) : getRoman s = 0 := by
 unfold getRoman
 rw [h]
 split <;> rfl
theorem l01Worth (x : Int) (w : World) : CS 214 #[.int .u8 x] w (.int .i64 (worth x)) := by
 by_cases c1 : x = 73
 · subst c1; go_enter Tryz.func214, Tryz.ntmps214; go_wp2; go_ret; exact ⟨rfl, rfl⟩
 by_cases c2 : x = 86
 · subst c2; go_enter Tryz.func214, Tryz.ntmps214; go_wp2; go_ret; exact ⟨rfl, rfl⟩
 by_cases c3 : x = 88
 · subst c3; go_enter Tryz.func214, Tryz.ntmps214; go_wp2; go_ret; exact ⟨rfl, rfl⟩
 by_cases c4 : x = 76
 · subst c4; go_enter Tryz.func214, Tryz.ntmps214; go_wp2; go_ret; exact ⟨rfl, rfl⟩
 by_cases c5 : x = 67
 · subst c5; go_enter Tryz.func214, Tryz.ntmps214; go_wp2; go_ret; exact ⟨rfl, rfl⟩
 by_cases c6 : x = 68
 · subst c6; go_enter Tryz.func214, Tryz.ntmps214; go_wp2; go_ret; exact ⟨rfl, rfl⟩
 by_cases c7 : x = 77
 · subst c7; go_enter Tryz.func214, Tryz.ntmps214; go_wp2; go_ret; exact ⟨rfl, rfl⟩
 have HW : Hid (worth x = 0) := by unfold Hid worth; simp [c1, c2, c3, c4, c5, c6, c7]
 go_enter Tryz.func214, Tryz.ntmps214
 go_wp2
 go_ret
 exact ⟨ret_int HW.out.symm, rfl⟩
theorem specGetRoman (s : ByteArray) (w : World) (hs : s.size ≤ 1048576) :
    CS 146 #[.string s] w (.int .i64 (getRoman s)) := by
  go_enter Tryz.func146, Tryz.ntmps146
  go_wp2
  go_loop [3, 4] (fun n i => ∃ (k : Nat) (v : Int), k ≤ s.size ∧ i = .int .i64 k ∧ n = .int .i64 v ∧ -1048576000 ≤ v ∧ v ≤ 1048576000 ∧ Hid (v = sumR s k)) (fun _ i => s.size - (intOf i).toNat)
  case atStart => exact ⟨0, 0, Nat.zero_le _, rfl, rfl, by omega, by omega, rfl⟩
  case round =>
   obtain ⟨k, v, hk, rfl, rfl, v0, v1, HV⟩ := hrel
   by_cases hlt : k < s.size
   · have hx := byteAt_eq s k hlt
     obtain ⟨u0, u1⟩ := worth_bd (byteAt s k)
     by_cases hz : worth (byteAt s k) = 0
     · have HB : Hid (getRoman s = 0) := get_bad s k hlt hz
       have hz' : (worth (byteAt s k) == 0) = true := by simp [hz]
       clear hz
       go_wp2_with (go_at_call 214; refine (l01Worth _ _).mono ?_; rintro e w' ⟨rfl, rfl⟩)
       go_ret
       exact ⟨ret_int HB.out.symm, rfl⟩
     have hz' : (worth (byteAt s k) == 0) = false := by simp [hz]
     clear hz
     by_cases h15 : 15 < s.size
     · have HB : Hid (getRoman s = 0) := get_long s h15
       go_wp2_with (go_at_call 214; refine (l01Worth _ _).mono ?_; rintro e w' ⟨rfl, rfl⟩)
       go_ret
       exact ⟨ret_int HB.out.symm, rfl⟩
     have hsb := sum_bd s (k + 1)
     obtain ⟨sb0, sb1⟩ : -1048576000 ≤ sumR s (k + 1) ∧ sumR s (k + 1) ≤ 1048576000 := by omega
     clear hsb
     have HS : Hid (sumR s (k + 1) = v + stepAt s k) := by unfold Hid; rw [HV.out]; rfl
     by_cases hn : k + 1 < s.size
     · have hx2 := byteAt_eq s (k + 1) hn
       obtain ⟨y0, y1⟩ := worth_bd (byteAt s (k + 1))
       by_cases hg : worth (byteAt s k) < worth (byteAt s (k + 1))
       · have HT : Hid (stepAt s k = -worth (byteAt s k)) := by unfold Hid stepAt; rw [if_pos ⟨hn, hg⟩]
         go_wp2_with (go_at_call 214; refine (l01Worth _ _).mono ?_; rintro e w' ⟨rfl, rfl⟩)
         exact ⟨⟨k + 1, sumR s (k + 1), by omega, by go_num, by rw [HS.out, HT.out], sb0, sb1, rfl⟩, by simp [intOf]; omega⟩
       · have HT : Hid (stepAt s k = worth (byteAt s k)) := by unfold Hid stepAt; rw [if_neg (by omega)]
         go_wp2_with (go_at_call 214; refine (l01Worth _ _).mono ?_; rintro e w' ⟨rfl, rfl⟩)
         exact ⟨⟨k + 1, sumR s (k + 1), by omega, by go_num, by rw [HS.out, HT.out], sb0, sb1, rfl⟩, by simp [intOf]; omega⟩
     · have HT : Hid (stepAt s k = worth (byteAt s k)) := by unfold Hid stepAt; rw [if_neg (by omega)]
       go_wp2_with (go_at_call 214; refine (l01Worth _ _).mono ?_; rintro e w' ⟨rfl, rfl⟩)
       exact ⟨⟨k + 1, sumR s (k + 1), by omega, by go_num, by rw [HS.out, HT.out], sb0, sb1, rfl⟩, by simp [intOf]; omega⟩
   · have hks : k = s.size := by omega
     by_cases hz : s.size = 0
     · have HB : Hid (getRoman s = 0) := get_empty s hz
       have hz' : s.toList.isEmpty = true := by rw [ByteArray.toList_eq]; simp; exact Array.eq_empty_of_size_eq_zero hz
       go_wp2
       go_ret
       exact ⟨ret_int HB.out.symm, rfl⟩
     · have hz' : s.toList.isEmpty = false := by rw [ByteArray.toList_eq]; simp; intro e; exact hz (by show s.data.size = 0; rw [e]; rfl)
       cases hq : ((putRoman v).toList == s.toList)
       · have HB : Hid (getRoman s = 0) := get_zero s (by rw [← hks, ← HV.out]; exact str_ne hq)
         clear hks
         go_wp2_with (go_at_call 215; refine (specPutRoman _ _).mono ?_; rintro e w' ⟨rfl, rfl⟩)
         go_ret
         exact ⟨ret_int HB.out.symm, rfl⟩
       · have HB : Hid (getRoman s = v) := by unfold Hid; rw [HV.out, hks]; exact get_sum s (by rw [← hks, ← HV.out]; exact str_eq hq)
         clear hks
         go_wp2_with (go_at_call 215; refine (specPutRoman _ _).mono ?_; rintro e w' ⟨rfl, rfl⟩)
         go_ret
         exact ⟨ret_int HB.out.symm, rfl⟩
def mons : List (List UInt8) := [[106, 97, 110], [102, 101, 98], [109, 97, 114], [97, 112, 114], [109, 97, 121], [106, 117, 110], [106, 117, 108], [97, 117, 103], [115, 101, 112], [111, 99, 116], [110, 111, 118], [100, 101, 99]]
def monthText (m : Int) : ByteArray := ⟨(if 1 ≤ m ∧ m ≤ 12 then mons.getD (m - 1).toNat [] else []).toArray⟩
theorem monthText_no {m : Int} (h : m < 1 ∨ 12 < m) : monthText m = ⟨#[]⟩ := by unfold monthText; rw [if_neg (by omega)]
theorem mon_cases {m : Int} (h1 : 1 ≤ m) (h2 : m ≤ 12) : m = 1 ∨ m = 2 ∨ m = 3 ∨ m = 4 ∨ m = 5 ∨ m = 6 ∨ m = 7 ∨ m = 8 ∨ m = 9 ∨ m = 10 ∨ m = 11 ∨ m = 12 := by omega
theorem specMonthName (m : Int) (w : World) :
    CR 151 #[.int .i64 m] w (.string (monthText m)) := by
  by_cases h1 : m < 1
  · rw [monthText_no (.inl h1)]
    go_enter Tryz.func151, Tryz.ntmps151
    go_wp2
    go_ret
    exact ⟨rfl, Below.refl _ _⟩
  by_cases h2 : 12 < m
  · rw [monthText_no (.inr h2)]
    have hd : decide (m ≤ 12) = false := by simp; omega
    go_enter Tryz.func151, Tryz.ntmps151
    go_wp2
    go_ret
    exact ⟨rfl, Below.refl _ _⟩
  rcases mon_cases (m := m) (by omega) (by omega) with rfl | rfl | rfl | rfl | rfl | rfl | rfl | rfl | rfl | rfl | rfl | rfl
  all_goals
   go_enter Tryz.func151, Tryz.ntmps151
   go_wp2
   go_ret
   exact ⟨rfl, (Below.refl _ _).alloc (Nat.le_refl _) _⟩
theorem implMonthName (m : Int) (w : World) (hT : kit.StrIs Tryz.prog w "loop.example/g00638/impl.monthNames" mons) :
    CS 238 #[.int .i64 m] w (.string (monthText m)) := by
  by_cases h1 : m < 1
  · rw [monthText_no (.inl h1)]
    clear hT
    go_enter Tryz.func238, Tryz.ntmps238
    go_wp2
    go_ret
    exact ⟨rfl, rfl⟩
  by_cases h2 : 12 < m
  · rw [monthText_no (.inr h2)]
    clear hT
    go_enter Tryz.func238, Tryz.ntmps238
    go_wp2
    go_ret
    exact ⟨rfl, rfl⟩
  rcases mon_cases (m := m) (by omega) (by omega) with rfl | rfl | rfl | rfl | rfl | rfl | rfl | rfl | rfl | rfl | rfl | rfl
  focus
    have c := hT.cell (g := 1) (by kernel_rfl) 0 (by decide)
  rotate_left
  focus
    have c := hT.cell (g := 1) (by kernel_rfl) 1 (by decide)
  rotate_left
  focus
    have c := hT.cell (g := 1) (by kernel_rfl) 2 (by decide)
  rotate_left
  focus
    have c := hT.cell (g := 1) (by kernel_rfl) 3 (by decide)
  rotate_left
  focus
    have c := hT.cell (g := 1) (by kernel_rfl) 4 (by decide)
  rotate_left
  focus
    have c := hT.cell (g := 1) (by kernel_rfl) 5 (by decide)
  rotate_left
  focus
    have c := hT.cell (g := 1) (by kernel_rfl) 6 (by decide)
  rotate_left
  focus
    have c := hT.cell (g := 1) (by kernel_rfl) 7 (by decide)
  rotate_left
  focus
    have c := hT.cell (g := 1) (by kernel_rfl) 8 (by decide)
  rotate_left
  focus
    have c := hT.cell (g := 1) (by kernel_rfl) 9 (by decide)
  rotate_left
  focus
    have c := hT.cell (g := 1) (by kernel_rfl) 10 (by decide)
  rotate_left
  focus
    have c := hT.cell (g := 1) (by kernel_rfl) 11 (by decide)
  rotate_left
  all_goals
   clear hT h1 h2
   go_enter Tryz.func238, Tryz.ntmps238
   go_wp2
   go_ret
   exact ⟨rfl, rfl⟩
/-! ### MonthOf -/
def monB (j : Nat) : ByteArray := ⟨(mons.getD j []).toArray⟩
def monOf (s : ByteArray) : Int := if (mons.findIdx fun l => l == s.data.toList) < 12 then ((mons.findIdx fun l => l == s.data.toList : Nat) : Int) + 1 else 0
theorem monB_ne {s : ByteArray} {j : Nat} (h : monB j ≠ s) : (mons.getD j [] == s.data.toList) = false := by
 rw [beq_eq_false_iff_ne]
 intro e
 apply h
 unfold monB
 rw [e]
theorem mons_len : mons.length = 12 := rfl
theorem mons_get {k : Nat} (h : k < mons.length) : mons[k] = mons.getD k [] := by simp [List.getD, h]
theorem monOf_hit {s : ByteArray} {k : Nat} (hk : k < 12) (h : monB k = s) (hn : ∀ j, j < k → monB j ≠ s) : monOf s = (k : Int) + 1 := by
 have hl : k < mons.length := by rw [mons_len]; exact hk
 have e : (mons.findIdx fun l => l == s.data.toList) = k := by
  rw [List.findIdx_eq hl]
  refine ⟨?_, fun j hj => ?_⟩
  · rw [mons_get hl, ← h]
    simp [monB]
  · rw [mons_get (Nat.lt_trans hj hl)]
    exact monB_ne (hn j hj)
 unfold monOf
 rw [e, if_pos hk]
theorem monOf_miss {s : ByteArray} (hn : ∀ j, j < 12 → monB j ≠ s) : monOf s = 0 := by
 have e : (mons.findIdx fun l => l == s.data.toList) = mons.length := by
  rw [List.findIdx_eq_length]
  intro l hl
  obtain ⟨j, hj, rfl⟩ := List.getElem_of_mem hl
  rw [mons_get hj]
  exact monB_ne (hn j (by rw [mons_len] at hj; exact hj))
 unfold monOf
 rw [e, mons_len]
 rfl
theorem monthText_monB (j : Nat) (h : j < 12) : monthText ((j : Int) + 1) = monB j := by
 unfold monthText monB
 rw [if_pos (by omega)]
 have : ((j : Int) + 1 - 1).toNat = j := by omega
 rw [this]
theorem specMonthOf (s : ByteArray) (w : World) :
    CR 103 #[.string s] w (.int .i64 (monOf s)) := by
  go_enter Tryz.func103, Tryz.ntmps103
  go_wp2
  go_loopw [3] (fun i wr => ∃ k : Nat, k ≤ 12 ∧ i = .int .i64 ((k : Int) + 1) ∧ (∀ j, j < k → monB j ≠ s) ∧ Below w.heap.size w wr) (fun i _ => 13 - (intOf i).toNat)
  case atStart => exact ⟨0, by omega, rfl, by omega, Below.refl _ _⟩
  case round =>
   obtain ⟨k, hk, rfl, hn, hb⟩ := hrel
   have HN : Hid (∀ j, j < k → monB j ≠ s) := hn
   clear hn
   by_cases hlt : k < 12
   · cases hq : ((monthText ((k : Int) + 1)).toList == s.toList)
     · have HN' : Hid (∀ j, j < k + 1 → monB j ≠ s) := by
        intro j hj
        by_cases e : j = k
        · subst e
          rw [← monthText_monB j hlt]
          exact str_ne hq
        · exact HN.out j (by omega)
       go_wp2_with (go_at_call 151; refine (specMonthName _ _).mono ?_; rintro e w' ⟨rfl, hb'⟩)
       exact ⟨⟨k + 1, by omega, by go_num, HN'.out, hb.trans (hb'.mono hb.size)⟩, by simp [intOf]; omega⟩
     · have HF : Hid (monOf s = (k : Int) + 1) := monOf_hit hlt (by rw [← monthText_monB k hlt]; exact str_eq hq) HN.out
       go_wp2_with (go_at_call 151; refine (specMonthName _ _).mono ?_; rintro e w' ⟨rfl, hb'⟩)
       go_ret
       exact ⟨ret_int HF.out.symm, hb.trans (hb'.mono hb.size)⟩
   · have HF : Hid (monOf s = 0) := monOf_miss (fun j hj => HN.out j (by omega))
     go_wp2_with fail
     go_ret
     exact ⟨ret_int HF.out.symm, hb⟩
def monVals : Array Value := (mons.map fun s => Value.string ⟨s.toArray⟩).toArray
theorem mon_index (k : Nat) (h : k < 12) (w : World) : (Instr.index 197 (.agg monVals) (.int .i64 (k : Int))).run Tryz.prog w = .ok (.string (monB k)) w := by
 have : k = 0 ∨ k = 1 ∨ k = 2 ∨ k = 3 ∨ k = 4 ∨ k = 5 ∨ k = 6 ∨ k = 7 ∨ k = 8 ∨ k = 9 ∨ k = 10 ∨ k = 11 := by omega
 rcases this with rfl | rfl | rfl | rfl | rfl | rfl | rfl | rfl | rfl | rfl | rfl | rfl <;> rfl
theorem mon_size : (Tryz.prog.info? 197).map (·.size) = some monVals.size := by kernel_rfl
theorem implMonthOf (s : ByteArray) (w : World) (hT : kit.StrIs Tryz.prog w "loop.example/g00638/impl.monthNames" mons) :
    CS 121 #[.string s] w (.int .i64 (monOf s)) := by
  obtain ⟨tt, fr, hh⟩ := hT.heap (g := 1) (by kernel_rfl)
  have HG : Hid (w.heap[1]? = some (.cells monVals tt fr)) := hh
  clear hT hh
  go_enter Tryz.func121, Tryz.ntmps121
  go_wp2_with (refine wpList_load_row rfl 197 _ rfl 1 rfl tt monVals fr _ HG.out Tryz.underlying197 rfl mon_size ?_)
  go_loop [6] (fun i => ∃ k : Nat, k ≤ 12 ∧ i = .int .i64 (k : Int) ∧ (∀ j, j < k → monB j ≠ s)) (fun i => 12 - (intOf i).toNat)
  case atStart => exact ⟨0, by omega, rfl, by omega⟩
  case round =>
   obtain ⟨k, hk, rfl, hn⟩ := hrel
   have HN : Hid (∀ j, j < k → monB j ≠ s) := hn
   clear hn
   by_cases hlt : k < 12
   · have hi := mon_index k hlt
     cases hq : ((monB k).toList == s.toList)
     · have HN' : Hid (∀ j, j < k + 1 → monB j ≠ s) := by
        intro j hj
        by_cases e : j = k
        · subst e
          exact str_ne hq
        · exact HN.out j (by omega)
       go_wp2
       exact ⟨⟨k + 1, by omega, by go_num, HN'.out⟩, by simp [intOf]; omega⟩
     · have HF : Hid (monOf s = (k : Int) + 1) := monOf_hit hlt (str_eq hq) HN.out
       go_wp2
       go_ret
       exact ⟨ret_int HF.out.symm, rfl⟩
   · have HF : Hid (monOf s = 0) := monOf_miss (fun j hj => HN.out j (by omega))
     go_wp2
     go_ret
     exact ⟨ret_int HF.out.symm, rfl⟩
def bAt (s : ByteArray) (k : Nat) : Int := ((s.data.toList.getD k 0).toNat : Int)
theorem bAt_eq (s : ByteArray) (k : Nat) (h : k < s.size) : (s[k].toNat : Int) = bAt s k := by
 have h' : k < s.data.toList.length := h
 unfold bAt
 rw [List.getD, List.getElem?_eq_getElem h']
 rfl
def startAt (s : ByteArray) (g : Int) : Nat → Nat
  | 0 => 0
  | k + 1 => if bAt s k = g then k + 1 else startAt s g k
def partsTo (s : ByteArray) (g : Int) : Nat → List ByteArray
  | 0 => []
  | k + 1 => if bAt s k = g then partsTo s g k ++ [s.extract (startAt s g k) k] else partsTo s g k
def cut (s : ByteArray) (g : Int) : List ByteArray := partsTo s g s.size ++ [s.extract (startAt s g s.size) s.size]
theorem start_le (s : ByteArray) (g : Int) : ∀ k, startAt s g k ≤ k
  | 0 => Nat.le_refl _
  | k + 1 => by
   have := start_le s g k
   unfold startAt
   split <;> omega
theorem parts_len (s : ByteArray) (g : Int) : ∀ k, (partsTo s g k).length ≤ k
  | 0 => Nat.le_refl _
  | k + 1 => by
   have := parts_len s g k
   unfold partsTo
   split
   · rw [List.length_append]; simp; omega
   · omega
theorem parts_hit (s : ByteArray) (g : Int) (k : Nat) (h : bAt s k = g) : partsTo s g (k + 1) = partsTo s g k ++ [s.extract (startAt s g k) k] ∧ startAt s g (k + 1) = k + 1 := by
 constructor
 · rw [partsTo, if_pos h]
 · rw [startAt, if_pos h]
theorem parts_miss (s : ByteArray) (g : Int) (k : Nat) (h : bAt s k ≠ g) : partsTo s g (k + 1) = partsTo s g k ∧ startAt s g (k + 1) = startAt s g k := by
 constructor
 · rw [partsTo, if_neg h]
 · rw [startAt, if_neg h]
theorem own_base {w : World} {base e size : Nat} {v : Value} {n : Nat} {xs : List Value} (h : w.ownsRow base e size v n xs) : ∀ k, v.ownBlock = some k → base ≤ k := by
 obtain ⟨_, h | ⟨g, cap, cur, rfl, hb, _⟩⟩ := h
 · obtain ⟨rfl, _⟩ := h
   intro k hk
   cases hk
 · intro k hk
   cases hk
   exact hb
theorem size_new' (W : World) (o : Obj) : (W.alloc o).heap.size = W.heap.size + 1 := by simp [World.alloc, -World.alloc_eq]
theorem own_empty (w : World) (e : TypeId) : (w.alloc (.cells #[] e)).ownsRow w.heap.size e 1 (.slice (some ⟨w.heap.size, 0, none⟩) 0 0) 0 [] :=
 ⟨rfl, .inr ⟨w.heap.size, 0, #[], rfl, Nat.le_refl _, by simp [World.alloc, -World.alloc_eq], Nat.le_refl _, Nat.zero_le _, rfl, rfl⟩⟩
theorem info_str : (Tryz.prog.info? 9).map (fun i => (i.zero, i.size, i.bytes)) = some (some (.string ⟨#[]⟩), 1, 16) := by kernel_rfl
theorem l01Cut (s : ByteArray) (g : Int) (w : World) (hs : s.size ≤ 1048576) :
    Calls Tryz.prog 53 #[.string s, .int .u8 g] w fun e w' => ∃ v, e = .returned v ∧ w'.ownsRow w.heap.size 9 1 v (cut s g).length ((cut s g).map Value.string) ∧ Below w.heap.size w w' := by
  obtain ⟨i0, hi, hz0, hz1, hz2⟩ := info_parts info_str
  go_enter Tryz.func53, Tryz.ntmps53
  go_wp2
  go_loopw [5, 6, 7] (fun o f i wr => ∃ k : Nat, k ≤ s.size ∧ i = .int .i64 (k : Int) ∧ f = .int .i64 (startAt s g k : Int) ∧ wr.ownsRow w.heap.size 9 1 o (partsTo s g k).length ((partsTo s g k).map Value.string) ∧ Below w.heap.size w wr) (fun _ _ i _ => s.size - (intOf i).toNat)
  case atStart => exact ⟨0, Nat.zero_le _, rfl, rfl, own_empty w _, (Below.refl _ _).alloc (Nat.le_refl _) _⟩
  case round =>
   obtain ⟨k, hk, rfl, rfl, hrow, hB⟩ := hrel
   have hsl := start_le s g k
   have hpl := parts_len s g k
   by_cases hlt : k < s.size
   · have hx := bAt_eq s k hlt
     by_cases hg : bAt s k = g
     · have hg' : (bAt s k == g) = true := by simp [hg]
       obtain ⟨HP, HS⟩ : Hid (partsTo s g (k + 1) = partsTo s g k ++ [s.extract (startAt s g k) k]) ∧ Hid (startAt s g (k + 1) = k + 1) := parts_hit s g k hg
       clear hg
       go_wp2_with (at_builtin; refine wpList_append_own _ rfl _ _ 42 rfl w.heap.size 9 i0 (.string ⟨#[]⟩) 1 16 Tryz.underlying42 hi hz0 hz1 hz2 rfl (by decide) _ _ _ rfl (hrow.alloc _) ⟨wr.heap.size, 0, none⟩ 1 1 [.string (s.extract (startAt s g k) k)] rfl rfl (cell_one_new _ _ _) (by simp [Value.oneCell']) (by unfold maxLen; omega) (by omega) (by have := hB.size; simp; omega) ?_; intro v' w1 hown' hgrow _)
       have hB1 : Below w.heap.size w w1 := (hB.alloc hB.size _).grown hgrow (by have := hB.size; rw [size_new']; omega) (own_base hrow)
       refine ⟨⟨k + 1, by omega, by go_num, by rw [HS.out]; go_num, ?_, hB1⟩, by simp [intOf]; omega⟩
       rw [HP.out, List.length_append, List.map_append]
       exact hown'
     · have hg' : (bAt s k == g) = false := by simp [hg]
       obtain ⟨HP, HS⟩ : Hid (partsTo s g (k + 1) = partsTo s g k) ∧ Hid (startAt s g (k + 1) = startAt s g k) := parts_miss s g k hg
       clear hg
       go_wp2
       exact ⟨⟨k + 1, by omega, by go_num, by rw [HS.out], by rw [HP.out]; exact hrow, hB⟩, by simp [intOf]; omega⟩
   · have hks : k = s.size := by omega
     subst hks
     have hlo : (startAt s g s.size : Int) ≤ (s.size : Int) := by omega
     go_wp2_with (at_builtin; refine wpList_append_own _ rfl _ _ 42 rfl w.heap.size 9 i0 (.string ⟨#[]⟩) 1 16 Tryz.underlying42 hi hz0 hz1 hz2 rfl (by decide) _ _ _ rfl (hrow.alloc _) ⟨wr.heap.size, 0, none⟩ 1 1 [.string (s.extract (startAt s g s.size) s.size)] rfl rfl (cell_one_new _ _ _) (by simp [Value.oneCell']) (by unfold maxLen; omega) (by omega) (by have := hB.size; simp; omega) ?_; intro v' w1 hown' hgrow _)
     have hB1 : Below w.heap.size w w1 := (hB.alloc hB.size _).grown hgrow (by have := hB.size; rw [size_new']; omega) (own_base hrow)
     go_ret
     refine ⟨v', rfl, ?_, hB1⟩
     unfold cut
     rw [List.length_append, List.map_append]
     exact hown'
theorem specWords (s : ByteArray) (w : World) (hs : s.size ≤ 1048576) :
    Calls Tryz.prog 51 #[.string s] w fun e w' => ∃ v, e = .returned v ∧ w'.ownsRow w.heap.size 9 1 v (cut s 32).length ((cut s 32).map Value.string) ∧ Below w.heap.size w w' := by
  go_enter Tryz.func51, Tryz.ntmps51
  go_wp2_with fail
  refine (l01Cut s 32 _ hs).mono ?_
  rintro e w' ⟨v, rfl, hrow, hb⟩
  have HR : Hid _ := hrow
  have HB : Hid _ := hb
  clear hrow hb
  go_wp2
  go_ret
  exact ⟨v, rfl, HR.out, HB.out⟩
def StrRow (W : World) (v : Value) (xs : List ByteArray) : Prop :=
 ∃ a cap, v = .slice a xs.length cap ∧ (xs = [] ∨ ∃ g, a = some ⟨g, 0, none⟩ ∧ ∀ j, j < xs.length → W.cell? ⟨g, j, none⟩ = some (.string (xs.getD j ⟨#[]⟩)))
theorem StrRow.at {W : World} {v : Value} {xs : List ByteArray} (h : StrRow W v xs) : ∃ a cap, v = .slice a xs.length cap ∧ ∀ k, k < xs.length → ∃ g, a = some ⟨g, 0, none⟩ ∧ W.cell? ⟨g, k, none⟩ = some (.string (xs.getD k ⟨#[]⟩)) := by
 obtain ⟨a, cap, hv, hc⟩ := h
 refine ⟨a, cap, hv, fun k hk => ?_⟩
 rcases hc with rfl | ⟨g, ha, hc⟩
 · simp at hk
 · exact ⟨g, ha, hc k hk⟩
def OwnRow (W : World) (g n : Nat) : Prop := ∀ j, j < n → (∃ u, W.cell? ⟨g, j, none⟩ = some u) ∧ W.frozen? ⟨g, j, none⟩ = false
theorem mset_size (w : World) (p : Addr) (v : Value) : (w.setCell p v).heap.size = w.heap.size := by simp [World.setCell]
def StrAt (W : World) (g : Nat) (xs : List ByteArray) : Prop := ∀ j, j < xs.length → W.cell? ⟨g, j, none⟩ = some (.string (xs.getD j ⟨#[]⟩))
theorem StrAt.row {W : World} {g cap : Nat} {xs : List ByteArray} (h : StrAt W g xs) : StrRow W (.slice (some ⟨g, 0, none⟩) xs.length cap) xs := ⟨_, _, rfl, .inr ⟨g, rfl, h⟩⟩
theorem StrAt.below {W W' : World} {g : Nat} {xs : List ByteArray} (h : StrAt W g xs) {B : Nat} (hb : Below B W W') (hg : g < B) : StrAt W' g xs := fun j hj => (hb.cell (p := ⟨g, j, none⟩) hg).trans (h j hj)
theorem StrAt.grown {W W' : World} {g r : Nat} {xs : List ByteArray} (h : StrAt W g xs) (hb : W.grownBy W' (some r)) (hg : g < W.heap.size) (hr : g ≠ r) : StrAt W' g xs := fun j hj =>
 (World.cell?_of_block (hb.block g hg (by intro e; exact hr (Option.some.inj e)))).trans (h j hj)
theorem own_row {W : World} {base : Nat} {v : Value} {xs : List ByteArray} (h : W.ownsRow base 9 1 v xs.length (xs.map Value.string)) (hx : xs ≠ []) :
    ∃ g cap, v = .slice (some ⟨g, 0, none⟩) xs.length cap ∧ base ≤ g ∧ g < W.heap.size ∧ StrAt W g xs ∧ OwnRow W g xs.length := by
  rcases h.2 with ⟨_, h0⟩ | ⟨g, cap, cur, hv, hb, hh, hcap, _, hsz, htake⟩
  · exact absurd (List.length_eq_zero_iff.1 h0) hx
  · subst hv
    have hlt : g < W.heap.size := (Array.getElem?_eq_some_iff.1 hh).1
    have hcell : ∀ j, j < xs.length → W.cell? ⟨g, j, none⟩ = some (.string (xs.getD j ⟨#[]⟩)) := fun j hj => by
     have := h.cellAt j (by omega)
     rw [this]
     simp [List.getD, hj]
    refine ⟨g, cap, rfl, hb, hlt, hcell, fun j hj => ⟨⟨_, hcell j hj⟩, ?_⟩⟩
    simp [World.frozen?, hh]
theorem cut_ne (s : ByteArray) (g : Int) : cut s g ≠ [] := by unfold cut; simp
def mleft (m : Nat) : List UInt8 := if m = 0 then [] else Lib.decDigits m
theorem mleft_step (m : Nat) (h : m ≠ 0) : mleft m = mleft (m / 10) ++ [UInt8.ofNat (48 + m % 10)] := by
 unfold mleft
 rw [if_neg h, Lib.decDigits]
 by_cases h0 : m < 10
 · rw [dif_pos h0, if_pos (by omega), Nat.mod_eq_of_lt h0]
   rfl
 · rw [dif_neg h0, if_neg (by omega)]
theorem mdec_len : ∀ (k u : Nat), u < 10 ^ (k + 1) → (Lib.decDigits u).length ≤ k + 1
  | 0, u, h => by rw [Lib.decDigits, dif_pos (by simpa using h)]; simp
  | k + 1, u, h => by
   rw [Lib.decDigits]
   by_cases h0 : u < 10
   · rw [dif_pos h0]; simp
   · rw [dif_neg h0, List.length_append]
     have := mdec_len k (u / 10) (by rw [Nat.pow_succ] at h; omega)
     simp
     omega
theorem mleft_len (n : Nat) (h : n < 1000000000) : (mleft n).length ≤ 9 := by
 unfold mleft
 split
 · simp
 · exact mdec_len 8 n (by have hp : (10 : Nat) ^ (8 + 1) = 1000000000 := by decide
                          rw [hp]; exact h)
def mk (k : Nat) : ByteArray := ⟨(109 :: mleft k).toArray⟩
theorem conv1 (W : World) (c : Int) (h0 : 0 ≤ c) (h1 : c < 256) : (convert 119 9 (.slice (some ⟨W.heap.size, 0, none⟩) 1 1)).run Tryz.prog (W.alloc (.cells #[.int .u8 c] 5)) = .ok (.string ⟨#[UInt8.ofNat c.toNat]⟩) (W.alloc (.cells #[.int .u8 c] 5)) := by
 refine run_convert_bytes_back _ 119 9 5 ⟨W.heap.size, 0, none⟩ 1 [UInt8.ofNat c.toNat] Tryz.underlying119 Tryz.underlying5 Tryz.underlying9 (fun j hj => ?_)
 have hj0 : j = 0 := by simpa using hj
 subst hj0
 have ha : (⟨W.heap.size, 0, none⟩ : Addr).add 0 = ⟨W.heap.size, 0, none⟩ := by unfold Addr.add; split <;> simp_all
 have hc : (W.alloc (.cells #[.int .u8 c] 5)).cell? ⟨W.heap.size, 0, none⟩ = some (.int .u8 c) := by simp [World.alloc, World.cell?, -World.alloc_eq]
 rw [ha, hc]
 simp
 omega
theorem markText (n : Nat) (w : World) (hn : 0 < n) (hb : n < 1000000000) :
    CR 45 #[.int .i64 (n : Int)] w (.string (mk n)) := by
  have hl9 := mleft_len n hb
  have HL9 : Hid _ := hl9
  clear hl9
  go_enter Tryz.func45, Tryz.ntmps45
  go_wp2
  go_loopw [0, 3] (fun t o wr => ∃ (m : Nat) (out : List UInt8), m < 1000000000 ∧ t = .int .i64 (m : Int) ∧ o = .string ⟨out.toArray⟩ ∧ out.length ≤ 9 ∧ Hid (mleft m ++ out = mleft n) ∧ Below w.heap.size w wr) (fun t _ _ => (intOf t).toNat)
  case atStart => exact ⟨n, [], hb, rfl, rfl, by simp, by unfold Hid; simp, Below.refl _ _⟩
  case round =>
   obtain ⟨m, out, hm, rfl, rfl, ho, HO, hB⟩ := hrel
   by_cases hz : m = 0
   · subst hz
     go_wp2
     go_ret
     refine ⟨ret_str ?_, hB⟩
     unfold mk
     rw [← HO.out]
     apply WideShapes.bytes_inj
     simp [mleft]
   · have hmp : 0 < (m : Int) := by omega
     have hcv := fun W : World => conv1 W (48 + (m : Int) % 10) (by omega) (by omega)
     have hx : mleft (m / 10) ++ ((48 + UInt8.ofNat (m % 10)) :: out) = mleft n := by
      rw [← HO.out, mleft_step m hz, UInt8.ofNat_add]
      simp
     have hol : ((48 + UInt8.ofNat (m % 10)) :: out).length ≤ 9 := by
      have h := HL9.out
      rw [← hx, List.length_append] at h
      omega
     have HX : Hid _ := hx
     have HOL : Hid _ := hol
     clear hx hol
     go_wp2
     refine ⟨⟨m / 10, (48 + UInt8.ofNat (m % 10)) :: out, by omega, by simp, ?_, HOL.out, HX.out, hB.alloc hB.size _⟩, by simp [intOf]; omega⟩
     apply congrArg Value.string
     apply WideShapes.bytes_inj
     simp
end Go.Proofs.YtpclaceefapppaaGreatDoor.ctr
