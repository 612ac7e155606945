/- Contracts of the model's l01Many, l01Digit and PutRoman: PutRoman answers the plain function putRoman at every; and what else the law reaches. -/
import Derived.Test.YtdmlhiailjnhcaaGreatDoorJnXaa
import Derived.Handy
import Derived.Test.YtdmlhiailjnhcaaGreatDoorJnXab
import Derived.Laws.AppendOwn
import Derived.Laws.OwnMore
import Derived.OwnWalk
import Derived.RangeFuncBox
import Derived.Maps.AppendAt
import Derived.Lib.AppendZerosOnto
import Derived.Lib.SliceRun
namespace Go.Proofs.YtdmlhiailjnhcaaGreatDoor.ctr
open Go.RowKit
def digL (d : Nat) (a b c : UInt8) : List UInt8 :=
 match d with
 | 1 => [a] | 2 => [a, a] | 3 => [a, a, a] | 4 => [a, b] | 5 => [b] | 6 => [b, a] | 7 => [b, a, a] | 8 => [b, a, a, a] | 9 => [a, c] | _ => []
theorem digL_len (d : Nat) (a b c : UInt8) : (digL d a b c).length ≤ 4 := by unfold digL; split <;> simp
def manyL (c : UInt8) (n : Nat) : List UInt8 := List.replicate n c
theorem manyL_len (c : UInt8) (n : Nat) : (manyL c n).length = n := by simp [manyL]
theorem manyL_snoc (c : UInt8) (n : Nat) : manyL c n ++ [c] = manyL c (n + 1) := by simp [manyL, List.replicate_succ']
def roman (n : Nat) : List UInt8 := manyL 77 (n / 1000) ++ digL (n / 100 % 10) 67 68 77 ++ digL (n / 10 % 10) 88 76 67 ++ digL (n % 10) 73 86 88
def putRoman (n : Int) : ByteArray := ⟨(if 1 ≤ n ∧ n ≤ 3999 then roman n.toNat else []).toArray⟩
theorem roman_int (n : Int) (h : 0 ≤ n) : roman n.toNat = manyL 77 (n / 1000).toNat ++ digL (n / 100 % 10).toNat 67 68 77 ++ digL (n / 10 % 10).toNat 88 76 67 ++ digL (n % 10).toNat 73 86 88 := by
 unfold roman
 rw [show (n / 1000).toNat = n.toNat / 1000 from by omega, show (n / 100 % 10).toNat = n.toNat / 100 % 10 from by omega, show (n / 10 % 10).toNat = n.toNat / 10 % 10 from by omega, show (n % 10).toNat = n.toNat % 10 from by omega]
theorem putRoman_no {n : Int} (h : n < 1 ∨ 3999 < n) : putRoman n = ⟨#[]⟩ := by unfold putRoman; rw [if_neg (by omega)]
theorem join_list (a b : List UInt8) : (⟨a.toArray⟩ : ByteArray) ++ ⟨b.toArray⟩ = ⟨(a ++ b).toArray⟩ := by
 apply WideShapes.bytes_inj
 simp
theorem digit_cases {d : Int} (h0 : 0 ≤ d) (h1 : d ≤ 9) : d = 0 ∨ d = 1 ∨ d = 2 ∨ d = 3 ∨ d = 4 ∨ d = 5 ∨ d = 6 ∨ d = 7 ∨ d = 8 ∨ d = 9 := by omega
set_option maxHeartbeats 400000 in
theorem l01Many (c : UInt8) (n : Int) (w : World) (h0 : 0 ≤ n) (h3 : n ≤ 1000) :
    Calls Tryz.prog 238 #[.string ⟨#[c]⟩, .int .i64 n] w fun e w' => e = .returned (.string ⟨(manyL c n.toNat).toArray⟩) ∧ w' = w := by
  go_enter Tryz.func238, Tryz.ntmps238
  go_wp2
  go_loop [5, 6] (fun o i => ∃ k : Nat, (k : Int) ≤ n ∧ i = .int .i64 k ∧ ∃ l : List UInt8, l.length = k ∧ o = .string ⟨l.toArray⟩ ∧ Hid (l = manyL c k)) (fun _ i => n.toNat - (intOf i).toNat)
  case atStart => exact ⟨0, by omega, rfl, [], rfl, rfl, rfl⟩
  case round =>
   obtain ⟨k, hk, rfl, l, hl, rfl, HL⟩ := hrel
   have hl' : l.length ≤ 1000 := by omega
   have HK : Hid (l.length = k) := hl
   clear hl
   by_cases hlt : (k : Int) < n
   · go_wp2
     refine ⟨⟨k + 1, by omega, by go_num, l ++ [c], by simp [HK.out], ?_, by unfold Hid; rw [HL.out, manyL_snoc]⟩, by simp [intOf]; omega⟩
     exact congrArg Value.string (join_list l [c])
   · have e : n.toNat = k := by omega
     have HE : Hid (n.toNat = k) := e
     clear e
     go_wp2
     go_ret
     exact ⟨ret_str (by rw [HE.out, HL.out]), rfl⟩
set_option maxHeartbeats 1000000 in
theorem l01Digit (d : Int) (a b c : UInt8) (w : World) (h0 : 0 ≤ d) (h9 : d ≤ 9) :
    Calls Tryz.prog 239 #[.int .i64 d, .string ⟨#[a]⟩, .string ⟨#[b]⟩, .string ⟨#[c]⟩] w fun e w' => e = .returned (.string ⟨(digL d.toNat a b c).toArray⟩) ∧ w' = w := by
  rcases digit_cases h0 h9 with rfl | rfl | rfl | rfl | rfl | rfl | rfl | rfl | rfl | rfl
  all_goals
   go_enter Tryz.func239, Tryz.ntmps239
   go_wp2_with (go_at_call 238; refine (l01Many _ _ _ (by omega) (by omega)).mono ?_; rintro e w' ⟨rfl, rfl⟩)
   go_ret
   exact ⟨rfl, rfl⟩
set_option maxHeartbeats 400000 in
theorem specPutRoman (n : Int) (w : World) :
    Calls Tryz.prog 195 #[.int .i64 n] w fun e w' => e = .returned (.string (putRoman n)) ∧ w' = w := by
  by_cases hin : 1 ≤ n ∧ n ≤ 3999
  · obtain ⟨h1, h2⟩ := hin
    have HP : Hid (putRoman n = ⟨(roman n.toNat).toArray⟩) := by unfold Hid putRoman; rw [if_pos ⟨h1, h2⟩]
    have hi : inB n 1 3999 = true := inB_true h1 h2
    go_enter Tryz.func195, Tryz.ntmps195
    go_wp2_with (go_at_call 45; refine (l01In _ _ _ _).mono ?_; rintro e w' ⟨rfl, rfl⟩)
    refine (l01Many _ _ _ (by omega) (by omega)).mono ?_
    rintro e w' ⟨rfl, rfl⟩
    have l1 := manyL_len 77 (n / 1000).toNat
    generalize hx1 : manyL 77 (n / 1000).toNat = x1 at *
    have hl1 : x1.length ≤ 3 := by omega
    have H1 : Hid (manyL 77 (n / 1000).toNat = x1) := hx1
    clear hx1 l1
    go_wp2_with fail
    refine (l01Digit _ _ _ _ _ (by omega) (by omega)).mono ?_
    rintro e w' ⟨rfl, rfl⟩
    have hl2 := digL_len (n / 100 % 10).toNat 67 68 77
    generalize hx2 : digL (n / 100 % 10).toNat 67 68 77 = x2 at *
    have H2 : Hid (digL (n / 100 % 10).toNat 67 68 77 = x2) := hx2
    clear hx2
    go_wp2_with fail
    refine (l01Digit _ _ _ _ _ (by omega) (by omega)).mono ?_
    rintro e w' ⟨rfl, rfl⟩
    have hl3 := digL_len (n / 10 % 10).toNat 88 76 67
    generalize hx3 : digL (n / 10 % 10).toNat 88 76 67 = x3 at *
    have H3 : Hid (digL (n / 10 % 10).toNat 88 76 67 = x3) := hx3
    clear hx3
    go_wp2_with fail
    refine (l01Digit _ _ _ _ _ (by omega) (by omega)).mono ?_
    rintro e w' ⟨rfl, rfl⟩
    have hl4 := digL_len (n % 10).toNat 73 86 88
    generalize hx4 : digL (n % 10).toNat 73 86 88 = x4 at *
    have H4 : Hid (digL (n % 10).toNat 73 86 88 = x4) := hx4
    clear hx4
    go_wp2
    go_ret
    refine ⟨ret_str ?_, rfl⟩
    rw [join_list, join_list, join_list, HP.out, roman_int n (by omega), H1.out, H2.out, H3.out, H4.out]
  · have HP := putRoman_no (n := n) (by omega)
    rw [HP]
    clear HP
    have hi : inB n 1 3999 = false := inB_false (by omega)
    go_enter Tryz.func195, Tryz.ntmps195
    go_wp2_with (go_at_call 45; refine (l01In _ _ _ _).mono ?_; rintro e w' ⟨rfl, rfl⟩)
    go_ret
    exact ⟨rfl, rfl⟩
def worth (x : Int) : Int := if x = 73 then 1 else if x = 86 then 5 else if x = 88 then 10 else if x = 76 then 50 else if x = 67 then 100 else if x = 68 then 500 else if x = 77 then 1000 else 0
def byteAt (s : ByteArray) (k : Nat) : Int := ((s.data.toList.getD k 0).toNat : Int)
def stepAt (s : ByteArray) (k : Nat) : Int := if k + 1 < s.size ∧ worth (byteAt s k) < worth (byteAt s (k + 1)) then -worth (byteAt s k) else worth (byteAt s k)
def sumR (s : ByteArray) : Nat → Int
  | 0 => 0
  | k + 1 => sumR s k + stepAt s k
def getRoman (s : ByteArray) : Int := if putRoman (sumR s s.size) = s then sumR s s.size else 0
def goodB (c : UInt8) : Bool := worth (c.toNat : Int) != 0
theorem digL_all (p : UInt8 → Bool) (d : Nat) (a b c : UInt8) (ha : p a = true) (hb : p b = true) (hc : p c = true) : (digL d a b c).all p = true := by
 unfold digL
 split <;> simp [ha, hb, hc]
theorem roman_good (n : Int) : (putRoman n).data.toList.all goodB = true ∧ (putRoman n).size ≤ 15 := by
 unfold putRoman
 by_cases h : 1 ≤ n ∧ n ≤ 3999
 · rw [if_pos h]
   unfold roman
   constructor
   · simp only [List.all_append, Bool.and_eq_true]
     refine ⟨⟨⟨?_, digL_all _ _ _ _ _ (by decide) (by decide) (by decide)⟩, digL_all _ _ _ _ _ (by decide) (by decide) (by decide)⟩, digL_all _ _ _ _ _ (by decide) (by decide) (by decide)⟩
     simp [manyL]
     exact .inr (by decide)
   · show (manyL 77 (n.toNat / 1000) ++ digL (n.toNat / 100 % 10) 67 68 77 ++ digL (n.toNat / 10 % 10) 88 76 67 ++ digL (n.toNat % 10) 73 86 88).length ≤ 15
     have h1 := manyL_len 77 (n.toNat / 1000)
     have h2 := digL_len (n.toNat / 100 % 10) 67 68 77
     have h3 := digL_len (n.toNat / 10 % 10) 88 76 67
     have h4 := digL_len (n.toNat % 10) 73 86 88
     simp only [List.length_append]
     omega
 · rw [if_neg h]
   exact ⟨rfl, Nat.zero_le _⟩
def mons : List (List UInt8) := [[106, 97, 110], [102, 101, 98], [109, 97, 114], [97, 112, 114], [109, 97, 121], [106, 117, 110], [106, 117, 108], [97, 117, 103], [115, 101, 112], [111, 99, 116], [110, 111, 118], [100, 101, 99]]
def monthText (m : Int) : ByteArray := ⟨(if 1 ≤ m ∧ m ≤ 12 then mons.getD (m - 1).toNat [] else []).toArray⟩
theorem monthText_no {m : Int} (h : m < 1 ∨ 12 < m) : monthText m = ⟨#[]⟩ := by unfold monthText; rw [if_neg (by omega)]
theorem mon_cases {m : Int} (h1 : 1 ≤ m) (h2 : m ≤ 12) : m = 1 ∨ m = 2 ∨ m = 3 ∨ m = 4 ∨ m = 5 ∨ m = 6 ∨ m = 7 ∨ m = 8 ∨ m = 9 ∨ m = 10 ∨ m = 11 ∨ m = 12 := by omega
set_option maxHeartbeats 400000 in
theorem specMonthName (m : Int) (w : World) :
    CR 146 #[.int .i64 m] w (.string (monthText m)) := by
  by_cases h1 : m < 1
  · rw [monthText_no (.inl h1)]
    go_enter Tryz.func146, Tryz.ntmps146
    go_wp2
    go_ret
    exact ⟨rfl, Below.refl _ _⟩
  by_cases h2 : 12 < m
  · rw [monthText_no (.inr h2)]
    have hd : decide (m ≤ 12) = false := by simp; omega
    go_enter Tryz.func146, Tryz.ntmps146
    go_wp2
    go_ret
    exact ⟨rfl, Below.refl _ _⟩
  rcases mon_cases (m := m) (by omega) (by omega) with rfl | rfl | rfl | rfl | rfl | rfl | rfl | rfl | rfl | rfl | rfl | rfl
  all_goals
   go_enter Tryz.func146, Tryz.ntmps146
   go_wp2
   go_ret
   exact ⟨rfl, (Below.refl _ _).alloc (Nat.le_refl _) _⟩
theorem implMonthName (m : Int) (w : World) (hT : kit.StrIs Tryz.prog w "loop.example/g00638/impl.monthNames" mons) :
    Calls Tryz.prog 196 #[.int .i64 m] w fun e w' => e = .returned (.string (monthText m)) ∧ w' = w := by
  by_cases h1 : m < 1
  · rw [monthText_no (.inl h1)]
    clear hT
    go_enter Tryz.func196, Tryz.ntmps196
    go_wp2
    go_ret
    exact ⟨rfl, rfl⟩
  by_cases h2 : 12 < m
  · rw [monthText_no (.inr h2)]
    clear hT
    go_enter Tryz.func196, Tryz.ntmps196
    go_wp2
    go_ret
    exact ⟨rfl, rfl⟩
  rcases mon_cases (m := m) (by omega) (by omega) with rfl | rfl | rfl | rfl | rfl | rfl | rfl | rfl | rfl | rfl | rfl | rfl
  focus
    have c := hT.cell (g := 2) (by kernel_rfl) 0 (by decide)
  rotate_left
  focus
    have c := hT.cell (g := 2) (by kernel_rfl) 1 (by decide)
  rotate_left
  focus
    have c := hT.cell (g := 2) (by kernel_rfl) 2 (by decide)
  rotate_left
  focus
    have c := hT.cell (g := 2) (by kernel_rfl) 3 (by decide)
  rotate_left
  focus
    have c := hT.cell (g := 2) (by kernel_rfl) 4 (by decide)
  rotate_left
  focus
    have c := hT.cell (g := 2) (by kernel_rfl) 5 (by decide)
  rotate_left
  focus
    have c := hT.cell (g := 2) (by kernel_rfl) 6 (by decide)
  rotate_left
  focus
    have c := hT.cell (g := 2) (by kernel_rfl) 7 (by decide)
  rotate_left
  focus
    have c := hT.cell (g := 2) (by kernel_rfl) 8 (by decide)
  rotate_left
  focus
    have c := hT.cell (g := 2) (by kernel_rfl) 9 (by decide)
  rotate_left
  focus
    have c := hT.cell (g := 2) (by kernel_rfl) 10 (by decide)
  rotate_left
  focus
    have c := hT.cell (g := 2) (by kernel_rfl) 11 (by decide)
  rotate_left
  all_goals
   clear hT h1 h2
   go_enter Tryz.func196, Tryz.ntmps196
   go_wp2
   go_ret
   exact ⟨rfl, rfl⟩
/-! ### MonthOf -/
def monOf (s : ByteArray) : Int := if (mons.findIdx fun l => l == s.data.toList) < 12 then ((mons.findIdx fun l => l == s.data.toList : Nat) : Int) + 1 else 0
structure Fea where
 name : ByteArray
 mv : Bool
 off : Int
 m : Int
 d : Int
def Fea.cs (f : Fea) : List Value := [.string f.name, .bool f.mv, .int .i64 f.off, .int .i64 f.m, .int .i64 f.d]
def fea0 : Fea := ⟨⟨#[]⟩, false, 0, 0, 0⟩
def feasts : List Fea := [
  ⟨⟨#[115, 101, 112, 116, 117, 97, 103, 101, 115, 105, 109, 97]⟩, true, -63, 0, 0⟩,
  ⟨⟨#[97, 115, 104]⟩, true, -46, 0, 0⟩,
  ⟨⟨#[112, 97, 108, 109]⟩, true, -7, 0, 0⟩,
  ⟨⟨#[101, 97, 115, 116, 101, 114]⟩, true, 0, 0, 0⟩,
  ⟨⟨#[113, 117, 97, 115, 105, 109, 111, 100, 111]⟩, true, 7, 0, 0⟩,
  ⟨⟨#[114, 111, 103, 97, 116, 105, 111, 110]⟩, true, 35, 0, 0⟩,
  ⟨⟨#[97, 115, 99, 101, 110, 115, 105, 111, 110]⟩, true, 39, 0, 0⟩,
  ⟨⟨#[112, 101, 110, 116, 101, 99, 111, 115, 116]⟩, true, 49, 0, 0⟩,
  ⟨⟨#[116, 114, 105, 110, 105, 116, 121]⟩, true, 56, 0, 0⟩,
  ⟨⟨#[99, 111, 114, 112, 117, 115]⟩, true, 60, 0, 0⟩,
  ⟨⟨#[101, 112, 105, 112, 104, 97, 110, 121]⟩, false, 0, 1, 6⟩,
  ⟨⟨#[99, 97, 110, 100, 108, 101, 109, 97, 115]⟩, false, 0, 2, 2⟩,
  ⟨⟨#[97, 110, 110, 117, 110, 99, 105, 97, 116, 105, 111, 110]⟩, false, 0, 3, 25⟩,
  ⟨⟨#[103, 101, 111, 114, 103, 101]⟩, false, 0, 4, 23⟩,
  ⟨⟨#[106, 111, 104, 110]⟩, false, 0, 6, 24⟩,
  ⟨⟨#[97, 115, 115, 117, 109, 112, 116, 105, 111, 110]⟩, false, 0, 8, 15⟩,
  ⟨⟨#[109, 105, 99, 104, 97, 101, 108]⟩, false, 0, 9, 29⟩,
  ⟨⟨#[115, 97, 105, 110, 116, 115]⟩, false, 0, 11, 1⟩,
  ⟨⟨#[109, 97, 114, 116, 105, 110]⟩, false, 0, 11, 11⟩,
  ⟨⟨#[99, 104, 114, 105, 115, 116, 109, 97, 115]⟩, false, 0, 12, 25⟩]
def feaAt (k : Nat) : Fea := feasts.getD k fea0
def feaCells : List Value := feasts.flatMap Fea.cs
theorem feaAt_size0 : ∀ i : Fin 20, (feaAt i.val).name.size ≤ 16 := by decide
theorem feasts_len : feasts.length = 20 := rfl
theorem feaCells_len : feaCells.length = 100 := rfl
theorem flat5 {j : Nat} (hj : j < 5) : ∀ (l : List Fea) (k : Nat), k < l.length → (l.flatMap Fea.cs)[k * 5 + j]? = (l.getD k fea0).cs[j]?
  | [], k, h => by simp at h
  | f :: l, 0, _ => by
   rw [List.flatMap_cons, List.getElem?_append_left (by simp [Fea.cs]; omega)]
   simp
  | f :: l, k + 1, h => by
   have ih := flat5 hj l k (by simpa using h)
   rw [List.flatMap_cons, List.getElem?_append_right (by simp [Fea.cs]; omega), show (k + 1) * 5 + j - f.cs.length = k * 5 + j from by simp [Fea.cs]; omega, ih]
   simp
theorem feaCell {k j : Nat} (hk : k < 20) (hj : j < 5) : feaCells[k * 5 + j]? = (feaAt k).cs[j]? := flat5 hj feasts k hk
def findFrom (s : ByteArray) : List Fea → Nat → Int
  | [], _ => -1
  | f :: l, k => if f.name = s then (k : Int) else findFrom s l (k + 1)
def findFeast (s : ByteArray) : Int := findFrom s feasts 0
theorem drop_at (k : Nat) (h : k < 20) : feasts.drop k = feaAt k :: feasts.drop (k + 1) := by
 rw [List.drop_eq_getElem_cons (show k < feasts.length from h)]
 unfold feaAt
 rw [List.getD, List.getElem?_eq_getElem (show k < feasts.length from h)]
 rfl
theorem find_hit {s : ByteArray} {k : Nat} (h : k < 20) (hn : (feaAt k).name = s) (hf : findFrom s (feasts.drop k) k = findFeast s) : findFeast s = k := by
 rw [← hf, drop_at k h, findFrom, if_pos hn]
theorem find_miss {s : ByteArray} {k : Nat} (h : k < 20) (hn : (feaAt k).name ≠ s) (hf : findFrom s (feasts.drop k) k = findFeast s) : findFrom s (feasts.drop (k + 1)) (k + 1) = findFeast s := by
 rw [← hf, drop_at k h, findFrom, if_neg hn]
theorem find_end {s : ByteArray} {k : Nat} (h : 20 ≤ k) (hf : findFrom s (feasts.drop k) k = findFeast s) : findFeast s = -1 := by
 rw [← hf, List.drop_eq_nil_of_le (by rw [feasts_len]; exact h), findFrom]
theorem findFrom_b (s : ByteArray) : ∀ (l : List Fea) (k : Nat), findFrom s l k = -1 ∨ ((k : Int) ≤ findFrom s l k ∧ findFrom s l k < ((k + l.length : Nat) : Int))
  | [], _ => .inl rfl
  | f :: l, k => by
   rw [findFrom]
   split
   · right; simp; omega
   · rcases findFrom_b s l (k + 1) with h | ⟨h1, h2⟩
     · exact .inl h
     · right
       simp at h1 h2 ⊢
       omega
theorem find_b (s : ByteArray) : -1 ≤ findFeast s ∧ findFeast s < 20 := by
 rcases findFrom_b s feasts 0 with h | ⟨h1, h2⟩
 · unfold findFeast; omega
 · have h2' : findFrom s feasts 0 < 20 := h2
   unfold findFeast
   omega
def FeaRow (W : World) (v : Value) : Prop := ∃ g cap, v = .slice (some ⟨g, 0, none⟩) 20 cap ∧ g < W.heap.size ∧ ∀ k, k < 20 → ∀ j, j < 5 → W.cell? ⟨g, k * 5 + j, none⟩ = (feaAt k).cs[j]?
theorem FeaRow.below {W W' : World} {v : Value} (h : FeaRow W v) (hb : Below W.heap.size W W') : FeaRow W' v := by
 obtain ⟨g, cap, rfl, hg, hc⟩ := h
 exact ⟨g, cap, rfl, Nat.lt_of_lt_of_le hg hb.size, fun k hk j hj => (hb.cell (p := ⟨g, k * 5 + j, none⟩) hg).trans (hc k hk j hj)⟩
def FeaOwn (w W : World) (v : Value) : Prop := W.ownsRow w.heap.size 107 5 v 20 feaCells
theorem FeaOwn.row {w W : World} {v : Value} (h : FeaOwn w W v) : FeaRow W v := by
 rcases h.2 with ⟨_, h0⟩ | ⟨g, cap, cur, hv, hb, hh, hcap, _, hsz, htake⟩
 · simp at h0
 · subst hv
   refine ⟨g, cap, rfl, (Array.getElem?_eq_some_iff.1 hh).1, fun k hk j hj => ?_⟩
   rw [← feaCell hk hj, ← htake, List.getElem?_take, if_pos (by omega)]
   simp [World.cell?, hh]
theorem specMoves4 (s : ByteArray) (o : Int) (w : World) : CR 123 #[.string s, .int .i64 o] w (.agg #[.string s, .bool true, .int .i64 o, .int .i64 0, .int .i64 0]) := by
 go_enter Tryz.func123, Tryz.ntmps123
 go_wp2
 go_returns
 refine ⟨rfl, ?_⟩
 go_grown
theorem specFixed4 (s : ByteArray) (m d : Int) (w : World) : CR 124 #[.string s, .int .i64 m, .int .i64 d] w (.agg #[.string s, .bool false, .int .i64 0, .int .i64 m, .int .i64 d]) := by
 go_enter Tryz.func124, Tryz.ntmps124
 go_wp2
 go_returns
 refine ⟨rfl, ?_⟩
 go_grown
theorem implOnEaster (s : ByteArray) (o : Int) (w : World) : CR 218 #[.string s, .int .i64 o] w (.agg #[.string s, .bool true, .int .i64 o, .int .i64 0, .int .i64 0]) := by
 go_enter Tryz.func218, Tryz.ntmps218
 go_wp2
 go_returns
 refine ⟨rfl, ?_⟩
 go_grown
theorem implOnDate (s : ByteArray) (m d : Int) (w : World) : CR 220 #[.string s, .int .i64 m, .int .i64 d] w (.agg #[.string s, .bool false, .int .i64 0, .int .i64 m, .int .i64 d]) := by
 go_enter Tryz.func220, Tryz.ntmps220
 go_wp2
 go_returns
 refine ⟨rfl, ?_⟩
 go_grown
theorem row_new {w W : World} {cs : Array Value} {t : TypeId} {n : Nat} {xs : List Value} (hb : w.heap.size ≤ W.heap.size) (hn : n ≤ maxLen) (hs : cs.size = n * 5) (hx : cs.toList = xs) :
    (W.alloc (.cells cs t)).ownsRow w.heap.size t 5 (.slice (some ⟨W.heap.size, 0, none⟩) n n) n xs := by
  have hl : xs.length = n * 5 := by rw [← hx, Array.length_toList, hs]
  exact ⟨hl, .inr ⟨W.heap.size, n, cs, rfl, hb, heap_alloc_new W _, Nat.le_refl _, hn, hs, by rw [hx, List.take_of_length_le (by omega)]⟩⟩
set_option maxRecDepth 100000 in
set_option maxHeartbeats 4000000 in
theorem specFeasts (w : World) : Calls Tryz.prog 69 #[] w fun e w' => ∃ v, e = .returned v ∧ FeaOwn w w' v ∧ Below w.heap.size w w' := by
 go_enter Tryz.func69, Tryz.ntmps69
 go_wp2_with fail
 refine latO (specMoves4 _ _ _) fun x1 => ?_
 go_wp2_with fail
 refine lat (specMoves4 _ _ _) fun x2 => ?_
 go_wp2_with fail
 refine lat (specMoves4 _ _ _) fun x3 => ?_
 go_wp2_with fail
 refine lat (specMoves4 _ _ _) fun x4 => ?_
 go_wp2_with fail
 refine lat (specMoves4 _ _ _) fun x5 => ?_
 go_wp2_with fail
 refine lat (specMoves4 _ _ _) fun x6 => ?_
 go_wp2_with fail
 refine lat (specMoves4 _ _ _) fun x7 => ?_
 go_wp2_with fail
 refine lat (specMoves4 _ _ _) fun x8 => ?_
 go_wp2_with fail
 refine lat (specMoves4 _ _ _) fun x9 => ?_
 go_wp2_with fail
 refine lat (specMoves4 _ _ _) fun x10 => ?_
 go_wp2_with fail
 refine lat (specFixed4 _ _ _ _) fun x11 => ?_
 go_wp2_with fail
 refine lat (specFixed4 _ _ _ _) fun x12 => ?_
 go_wp2_with fail
 refine lat (specFixed4 _ _ _ _) fun x13 => ?_
 go_wp2_with fail
 refine lat (specFixed4 _ _ _ _) fun x14 => ?_
 go_wp2_with fail
 refine lat (specFixed4 _ _ _ _) fun x15 => ?_
 go_wp2_with fail
 refine lat (specFixed4 _ _ _ _) fun x16 => ?_
 go_wp2_with fail
 refine lat (specFixed4 _ _ _ _) fun x17 => ?_
 go_wp2_with fail
 refine lat (specFixed4 _ _ _ _) fun x18 => ?_
 go_wp2_with fail
 refine lat (specFixed4 _ _ _ _) fun x19 => ?_
 go_wp2_with fail
 refine lat (specFixed4 _ _ _ _) fun x20 => ?_
 go_wp2
 go_ret
 exact ⟨_, rfl, row_new x20.below.size (by unfold maxLen; omega) rfl rfl, x20.below.alloc x20.below.size _⟩
theorem info_fea : (Tryz.prog.info? 107).map (fun i => (i.zero, i.size, i.bytes)) = some (some (.agg #[.string ⟨#[]⟩, .bool false, .int .i64 0, .int .i64 0, .int .i64 0]), 5, 48) := by kernel_rfl
theorem make10 (w : World) : (Instr.makeSlice 108 (.int .i64 0) (.int .i64 10)).run Tryz.prog w = .ok (.slice (some ⟨w.heap.size, 0, none⟩) 0 10) (w.alloc (.cells #[.string ⟨#[]⟩, .bool false, .int .i64 0, .int .i64 0, .int .i64 0, .string ⟨#[]⟩, .bool false, .int .i64 0, .int .i64 0, .int .i64 0, .string ⟨#[]⟩, .bool false, .int .i64 0, .int .i64 0, .int .i64 0, .string ⟨#[]⟩, .bool false, .int .i64 0, .int .i64 0, .int .i64 0, .string ⟨#[]⟩, .bool false, .int .i64 0, .int .i64 0, .int .i64 0, .string ⟨#[]⟩, .bool false, .int .i64 0, .int .i64 0, .int .i64 0, .string ⟨#[]⟩, .bool false, .int .i64 0, .int .i64 0, .int .i64 0, .string ⟨#[]⟩, .bool false, .int .i64 0, .int .i64 0, .int .i64 0, .string ⟨#[]⟩, .bool false, .int .i64 0, .int .i64 0, .int .i64 0, .string ⟨#[]⟩, .bool false, .int .i64 0, .int .i64 0, .int .i64 0] 107)) := by kernel_rfl
theorem fea_take (k : Nat) (hk : k < 20) : feaCells.take ((k + 1) * 5) = feaCells.take (k * 5) ++ (feaAt k).cs := by
 apply List.ext_getElem?
 intro i
 by_cases h1 : i < k * 5
 · rw [List.getElem?_append_left (by rw [List.length_take, feaCells_len]; omega), List.getElem?_take, List.getElem?_take, if_pos (by omega), if_pos h1]
 · rw [List.getElem?_append_right (by rw [List.length_take, feaCells_len]; omega), List.getElem?_take, List.length_take, feaCells_len, Nat.min_eq_left (by omega)]
   by_cases h2 : i < (k + 1) * 5
   · rw [if_pos h2, ← feaCell hk (show i - k * 5 < 5 by omega), show k * 5 + (i - k * 5) = i by omega]
   · rw [if_neg h2, List.getElem?_eq_none (by simp [Fea.cs]; omega)]
theorem own_base5 {w : World} {base e size : Nat} {v : Value} {n : Nat} {xs : List Value} (h : w.ownsRow base e size v n xs) : ∀ k, v.ownBlock = some k → base ≤ k := by
 obtain ⟨_, h | ⟨g, cap, cur, rfl, hb, _⟩⟩ := h
 · obtain ⟨rfl, _⟩ := h
   intro k hk
   cases hk
 · intro k hk
   cases hk
   exact hb
theorem sz_new (W : World) (o : Obj) : (W.alloc o).heap.size = W.heap.size + 1 := by simp [World.alloc, -World.alloc_eq]
theorem cells_new5 (W : World) (cs : List Value) (t : TypeId) {n : Nat} (hn : n = W.heap.size) : ∀ (j : Nat) (u : Value), cs[j]? = some u → (W.alloc (.cells cs.toArray t)).cell? ((⟨n, 0, none⟩ : Addr).add j) = some u := by
 intro j u h
 subst hn
 have ha : (⟨W.heap.size, 0, none⟩ : Addr).add j = ⟨W.heap.size, j, none⟩ := by unfold Addr.add; split <;> simp_all
 rw [ha]
 simp [World.alloc, World.cell?, h, -World.alloc_eq]
theorem cells_add {w : World} {g : Nat} {xs : List Value} (h : ∀ j u, xs[j]? = some u → w.cell? ⟨g, j, none⟩ = some u) : ∀ (j : Nat) (u : Value), xs[j]? = some u → w.cell? ((⟨g, 0, none⟩ : Addr).add j) = some u := by
 intro j u hj
 have ha : (⟨g, 0, none⟩ : Addr).add j = ⟨g, j, none⟩ := by unfold Addr.add; split <;> simp_all
 rw [ha]
 exact h j u hj
theorem fea_one : ∀ u ∈ feaCells, u.oneCell' = true := List.all_eq_true.1 (show feaCells.all Value.oneCell' = true by decide)
theorem cells_row {w : World} {base e : Nat} {v : Value} {n : Nat} {xs : List Value} (h : w.ownsRow base e 5 v n xs) (hn : n ≠ 0) : ∃ g cap, v = .slice (some ⟨g, 0, none⟩) n cap ∧ base ≤ g ∧ g < w.heap.size ∧ ∀ j u, xs[j]? = some u → w.cell? ⟨g, j, none⟩ = some u := by
 have hc := fun g => h.cells (g := g)
 rcases h.2 with ⟨_, h0⟩ | ⟨g, cap, cur, rfl, hb, hh, _⟩
 · exact absurd h0 hn
 · refine ⟨g, cap, rfl, hb, (Array.getElem?_eq_some_iff.1 hh).1, fun j u hj => ?_⟩
   have := hc g rfl j u hj
   have ha : (⟨g, 0, none⟩ : Addr).add j = ⟨g, j, none⟩ := by unfold Addr.add; split <;> simp_all
   rw [ha] at this
   exact this
set_option maxRecDepth 100000 in
set_option maxHeartbeats 2000000 in
theorem implMoving (g cap : Nat) (w : World) (hg : g < w.heap.size) (hc : ∀ k, k < 10 → ∀ j, j < 5 → w.cell? ⟨g, k * 5 + j, none⟩ = (feaAt k).cs[j]?) :
    Calls Tryz.prog 217 #[.slice (some ⟨g, 0, none⟩) 10 cap] w fun e w' => ∃ v, e = .returned v ∧ w'.ownsRow w.heap.size 107 5 v 10 (feaCells.take 50) ∧ Below w.heap.size w w' := by
  obtain ⟨i0, hi, hz0, hz1, hz2⟩ := info_parts info_fea
  have HC := hideP hc
  clear hc
  have hmk := make10
  go_enter Tryz.func217, Tryz.ntmps217
  go_wp2
  clear hmk
  go_loopw [3, 11] (fun o i wr => ∃ k : Nat, k ≤ 10 ∧ i = .int .i64 (k : Int) ∧ wr.ownsRow w.heap.size 107 5 o k (feaCells.take (k * 5)) ∧ Below w.heap.size w wr) (fun _ i _ => 10 - (intOf i).toNat)
  case atStart => exact ⟨0, Nat.zero_le _, rfl, World.ownsRow_made w _ 10 (Nat.le_refl _) (by unfold maxLen; omega) rfl, (Below.refl _ _).alloc (Nat.le_refl _) _⟩
  case round =>
   obtain ⟨k, hk, rfl, hrow, hB⟩ := hrel
   by_cases hlt : k < 10
   · have HT := hideP (fea_take k (by omega))
     have HR := hideP hrow
     have HB := hideP hB
     clear hrow hB
     have c0 := (HB.out.cell (p := ⟨g, k * 5 + 0, none⟩) hg).trans (HC.out k hlt 0 (by omega))
     have c1 := (HB.out.cell (p := ⟨g, k * 5 + 1, none⟩) hg).trans (HC.out k hlt 1 (by omega))
     have c2 := (HB.out.cell (p := ⟨g, k * 5 + 2, none⟩) hg).trans (HC.out k hlt 2 (by omega))
     have c3 := (HB.out.cell (p := ⟨g, k * 5 + 3, none⟩) hg).trans (HC.out k hlt 3 (by omega))
     have c4 := (HB.out.cell (p := ⟨g, k * 5 + 4, none⟩) hg).trans (HC.out k hlt 4 (by omega))
     generalize feaAt k = f at *
     obtain ⟨s, mv, o, m, d⟩ := f
     simp only [Fea.cs, List.getElem?_cons_zero, List.getElem?_cons_succ, Nat.add_zero] at c0 c1 c2 c3 c4
     go_wp2_with (at_builtin; refine wpList_append_own _ rfl _ _ 108 rfl w.heap.size 107 i0 (.agg #[.string ⟨#[]⟩, .bool false, .int .i64 0, .int .i64 0, .int .i64 0]) 5 48 Tryz.underlying108 hi hz0 hz1 hz2 rfl (by decide) _ _ _ rfl ((HR.out.alloc _).alloc _) ⟨wr.heap.size + 1, 0, none⟩ 1 1 [.string s, .bool mv, .int .i64 o, .int .i64 m, .int .i64 d] rfl rfl (cells_new5 _ _ _ (by rw [sz_new])) (by simp [Value.oneCell']) (by unfold maxLen; omega) (by omega) (by have := HB.out.size; rw [sz_new, sz_new]; omega) ?_; intro v' w1 hown' hgrow _)
     have hB1 : Below w.heap.size w w1 := ((HB.out.alloc HB.out.size _).alloc (by have := HB.out.size; rw [sz_new]; omega) _).grown hgrow (by have := HB.out.size; rw [sz_new, sz_new]; omega) (own_base5 HR.out)
     refine ⟨⟨k + 1, by omega, by go_num, ?_, hB1⟩, by simp [intOf]; omega⟩
     rw [HT.out]
     exact hown'
   · have hkn : k = 10 := by omega
     subst hkn
     go_wp2
     go_ret
     exact ⟨_, rfl, hrow, hB⟩
theorem grow0 (w : World) : ∀ ty, (Builtin.append_ #[108, 3] ty #[.slice none 0 0, .int .i64 20]).run Tryz.prog w =
    .ok (.slice (some ⟨w.heap.size, 0, none⟩) 20 (grownCap w 20 0 107)) (w.drew.alloc (.cells (#[] ++ Builtin.zeroCells (Value.cells (.agg #[.string ⟨#[]⟩, .bool false, .int .i64 0, .int .i64 0, .int .i64 0])) 20 ++ Builtin.zeroCells (Value.cells (.agg #[.string ⟨#[]⟩, .bool false, .int .i64 0, .int .i64 0, .int .i64 0])) (grownCap w 20 0 107 - 20)) 107)) := fun ty => by
  obtain ⟨i0, hi, hz0, hz1, hz2⟩ := info_parts info_fea
  have h := Lib.run_append_grow_zeros w 108 3 ty 107 i0 (.agg #[.string ⟨#[]⟩, .bool false, .int .i64 0, .int .i64 0, .int .i64 0]) .i64 .i64 Tryz.underlying108 Tryz.underlying3 hi hz0 none 0 0 [] (by rw [hz1]; exact run_firstCells_none w.drew 5 0 0 0) 20 (by omega) (by omega) (by omega) (by omega) (by rw [hz2]; omega) (growslice_fits (by omega) (by rw [hz2]; omega))
  exact h
set_option maxRecDepth 100000 in
set_option maxHeartbeats 2000000 in
theorem implGrow (w : World) : Calls Tryz.prog 279 #[.slice none 0 0, .int .i64 20] w fun e w' => ∃ v, e = .returned v ∧ w'.ownsRow w.heap.size 107 5 v 0 [] ∧ Below w.heap.size w w' := by
 have hrz := grow0 w
 have hge := grownCap_ge w 20 0 107
 have hle := grownCap_le_maxLen w 20 0 107 (by unfold maxLen; omega)
 generalize grownCap w 20 0 107 = G at *
 have hle' : G ≤ 9223372036854775807 := by unfold maxLen at hle; omega
 have hcs : (#[] ++ Builtin.zeroCells (Value.cells (.agg #[.string ⟨#[]⟩, .bool false, .int .i64 0, .int .i64 0, .int .i64 0])) 20 ++ Builtin.zeroCells (Value.cells (.agg #[.string ⟨#[]⟩, .bool false, .int .i64 0, .int .i64 0, .int .i64 0])) (G - 20)).size = G * 5 := by
  simp only [Array.size_append, size_zeroCells]
  show 0 + 20 * 5 + (G - 20) * 5 = G * 5
  omega
 have HCS := hideP hcs
 clear hcs
 generalize (#[] ++ Builtin.zeroCells (Value.cells (.agg #[.string ⟨#[]⟩, .bool false, .int .i64 0, .int .i64 0, .int .i64 0])) 20 ++ Builtin.zeroCells (Value.cells (.agg #[.string ⟨#[]⟩, .bool false, .int .i64 0, .int .i64 0, .int .i64 0])) (G - 20)) = cur at *
 go_enter Tryz.func279, Tryz.ntmps279
 go_wp2_with (at_builtin; refine Lib.wpList_append_run _ rfl _ _ _ _ rfl _ _ rfl rfl _ _ (hrz _) ?_)
 go_ret
 exact ⟨_, rfl, World.ownsRow_made w.drew cur G (Nat.le_refl _) hle HCS.out, (Below.refl _ _).drew.alloc (Nat.le_refl _) _⟩
set_option maxRecDepth 100000 in
set_option maxHeartbeats 2000000 in
theorem implConcat (p g1 c1 g2 c2 : Nat) (t : TypeId) (w : World) (hp : Blk w p #[.slice (some ⟨g1, 0, none⟩) 10 c1, .slice (some ⟨g2, 0, none⟩) 10 c2] t) (hg1 : g1 < w.heap.size) (hg2 : g2 < w.heap.size)
    (h1 : ∀ j u, (feaCells.take 50)[j]? = some u → w.cell? ⟨g1, j, none⟩ = some u) (h2 : ∀ j u, (feaCells.drop 50)[j]? = some u → w.cell? ⟨g2, j, none⟩ = some u) :
    Calls Tryz.prog 257 #[.slice (some ⟨p, 0, none⟩) 2 2] w fun e w' => ∃ v, e = .returned v ∧ FeaOwn w w' v ∧ Below w.heap.size w w' := by
  obtain ⟨i0, hi, hz0, hz1, hz2⟩ := info_parts info_fea
  have HP := hideP hp
  have H1 := hideP h1
  have H2 := hideP h2
  have c0 := hp.cell 0 rfl
  have c1' := hp.cell 1 rfl
  clear hp h1 h2
  go_enter Tryz.func257, Tryz.ntmps257
  go_wp2
  go_loopw [3, 11] (fun z i wr => ∃ k : Nat, k ≤ 2 ∧ i = .int .i64 (k : Int) ∧ z = .int .i64 (10 * k : Int) ∧ w = wr) (fun _ i _ => 2 - (intOf i).toNat)
  case atStart => exact ⟨0, Nat.zero_le _, rfl, rfl, rfl⟩
  case round =>
   obtain ⟨k, hk, rfl, rfl, rfl⟩ := hrel
   have h3 : k = 0 ∨ k = 1 ∨ k = 2 := by omega
   rcases h3 with rfl | rfl | rfl
   · go_wp2
     exact ⟨⟨1, by omega, by go_num, by go_num, by first | rfl | trivial⟩, by simp [intOf]⟩
   · go_wp2
     exact ⟨⟨2, by omega, by go_num, by go_num, by first | rfl | trivial⟩, by simp [intOf]⟩
   · clear c0 c1'
     go_wp2_with fail
     refine (implGrow _).mono ?_
     rintro e W1 ⟨v0, rfl, hrow, hb⟩
     have HR := hideP hrow
     have HB := hideP hb
     clear hrow hb
     go_wp2_with fail
     go_loopw [6, 27] (fun o i wq => ∃ k : Nat, k ≤ 2 ∧ i = .int .i64 (k : Int) ∧ wq.ownsRow w.heap.size 107 5 o (10 * k) (feaCells.take (50 * k)) ∧ Below w.heap.size w wq) (fun _ i _ => 2 - (intOf i).toNat)
     case atStart => exact ⟨0, Nat.zero_le _, rfl, HR.out, HB.out⟩
     case round =>
      obtain ⟨k, hk, rfl, hrow, hB⟩ := hrel
      have HR2 := hideP hrow
      have HB2 := hideP hB
      clear hrow hB HR
      have e0 := (HP.out.below HB2.out HP.out.lt).cell 0 rfl
      have e1 := (HP.out.below HB2.out HP.out.lt).cell 1 rfl
      have h3 : k = 0 ∨ k = 1 ∨ k = 2 := by omega
      rcases h3 with rfl | rfl | rfl
      · go_wp2_with (at_builtin; refine wpList_append_own _ rfl _ _ 108 rfl w.heap.size 107 i0 (.agg #[.string ⟨#[]⟩, .bool false, .int .i64 0, .int .i64 0, .int .i64 0]) 5 48 Tryz.underlying108 hi hz0 hz1 hz2 rfl (by decide) _ _ _ rfl HR2.out ⟨g1, 0, none⟩ 10 c1 (feaCells.take 50) rfl rfl (cells_add (fun j u hj => (HB2.out.cell (p := ⟨g1, j, none⟩) hg1).trans (H1.out j u hj))) (fun u hu => fea_one u (List.mem_of_mem_take hu)) (by unfold maxLen; omega) (by omega) HB2.out.size ?_; intro v' w1 hown' hgrow _)
        refine ⟨⟨1, by omega, by go_num, hown', HB2.out.grown hgrow HB2.out.size (own_base5 HR2.out)⟩, by simp [intOf]⟩
      · go_wp2_with (at_builtin; refine wpList_append_own _ rfl _ _ 108 rfl w.heap.size 107 i0 (.agg #[.string ⟨#[]⟩, .bool false, .int .i64 0, .int .i64 0, .int .i64 0]) 5 48 Tryz.underlying108 hi hz0 hz1 hz2 rfl (by decide) _ _ _ rfl HR2.out ⟨g2, 0, none⟩ 10 c2 (feaCells.drop 50) rfl rfl (cells_add (fun j u hj => (HB2.out.cell (p := ⟨g2, j, none⟩) hg2).trans (H2.out j u hj))) (fun u hu => fea_one u (List.mem_of_mem_drop hu)) (by unfold maxLen; omega) (by omega) HB2.out.size ?_; intro v' w1 hown' hgrow _)
        refine ⟨⟨2, by omega, by go_num, hown', HB2.out.grown hgrow HB2.out.size (own_base5 HR2.out)⟩, by simp [intOf]⟩
      · go_wp2
        go_ret
        exact ⟨_, rfl, HR2.out, HB2.out⟩
theorem own_mono5 {w : World} {b b' e size : Nat} {v : Value} {n : Nat} {xs : List Value} (h : w.ownsRow b e size v n xs) (hb : b' ≤ b) : w.ownsRow b' e size v n xs := by
 obtain ⟨h1, h | ⟨g, cap, cur, hv, hg, hr⟩⟩ := h
 · exact ⟨h1, .inl h⟩
 · exact ⟨h1, .inr ⟨g, cap, cur, hv, Nat.le_trans hb hg, hr⟩⟩
theorem implWith (g1 c1 g2 c2 : Nat) (w : World) (hg1 : g1 < w.heap.size) (hg2 : g2 < w.heap.size)
    (h1 : ∀ j u, (feaCells.take 50)[j]? = some u → w.cell? ⟨g1, j, none⟩ = some u) (h2 : ∀ j u, (feaCells.drop 50)[j]? = some u → w.cell? ⟨g2, j, none⟩ = some u) :
    Calls Tryz.prog 219 #[.slice (some ⟨g1, 0, none⟩) 10 c1, .slice (some ⟨g2, 0, none⟩) 10 c2] w fun e w' => ∃ v, e = .returned v ∧ FeaOwn w w' v ∧ Below w.heap.size w w' := by
  have K := fun t => implConcat w.heap.size g1 c1 g2 c2 t (w.alloc (.cells #[.slice (some ⟨g1, 0, none⟩) 10 c1, .slice (some ⟨g2, 0, none⟩) 10 c2] t)) (Blk.new w _ _) (by rw [sz_new]; omega) (by rw [sz_new]; omega)
    (fun j u hj => (((Below.refl w.heap.size w).alloc (Nat.le_refl _) _).cell (p := ⟨g1, j, none⟩) hg1).trans (h1 j u hj)) (fun j u hj => (((Below.refl w.heap.size w).alloc (Nat.le_refl _) _).cell (p := ⟨g2, j, none⟩) hg2).trans (h2 j u hj))
  clear h1 h2
  go_enter Tryz.func219, Tryz.ntmps219
  go_wp2_with fail
  refine (K _).mono ?_
  rintro e w1 ⟨v, rfl, hr, hb⟩
  go_wp2
  go_ret
  exact ⟨v, rfl, own_mono5 hr (by rw [sz_new]; omega), below_alloc hb⟩
theorem list_at (cs : List Value) (W : World) (t : TypeId) {k j : Nat} {f : Fea} (h : cs[k * 5 + j]? = f.cs[j]?) : (W.alloc (.cells cs.toArray t)).cell? ⟨W.heap.size, k * 5 + j, none⟩ = f.cs[j]? := by
 rw [← h]
 simp [World.alloc, World.cell?, -World.alloc_eq]
set_option maxRecDepth 100000 in
set_option maxHeartbeats 4000000 in
theorem implFeasts (w : World) : Calls Tryz.prog 171 #[] w fun e w' => ∃ v, e = .returned v ∧ FeaOwn w w' v ∧ Below w.heap.size w w' := by
 go_enter Tryz.func171, Tryz.ntmps171
 go_wp2_with fail
 refine latO (implOnEaster _ _ _) fun x1 => ?_
 go_wp2_with fail
 refine lat (implOnEaster _ _ _) fun x2 => ?_
 go_wp2_with fail
 refine lat (implOnEaster _ _ _) fun x3 => ?_
 go_wp2_with fail
 refine lat (implOnEaster _ _ _) fun x4 => ?_
 go_wp2_with fail
 refine lat (implOnEaster _ _ _) fun x5 => ?_
 go_wp2_with fail
 refine lat (implOnEaster _ _ _) fun x6 => ?_
 go_wp2_with fail
 refine lat (implOnEaster _ _ _) fun x7 => ?_
 go_wp2_with fail
 refine lat (implOnEaster _ _ _) fun x8 => ?_
 go_wp2_with fail
 refine lat (implOnEaster _ _ _) fun x9 => ?_
 go_wp2_with fail
 refine lat (implOnEaster _ _ _) fun x10 => ?_
 go_wp2_with fail
 refine (implMoving x10.w.heap.size 10 _ (by rw [sz_new]; omega) (fun k hk j hj => list_at (feaCells.take 50) x10.w _ (by rw [List.getElem?_take, if_pos (by omega)]; exact feaCell (by omega) hj))).mono ?_
 rintro e w11 ⟨v1, rfl, hr, hb⟩
 obtain ⟨g1, c1, rfl, hg1, hl1, hc1⟩ := cells_row hr (by omega)
 have hg1' : w.heap.size ≤ g1 := by rw [sz_new] at hg1; have := x10.below.size; omega
 obtain ⟨x11, rfl⟩ : ∃ x : Later w, w11 = x.w := ⟨⟨w11, (x10.below.alloc x10.below.size _).trans (hb.mono (by rw [sz_new]; have := x10.below.size; omega))⟩, rfl⟩
 have HC := hideP hc1
 clear hr hb hc1
 go_wp2_with fail
 refine latO (implOnDate _ _ _ _) fun y1 => ?_
 go_wp2_with fail
 refine lat (implOnDate _ _ _ _) fun y2 => ?_
 go_wp2_with fail
 refine lat (implOnDate _ _ _ _) fun y3 => ?_
 go_wp2_with fail
 refine lat (implOnDate _ _ _ _) fun y4 => ?_
 go_wp2_with fail
 refine lat (implOnDate _ _ _ _) fun y5 => ?_
 go_wp2_with fail
 refine lat (implOnDate _ _ _ _) fun y6 => ?_
 go_wp2_with fail
 refine lat (implOnDate _ _ _ _) fun y7 => ?_
 go_wp2_with fail
 refine lat (implOnDate _ _ _ _) fun y8 => ?_
 go_wp2_with fail
 refine lat (implOnDate _ _ _ _) fun y9 => ?_
 go_wp2_with fail
 refine lat (implOnDate _ _ _ _) fun y10 => ?_
 have HA : Hid (∀ t, Below x11.w.heap.size x11.w (y10.w.alloc (.cells (feaCells.drop 50).toArray t))) := fun t => y10.below.alloc y10.below.size _
 have hls : g1 < y10.w.heap.size + 1 := by have := y10.below.size; omega
 go_wp2_with fail
 refine (implWith g1 c1 y10.w.heap.size 10 _ (by rw [sz_new]; exact hls) (by rw [sz_new]; omega) (fun j u hj => ((HA.out _).cell (p := ⟨g1, j, none⟩) hl1).trans (HC.out j u hj)) (fun j u hj => ?_)).mono ?_
 · have h := cells_new5 y10.w (feaCells.drop 50) 107 rfl j u hj
   have ha : (⟨y10.w.heap.size, 0, none⟩ : Addr).add j = ⟨y10.w.heap.size, j, none⟩ := by unfold Addr.add; split <;> simp_all
   rw [ha] at h
   exact h
 rintro e w12 ⟨v, rfl, hr, hb⟩
 have hB0 : Below w.heap.size w (y10.w.alloc (.cells (feaCells.drop 50).toArray 107)) := x11.below.trans ((HA.out _).mono x11.below.size)
 have hB : Below w.heap.size w w12 := hB0.trans (hb.mono hB0.size)
 have hr' := own_mono5 hr hB0.size
 have HR := hideP hr'
 have HB := hideP hB
 clear hr hb hr' hB hB0
 go_wp2
 go_ret
 exact ⟨v, rfl, HR.out, HB.out⟩
end Go.Proofs.YtdmlhiailjnhcaaGreatDoor.ctr
