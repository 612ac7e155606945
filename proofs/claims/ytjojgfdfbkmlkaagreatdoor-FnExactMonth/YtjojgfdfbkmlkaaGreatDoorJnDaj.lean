/- Contract of the model's l05Is and of its MonthName, and plain laws of the texts. The twenty feasts as a plain list; their cells in a row; which one has a name. Contracts of the days ahead of a month: the model's l02Before, DayInYear; the program's daysUpTo, DayInYear: each answers its plain function. Contracts of a year's first day and of a date's day: the model's l02First, l02Day, DayOf; the program's yearEve, lineDay, DayOf. Contracts of the golden number: the model's and the program's Golden answer the plain function at every int. -/
import Derived.Test.YtjojgfdfbkmlkaaGreatDoorJnDag
import Derived.Test.YtjojgfdfbkmlkaaGreatDoorRomTextD
import Derived.Test.YtjojgfdfbkmlkaaGreatDoorJnDaa
import Derived.Handy
import Derived.Laws.AppendOwn
import Derived.Laws.OwnMore
import Derived.OwnWalk
import Derived.RangeFuncBox
import Derived.Maps.AppendAt
import Derived.Test.YtjojgfdfbkmlkaaGreatDoorJnDac
namespace Go.Proofs.YtjojgfdfbkmlkaaGreatDoor.ctr
open Go.RowKit
theorem day_ok (c y : Int) (r : Rom) : dateOk (dayOfRoman c y r).1 (dayOfRoman c y r).2.1 (dayOfRoman c y r).2.2.1 (dayOfRoman c y r).2.2.2 = dayR c y r := by
  cases h : dayR c y r
  · have e : dayOfRoman c y r = (0, 0, 0, 0) := by unfold dayOfRoman; rw [h]; rfl
    rw [e]
    decide
  · have e : dayOfRoman c y r = (c, y, invM r, invD c y r) := by unfold dayOfRoman; rw [if_pos h]
    rw [e]
    exact dateOk_true (dayR_is h).1
theorem dayR_one {r : Rom} (h : dayR 0 1 r = true) : romB r = true := romB_of (dayR_is h)
set_option maxRecDepth 100000 in
set_option maxHeartbeats 2000000 in
theorem specIs (r : Rom) (w : World) : Calls Tryz.prog 208 #[romV r] w fun e w' => e = .returned (.bool (romB r)) ∧ Below w.heap.size w w' := by
  obtain ⟨cn, mk, mo, tw⟩ := r
  obtain ⟨W0, hW0, c0, c1, c2, c3, hBl⟩ := rom_box w cn mk mo tw
  have K1 : ∀ W, Calls Tryz.prog 260 #[.int .i64 0, .int .i64 1, .agg #[.int .i64 cn, .int .i64 mk, .int .i64 mo, .bool tw]] W fun e w' => e = .returned (dayV (dayOfRoman 0 1 ⟨cn, mk, mo, tw⟩)) ∧ Below W.heap.size W w' := specDayOfRoman 0 1 ⟨cn, mk, mo, tw⟩
  have K4 : ∀ W, Calls Tryz.prog 260 #[.int .i64 0, .int .i64 4, .agg #[.int .i64 cn, .int .i64 mk, .int .i64 mo, .bool tw]] W fun e w' => e = .returned (dayV (dayOfRoman 0 4 ⟨cn, mk, mo, tw⟩)) ∧ Below W.heap.size W w' := specDayOfRoman 0 4 ⟨cn, mk, mo, tw⟩
  have o1 := day_ok 0 1 ⟨cn, mk, mo, tw⟩
  have o4 := day_ok 0 4 ⟨cn, mk, mo, tw⟩
  have h14 := dayR_one (r := ⟨cn, mk, mo, tw⟩)
  obtain ⟨B, hB⟩ : ∃ B, B = romB ⟨cn, mk, mo, tw⟩ := ⟨_, rfl⟩
  rw [show dayR 0 4 ⟨cn, mk, mo, tw⟩ = B from hB.symm] at o4
  rw [← hB] at h14 ⊢
  have HW0 := hideP hW0
  have HBl := hideP hBl
  clear hB hW0 hBl
  generalize dayR 0 1 ⟨cn, mk, mo, tw⟩ = b1 at *
  generalize dayOfRoman 0 1 ⟨cn, mk, mo, tw⟩ = q1 at *
  generalize dayOfRoman 0 4 ⟨cn, mk, mo, tw⟩ = q4 at *
  obtain ⟨p0, p1, p2, p3⟩ := q1
  obtain ⟨s0, s1, s2, s3⟩ := q4
  have D1 : ∀ W, Calls Tryz.prog 60 #[.agg #[.int .i64 p0, .int .i64 p1, .int .i64 p2, .int .i64 p3]] W fun e w' => e = .returned (.bool b1) ∧ Below W.heap.size W w' := fun W => by rw [← o1]; exact specDateOk p0 p1 p2 p3 W
  have D4 : ∀ W, Calls Tryz.prog 60 #[.agg #[.int .i64 s0, .int .i64 s1, .int .i64 s2, .int .i64 s3]] W fun e w' => e = .returned (.bool B) ∧ Below W.heap.size W w' := fun W => by rw [← o4]; exact specDateOk s0 s1 s2 s3 W
  clear o1 o4
  go_enter Tryz.func208, Tryz.ntmps208
  go_wp2_with fail
  rw [← HW0.out]
  refine (K1 _).mono ?_
  rintro e w1 ⟨rfl, hb⟩
  obtain ⟨x1, rfl⟩ := Later.of hb
  clear hb
  go_wp2_with fail
  refine (D1 _).mono ?_
  rintro e w2 ⟨rfl, hb⟩
  obtain ⟨x2, rfl⟩ := x1.next hb
  clear hb
  cases b1
  · go_wp2_with fail
    refine (K4 _).mono ?_
    rintro e w3 ⟨rfl, hb⟩
    obtain ⟨x3, rfl⟩ := x2.next hb
    clear hb
    go_wp2_with fail
    refine (D4 _).mono ?_
    rintro e w4 ⟨rfl, hb⟩
    obtain ⟨x4, rfl⟩ := x3.next hb
    clear hb
    go_wp2
    go_ret
    exact ⟨rfl, HBl.out x4⟩
  · have HT := hideP (h14 rfl)
    clear h14
    go_wp2
    go_ret
    exact ⟨ret_bool HT.out.symm, HBl.out x2⟩
end Go.Proofs.YtjojgfdfbkmlkaaGreatDoor.ctr
namespace Go.Proofs.YtjojgfdfbkmlkaaGreatDoor.ctr
open Go.RowKit
structure Fea where
  name : ByteArray
  mv : Bool
  off : Int
  m : Int
  d : Int
def Fea.cs (f : Fea) : List Value := [.string f.name, .bool f.mv, .int .i64 f.off, .int .i64 f.m, .int .i64 f.d]
def fea0 : Fea := ⟨⟨#[]⟩, false, 0, 0, 0⟩
def feasts : List Fea := [
  ⟨⟨#[115, 101, 112, 116, 117, 97, 103, 101, 115, 105, 109, 97]⟩, true, -63, 0, 0⟩,
  ⟨⟨#[97, 115, 104]⟩, true, -46, 0, 0⟩,
  ⟨⟨#[112, 97, 108, 109]⟩, true, -7, 0, 0⟩,
  ⟨⟨#[101, 97, 115, 116, 101, 114]⟩, true, 0, 0, 0⟩,
  ⟨⟨#[113, 117, 97, 115, 105, 109, 111, 100, 111]⟩, true, 7, 0, 0⟩,
  ⟨⟨#[114, 111, 103, 97, 116, 105, 111, 110]⟩, true, 35, 0, 0⟩,
  ⟨⟨#[97, 115, 99, 101, 110, 115, 105, 111, 110]⟩, true, 39, 0, 0⟩,
  ⟨⟨#[112, 101, 110, 116, 101, 99, 111, 115, 116]⟩, true, 49, 0, 0⟩,
  ⟨⟨#[116, 114, 105, 110, 105, 116, 121]⟩, true, 56, 0, 0⟩,
  ⟨⟨#[99, 111, 114, 112, 117, 115]⟩, true, 60, 0, 0⟩,
  ⟨⟨#[101, 112, 105, 112, 104, 97, 110, 121]⟩, false, 0, 1, 6⟩,
  ⟨⟨#[99, 97, 110, 100, 108, 101, 109, 97, 115]⟩, false, 0, 2, 2⟩,
  ⟨⟨#[97, 110, 110, 117, 110, 99, 105, 97, 116, 105, 111, 110]⟩, false, 0, 3, 25⟩,
  ⟨⟨#[103, 101, 111, 114, 103, 101]⟩, false, 0, 4, 23⟩,
  ⟨⟨#[106, 111, 104, 110]⟩, false, 0, 6, 24⟩,
  ⟨⟨#[97, 115, 115, 117, 109, 112, 116, 105, 111, 110]⟩, false, 0, 8, 15⟩,
  ⟨⟨#[109, 105, 99, 104, 97, 101, 108]⟩, false, 0, 9, 29⟩,
  ⟨⟨#[115, 97, 105, 110, 116, 115]⟩, false, 0, 11, 1⟩,
  ⟨⟨#[109, 97, 114, 116, 105, 110]⟩, false, 0, 11, 11⟩,
  ⟨⟨#[99, 104, 114, 105, 115, 116, 109, 97, 115]⟩, false, 0, 12, 25⟩]
def feaAt (k : Nat) : Fea := feasts.getD k fea0
def feaCells : List Value := feasts.flatMap Fea.cs
theorem feaAt_size0 : ∀ i : Fin 20, (feaAt i.val).name.size ≤ 16 := by decide
theorem feasts_len : feasts.length = 20 := rfl
theorem feaCells_len : feaCells.length = 100 := rfl
theorem flat5 {j : Nat} (hj : j < 5) : ∀ (l : List Fea) (k : Nat), k < l.length → (l.flatMap Fea.cs)[k * 5 + j]? = (l.getD k fea0).cs[j]?
  | [], k, h => by simp at h
  | f :: l, 0, _ => by
    rw [List.flatMap_cons, List.getElem?_append_left (by simp [Fea.cs]; omega)]
    simp
  | f :: l, k + 1, h => by
    have ih := flat5 hj l k (by simpa using h)
    rw [List.flatMap_cons, List.getElem?_append_right (by simp [Fea.cs]; omega), show (k + 1) * 5 + j - f.cs.length = k * 5 + j from by simp [Fea.cs]; omega, ih]
    simp
theorem feaCell {k j : Nat} (hk : k < 20) (hj : j < 5) : feaCells[k * 5 + j]? = (feaAt k).cs[j]? := flat5 hj feasts k hk
def findFrom (s : ByteArray) : List Fea → Nat → Int
  | [], _ => -1
  | f :: l, k => if f.name = s then (k : Int) else findFrom s l (k + 1)
def findFeast (s : ByteArray) : Int := findFrom s feasts 0
theorem drop_at (k : Nat) (h : k < 20) : feasts.drop k = feaAt k :: feasts.drop (k + 1) := by
  rw [List.drop_eq_getElem_cons (show k < feasts.length from h)]
  unfold feaAt
  rw [List.getD, List.getElem?_eq_getElem (show k < feasts.length from h)]
  rfl
theorem find_hit {s : ByteArray} {k : Nat} (h : k < 20) (hn : (feaAt k).name = s) (hf : findFrom s (feasts.drop k) k = findFeast s) : findFeast s = k := by
  rw [← hf, drop_at k h, findFrom, if_pos hn]
theorem find_miss {s : ByteArray} {k : Nat} (h : k < 20) (hn : (feaAt k).name ≠ s) (hf : findFrom s (feasts.drop k) k = findFeast s) : findFrom s (feasts.drop (k + 1)) (k + 1) = findFeast s := by
  rw [← hf, drop_at k h, findFrom, if_neg hn]
theorem find_end {s : ByteArray} {k : Nat} (h : 20 ≤ k) (hf : findFrom s (feasts.drop k) k = findFeast s) : findFeast s = -1 := by
  rw [← hf, List.drop_eq_nil_of_le (by rw [feasts_len]; exact h), findFrom]
theorem findFrom_b (s : ByteArray) : ∀ (l : List Fea) (k : Nat), findFrom s l k = -1 ∨ ((k : Int) ≤ findFrom s l k ∧ findFrom s l k < ((k + l.length : Nat) : Int))
  | [], _ => .inl rfl
  | f :: l, k => by
    rw [findFrom]
    split
    · right; simp; omega
    · rcases findFrom_b s l (k + 1) with h | ⟨h1, h2⟩
      · exact .inl h
      · right
        simp at h1 h2 ⊢
        omega
theorem find_b (s : ByteArray) : -1 ≤ findFeast s ∧ findFeast s < 20 := by
  rcases findFrom_b s feasts 0 with h | ⟨h1, h2⟩
  · unfold findFeast; omega
  · have h2' : findFrom s feasts 0 < 20 := h2
    unfold findFeast
    omega
def FeaRow (W : World) (v : Value) : Prop := ∃ g cap, v = .slice (some ⟨g, 0, none⟩) 20 cap ∧ g < W.heap.size ∧ ∀ k, k < 20 → ∀ j, j < 5 → W.cell? ⟨g, k * 5 + j, none⟩ = (feaAt k).cs[j]?
theorem FeaRow.below {W W' : World} {v : Value} (h : FeaRow W v) (hb : Below W.heap.size W W') : FeaRow W' v := by
  obtain ⟨g, cap, rfl, hg, hc⟩ := h
  exact ⟨g, cap, rfl, Nat.lt_of_lt_of_le hg hb.size, fun k hk j hj => (hb.cell (p := ⟨g, k * 5 + j, none⟩) hg).trans (hc k hk j hj)⟩
def FeaOwn (w W : World) (v : Value) : Prop := W.ownsRow w.heap.size 192 5 v 20 feaCells
theorem FeaOwn.row {w W : World} {v : Value} (h : FeaOwn w W v) : FeaRow W v := by
  rcases h.2 with ⟨_, h0⟩ | ⟨g, cap, cur, hv, hb, hh, hcap, _, hsz, htake⟩
  · simp at h0
  · subst hv
    refine ⟨g, cap, rfl, (Array.getElem?_eq_some_iff.1 hh).1, fun k hk j hj => ?_⟩
    rw [← feaCell hk hj, ← htake, List.getElem?_take, if_pos (by omega)]
    simp [World.cell?, hh]
end Go.Proofs.YtjojgfdfbkmlkaaGreatDoor.ctr
namespace Go.Proofs.YtjojgfdfbkmlkaaGreatDoor.ctr
open Go.RowKit
theorem before_next (c y : Int) (k : Nat) : before c y (k + 1) = before c y k + monthDays c y ((k : Int) + 1) := by
  simp [before]
set_option maxHeartbeats 400000 in
theorem specBefore (c y m : Int) (w : World) (hm : m ≤ 13) : Calls Tryz.prog 175 #[.int .i64 c, .int .i64 y, .int .i64 m] w fun e w' => e = .returned (.int .i64 (before c y (m - 1).toNat)) ∧ Below w.heap.size w w' := by
  obtain ⟨R, hR⟩ : ∃ R, R = before c y (m - 1).toNat := ⟨_, rfl⟩
  rw [← hR]
  have HR := hideP hR
  clear hR
  go_enter Tryz.func175, Tryz.ntmps175
  go_wp2
  go_loopw [7, 8] (fun n i wr => ∃ k : Nat, (k = 0 ∨ (k : Int) + 1 ≤ m) ∧ i = .int .i64 ((k : Int) + 1) ∧ n = .int .i64 (before c y k) ∧ Below w.heap.size w wr) (fun _ i _ => 14 - (intOf i).toNat)
  case atStart => exact ⟨0, by omega, rfl, rfl, Below.refl _ _⟩
  case round =>
    obtain ⟨k, hk, rfl, rfl, hb⟩ := hrel
    have h1 := before_bound c y k
    have h2 := monthDays_le c y ((k : Int) + 1)
    have HN := hideP (before_next c y k)
    have KM : ∀ W, Calls Tryz.prog 115 #[.int .i64 c, .int .i64 y, .int .i64 ((k : Int) + 1)] W fun e w' => e = .returned (.int .i64 (monthDays c y ((k : Int) + 1))) ∧ Below W.heap.size W w' := specMonthDays c y _
    generalize monthDays c y ((k : Int) + 1) = md at *
    by_cases hlt : (k : Int) + 1 < m
    · go_wp2_with (go_at_call 115; refine (KM _).mono ?_; rintro e w' ⟨rfl, hb'⟩)
      exact ⟨⟨k + 1, by omega, by go_num, by first | (rw [HN.out]; done) | (rw [HN.out]; go_num), hb.trans (hb'.mono hb.size)⟩, by simp [intOf]; omega⟩
    · have HK : Hid ((m - 1).toNat = k) := by unfold Hid; omega
      go_wp2_with fail
      go_ret
      exact ⟨ret_int (by rw [HR.out, HK.out]), hb⟩
set_option maxHeartbeats 400000 in
theorem implUpTo (c y m d : Int) (w : World) (hT : Tab w) (hm1 : 1 ≤ m) (hm2 : m ≤ 13) (hd1 : -100 ≤ d) (hd2 : d ≤ 1000) : Calls Tryz.prog 242 #[.agg #[.int .i64 c, .int .i64 y, .int .i64 m, .int .i64 d]] w fun e w' => e = .returned (.int .i64 (before c y (m - 1).toNat + d)) ∧ Below w.heap.size w w' := by
  obtain ⟨W0, hW0⟩ : ∃ W0, W0 = w.alloc (.cells #[.int .i64 c, .int .i64 y, .int .i64 m, .int .i64 d] 88) := ⟨_, rfl⟩
  have c0 : ∀ x : Later W0, x.w.cell? ⟨w.heap.size, 0, none⟩ = some (.int .i64 c) := Later.new hW0 0 rfl
  have c1 : ∀ x : Later W0, x.w.cell? ⟨w.heap.size, 1, none⟩ = some (.int .i64 y) := Later.new hW0 1 rfl
  have c2 : ∀ x : Later W0, x.w.cell? ⟨w.heap.size, 2, none⟩ = some (.int .i64 m) := Later.new hW0 2 rfl
  have c3 : ∀ x : Later W0, x.w.cell? ⟨w.heap.size, 3, none⟩ = some (.int .i64 d) := Later.new hW0 3 rfl
  have HW0 : Hid (W0 = _) := hW0
  have HT : Hid (∀ x : Later W0, Tab x.w) := fun x => hT.later (below_of_alloc HW0.out x.below)
  clear hW0 hT
  obtain ⟨R, hR⟩ : ∃ R, R = before c y (m - 1).toNat + d := ⟨_, rfl⟩
  rw [← hR]
  have HD := hideP hR
  clear hR
  obtain ⟨x0, e0⟩ : ∃ x : Later W0, W0 = x.w := ⟨⟨W0, Below.refl _ _⟩, rfl⟩
  have E0 := hideP e0
  clear e0
  go_enter Tryz.func242, Tryz.ntmps242
  go_wp2_with fail
  go_loopw [3, 4] (fun n i wr => ∃ (k : Nat) (x : Later W0), (k : Int) + 1 ≤ m ∧ i = .int .i64 ((k : Int) + 1) ∧ n = .int .i64 (before c y k + d) ∧ wr = x.w) (fun _ i _ => 14 - (intOf i).toNat)
  case atStart => exact ⟨0, x0, by omega, rfl, by simp [before], by rw [← HW0.out]; exact E0.out⟩
  case round =>
    obtain ⟨k, x, hk, rfl, rfl, rfl⟩ := hrel
    have h1 := before_bound c y k
    have h2 := monthDays_le c y ((k : Int) + 1)
    have HN := hideP (before_next c y k)
    have KM : Calls Tryz.prog 191 #[.int .i64 c, .int .i64 y, .int .i64 ((k : Int) + 1)] x.w fun e w' => e = .returned (.int .i64 (monthDays c y ((k : Int) + 1))) ∧ Below x.w.heap.size x.w w' := implMonthDays c y _ _ (HT.out x)
    generalize monthDays c y ((k : Int) + 1) = md at *
    by_cases hlt : (k : Int) + 1 < m
    · go_wp2_with (go_at_call 191; refine KM.mono ?_; rintro e w' ⟨rfl, hb'⟩; obtain ⟨x', rfl⟩ := x.next hb')
      exact ⟨⟨k + 1, x', by omega, by go_num, by first | (rw [HN.out]; done) | (rw [HN.out]; go_num), rfl⟩, by simp [intOf]; omega⟩
    · have HK : Hid ((m - 1).toNat = k) := by unfold Hid; omega
      go_wp2_with fail
      go_ret
      exact ⟨ret_int (by rw [HD.out, HK.out]), below_of_alloc HW0.out x.below⟩
end Go.Proofs.YtjojgfdfbkmlkaaGreatDoor.ctr
namespace Go.Proofs.YtjojgfdfbkmlkaaGreatDoor.ctr
open Go.RowKit
set_option maxHeartbeats 400000 in
theorem specFirst (c y : Int) (w : World) (hc : c = 0 ∨ c = 1) (hy1 : -5 ≤ y) (hy2 : y ≤ 4000) : Calls Tryz.prog 174 #[.int .i64 c, .int .i64 y] w fun e w' => e = .returned (.int .i64 (first c y)) ∧ w' = w := by
  have K4 : ∀ W, Calls Tryz.prog 233 #[.int .i64 (y - 1), .int .i64 4] W fun e w' => e = .returned (.int .i64 ((y - 1) / 4)) ∧ w' = W := fun W => by rw [← floorDiv_small (by omega) (by omega) (by omega)]; exact specFloorDiv _ _ W
  have K100 : ∀ W, Calls Tryz.prog 233 #[.int .i64 (y - 1), .int .i64 100] W fun e w' => e = .returned (.int .i64 ((y - 1) / 100)) ∧ w' = W := fun W => by rw [← floorDiv_small (by omega) (by omega) (by omega)]; exact specFloorDiv _ _ W
  have K400 : ∀ W, Calls Tryz.prog 233 #[.int .i64 (y - 1), .int .i64 400] W fun e w' => e = .returned (.int .i64 ((y - 1) / 400)) ∧ w' = W := fun W => by rw [← floorDiv_small (by omega) (by omega) (by omega)]; exact specFloorDiv _ _ W
  have b4 : -2 ≤ (y - 1) / 4 ∧ (y - 1) / 4 ≤ 1000 := by omega
  have b100 : -2 ≤ (y - 1) / 100 ∧ (y - 1) / 100 ≤ 1000 := by omega
  have b400 : -2 ≤ (y - 1) / 400 ∧ (y - 1) / 400 ≤ 1000 := by omega
  obtain ⟨R, hR⟩ : ∃ R, R = first c y := ⟨_, rfl⟩
  rw [← hR]
  rcases hc with rfl | rfl
  · rw [first_jul] at hR
    have HR := hideP hR
    clear hR K100 K400 b100 b400
    generalize (y - 1) / 4 = q4 at *
    go_enter Tryz.func174, Tryz.ntmps174
    go_wp2_with (go_at_call 233; refine (K4 _).mono ?_; rintro e w1 ⟨rfl, rfl⟩)
    go_ret
    exact ⟨ret_int (by rw [HR.out]), rfl⟩
  · rw [first_gre] at hR
    have HR := hideP hR
    clear hR
    generalize (y - 1) / 4 = q4 at *
    generalize (y - 1) / 100 = q100 at *
    generalize (y - 1) / 400 = q400 at *
    go_enter Tryz.func174, Tryz.ntmps174
    go_wp2_with (first | (go_at_call_of 233 (4 : Int); refine (K4 _).mono ?_; rintro e w1 ⟨rfl, rfl⟩) | (go_at_call_of 233 (100 : Int); refine (K100 _).mono ?_; rintro e w1 ⟨rfl, rfl⟩) | (go_at_call_of 233 (400 : Int); refine (K400 _).mono ?_; rintro e w1 ⟨rfl, rfl⟩))
    go_ret
    exact ⟨ret_int (by rw [HR.out]), rfl⟩
set_option maxHeartbeats 400000 in
theorem specDay (c y m d : Int) (w : World) (hc : c = 0 ∨ c = 1) (hy1 : -5 ≤ y) (hy2 : y ≤ 4000) (hm : m ≤ 13) (hd1 : -100 ≤ d) (hd2 : d ≤ 1000) : Calls Tryz.prog 109 #[.int .i64 c, .int .i64 y, .int .i64 m, .int .i64 d] w fun e w' => e = .returned (.int .i64 (first c y + before c y (m - 1).toNat + d - 1)) ∧ Below w.heap.size w w' := by
  have KF : ∀ W, Calls Tryz.prog 174 #[.int .i64 c, .int .i64 y] W fun e w' => e = .returned (.int .i64 (first c y)) ∧ w' = W := fun W => specFirst c y W hc hy1 hy2
  have KB : ∀ W, Calls Tryz.prog 175 #[.int .i64 c, .int .i64 y, .int .i64 m] W fun e w' => e = .returned (.int .i64 (before c y (m - 1).toNat)) ∧ Below W.heap.size W w' := fun W => specBefore c y m W hm
  have b1 := first_bound hc hy1 hy2
  have b2 := before_bound c y (m - 1).toNat
  have b3 : before c y (m - 1).toNat ≤ 372 := by omega
  have b4 := b2.1
  clear b2
  generalize first c y = F at *
  generalize before c y (m - 1).toNat = B at *
  go_enter Tryz.func109, Tryz.ntmps109
  go_wp2_with (first | (go_at_call 174; refine (KF _).mono ?_; rintro e w1 ⟨rfl, rfl⟩) | (go_at_call 175; refine (KB _).mono ?_; rintro e w1 ⟨rfl, hb⟩))
  go_ret
  exact ⟨rfl, hb⟩
set_option maxHeartbeats 400000 in
theorem implEve (c y : Int) (w : World) (hc : c = 0 ∨ c = 1) (hy1 : -5 ≤ y) (hy2 : y ≤ 4000) : Calls Tryz.prog 189 #[.iface (calT c) (.agg #[]), .int .i64 y] w fun e w' => e = .returned (.int .i64 (first c y - 1)) ∧ w' = w := by
  have K4 : ∀ W, Calls Tryz.prog 243 #[.int .i64 (y - 1), .int .i64 4] W fun e w' => e = .returned (.int .i64 ((y - 1) / 4)) ∧ w' = W := fun W => by rw [← floorDiv_small (by omega) (by omega) (by omega)]; exact implFloorDiv _ _ W
  have K100 : ∀ W, Calls Tryz.prog 243 #[.int .i64 (y - 1), .int .i64 100] W fun e w' => e = .returned (.int .i64 ((y - 1) / 100)) ∧ w' = W := fun W => by rw [← floorDiv_small (by omega) (by omega) (by omega)]; exact implFloorDiv _ _ W
  have K400 : ∀ W, Calls Tryz.prog 243 #[.int .i64 (y - 1), .int .i64 400] W fun e w' => e = .returned (.int .i64 ((y - 1) / 400)) ∧ w' = W := fun W => by rw [← floorDiv_small (by omega) (by omega) (by omega)]; exact implFloorDiv _ _ W
  have b4 : -2 ≤ (y - 1) / 4 ∧ (y - 1) / 4 ≤ 1000 := by omega
  have b100 : -2 ≤ (y - 1) / 100 ∧ (y - 1) / 100 ≤ 1000 := by omega
  have b400 : -2 ≤ (y - 1) / 400 ∧ (y - 1) / 400 ≤ 1000 := by omega
  obtain ⟨R, hR⟩ : ∃ R, R = first c y - 1 := ⟨_, rfl⟩
  rw [← hR]
  rcases hc with rfl | rfl
  · rw [first_jul] at hR
    have HR := hideP hR
    clear hR K100 K400 b100 b400
    generalize (y - 1) / 4 = q4 at *
    have q1 := isJulJul
    rw [show calT 0 = 224 from rfl]
    go_enter Tryz.func189, Tryz.ntmps189
    go_wp2_with (go_at_call 243; refine (K4 _).mono ?_; rintro e w1 ⟨rfl, rfl⟩)
    go_ret
    exact ⟨ret_int (by rw [HR.out]; omega), rfl⟩
  · rw [first_gre] at hR
    have HR := hideP hR
    clear hR
    generalize (y - 1) / 4 = q4 at *
    generalize (y - 1) / 100 = q100 at *
    generalize (y - 1) / 400 = q400 at *
    have q1 := isJulGre
    have q2 := isGreGre
    rw [show calT 1 = 225 from rfl]
    go_enter Tryz.func189, Tryz.ntmps189
    go_wp2_with (first | (go_at_call_of 243 (4 : Int); refine (K4 _).mono ?_; rintro e w1 ⟨rfl, rfl⟩) | (go_at_call_of 243 (100 : Int); refine (K100 _).mono ?_; rintro e w1 ⟨rfl, rfl⟩) | (go_at_call_of 243 (400 : Int); refine (K400 _).mono ?_; rintro e w1 ⟨rfl, rfl⟩))
    go_ret
    exact ⟨ret_int (by rw [HR.out]; omega), rfl⟩
set_option maxHeartbeats 400000 in
theorem implLine (c y m d : Int) (w : World) (hT : Tab w) (hc : c = 0 ∨ c = 1) (hy1 : -5 ≤ y) (hy2 : y ≤ 4000) (hm1 : 1 ≤ m) (hm2 : m ≤ 13) (hd1 : -100 ≤ d) (hd2 : d ≤ 1000) : Calls Tryz.prog 186 #[.agg #[.int .i64 c, .int .i64 y, .int .i64 m, .int .i64 d]] w fun e w' => e = .returned (.int .i64 (first c y + before c y (m - 1).toNat + d - 1)) ∧ Below w.heap.size w w' := by
  obtain ⟨W0, hW0⟩ : ∃ W0, W0 = w.alloc (.cells #[.int .i64 c, .int .i64 y, .int .i64 m, .int .i64 d] 88) := ⟨_, rfl⟩
  have c0 : ∀ x : Later W0, x.w.cell? ⟨w.heap.size, 0, none⟩ = some (.int .i64 c) := Later.new hW0 0 rfl
  have c1 : ∀ x : Later W0, x.w.cell? ⟨w.heap.size, 1, none⟩ = some (.int .i64 y) := Later.new hW0 1 rfl
  have c2 : ∀ x : Later W0, x.w.cell? ⟨w.heap.size, 2, none⟩ = some (.int .i64 m) := Later.new hW0 2 rfl
  have c3 : ∀ x : Later W0, x.w.cell? ⟨w.heap.size, 3, none⟩ = some (.int .i64 d) := Later.new hW0 3 rfl
  have HW0 : Hid (W0 = _) := hW0
  have HT : Hid (∀ x : Later W0, Tab x.w) := fun x => hT.later (below_of_alloc HW0.out x.below)
  clear hW0 hT
  have KC := fun W => implCal c hc W
  have KE : ∀ W, Calls Tryz.prog 189 #[.iface (calT c) (.agg #[]), .int .i64 y] W fun e w' => e = .returned (.int .i64 (first c y - 1)) ∧ w' = W := fun W => implEve c y W hc hy1 hy2
  have KY : ∀ x : Later W0, Calls Tryz.prog 242 #[.agg #[.int .i64 c, .int .i64 y, .int .i64 m, .int .i64 d]] x.w fun e w' => e = .returned (.int .i64 (before c y (m - 1).toNat + d)) ∧ Below x.w.heap.size x.w w' := fun x => implUpTo c y m d x.w (HT.out x) hm1 hm2 hd1 hd2
  have b1 := first_bound hc hy1 hy2
  have b2 := before_bound c y (m - 1).toNat
  have b3 : -100 ≤ before c y (m - 1).toNat + d ∧ before c y (m - 1).toNat + d ≤ 2000 := by omega
  obtain ⟨R, hR⟩ : ∃ R, R = first c y + before c y (m - 1).toNat + d - 1 := ⟨_, rfl⟩
  rw [← hR]
  have hR' : R = first c y - 1 + (before c y (m - 1).toNat + d) := by omega
  have HR := hideP hR'
  clear hR hR' b2 hc
  generalize before c y (m - 1).toNat + d = Y at *
  generalize first c y = F at *
  generalize calT c = T at *
  go_enter Tryz.func186, Tryz.ntmps186
  go_wp2_with fail
  rw [← HW0.out]
  refine wp_region_later (W := W0) (Below.refl _ _) (by kernel_rfl) (by kernel_rfl) ?_
  repeat (go_big_quiet_step (first | (go_at_call 144; exact calls_same (KC _)) | (go_at_call 189; exact calls_same (KE _)) | (go_at_call 242; exact calls_later (KY _))))
  refine wpQuiet_nil ?_
  intro _ hw'
  obtain ⟨x, rfl⟩ := hw'
  go_wp2
  go_ret
  exact ⟨ret_int HR.out.symm, below_of_alloc HW0.out x.below⟩
set_option maxHeartbeats 400000 in
theorem implDayOf (c y m d : Int) (w : World) (hT : Tab w) : Calls Tryz.prog 125 #[.agg #[.int .i64 c, .int .i64 y, .int .i64 m, .int .i64 d]] w fun e w' => e = .returned (.int .i64 (dayOf c y m d)) ∧ Below w.heap.size w w' := by
  obtain ⟨W0, hW0⟩ : ∃ W0, W0 = w.alloc (.cells #[.int .i64 c, .int .i64 y, .int .i64 m, .int .i64 d] 88) := ⟨_, rfl⟩
  have c0 : ∀ x : Later W0, x.w.cell? ⟨w.heap.size, 0, none⟩ = some (.int .i64 c) := Later.new hW0 0 rfl
  have c1 : ∀ x : Later W0, x.w.cell? ⟨w.heap.size, 1, none⟩ = some (.int .i64 y) := Later.new hW0 1 rfl
  have c2 : ∀ x : Later W0, x.w.cell? ⟨w.heap.size, 2, none⟩ = some (.int .i64 m) := Later.new hW0 2 rfl
  have c3 : ∀ x : Later W0, x.w.cell? ⟨w.heap.size, 3, none⟩ = some (.int .i64 d) := Later.new hW0 3 rfl
  have HW0 : Hid (W0 = _) := hW0
  have HT : Hid (∀ x : Later W0, Tab x.w) := fun x => hT.later (below_of_alloc HW0.out x.below)
  have K0 : Calls Tryz.prog 185 #[.agg #[.int .i64 c, .int .i64 y, .int .i64 m, .int .i64 d]] W0 fun e w' => e = .returned (.bool (dateOk c y m d)) ∧ Below W0.heap.size W0 w' := implDateOk c y m d W0 (HT.out ⟨W0, Below.refl _ _⟩)
  clear hW0 hT
  by_cases hp : dateP c y m d
  · rw [dateOk_true hp] at K0
    have hm := dateP_month hp
    have hd := dateP_day hp
    have KU : ∀ x : Later W0, Calls Tryz.prog 186 #[.agg #[.int .i64 c, .int .i64 y, .int .i64 m, .int .i64 d]] x.w fun e w' => e = .returned (.int .i64 (first c y + before c y (m - 1).toNat + d - 1)) ∧ Below x.w.heap.size x.w w' := fun x => implLine c y m d x.w (HT.out x) hp.1 (by have := hp.2.1; omega) (by have := hp.2.2.1; omega) (by omega) (by omega) (by omega) (by omega)
    have e1 : dayOf c y m d = first c y + before c y (m - 1).toNat + d - 1 := by unfold dayOf; rw [if_pos hp]
    rw [e1]
    clear hp e1 hm hd
    generalize first c y + before c y (m - 1).toNat + d - 1 = R at *
    go_enter Tryz.func125, Tryz.ntmps125
    go_wp2_with (go_at_call 185; rw [← HW0.out]; refine K0.mono ?_; rintro e w1 ⟨rfl, hb⟩; obtain ⟨x0, rfl⟩ := Later.of hb)
    refine (KU x0).mono ?_
    rintro e w1 ⟨rfl, hb1⟩
    go_wp2
    go_ret
    exact ⟨rfl, below_of_alloc HW0.out (x0.on hb1)⟩
  · rw [dateOk_false hp] at K0
    have HD : Hid (dayOf c y m d = 0) := by unfold Hid dayOf; rw [if_neg hp]
    clear hp
    go_enter Tryz.func125, Tryz.ntmps125
    go_wp2_with (go_at_call 185; rw [← HW0.out]; refine K0.mono ?_; rintro e w1 ⟨rfl, hb⟩)
    go_ret
    exact ⟨ret_int HD.out.symm, below_of_alloc HW0.out hb⟩
end Go.Proofs.YtjojgfdfbkmlkaaGreatDoor.ctr
namespace Go.Proofs.YtjojgfdfbkmlkaaGreatDoor.ctr
open Go.RowKit
def golden (y : Int) : Int := if 1 ≤ y ∧ y ≤ 3000 then y % 19 + 1 else 0
end Go.Proofs.YtjojgfdfbkmlkaaGreatDoor.ctr
