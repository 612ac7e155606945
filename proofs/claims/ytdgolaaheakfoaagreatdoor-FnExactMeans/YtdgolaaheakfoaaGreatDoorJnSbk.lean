/- Plain laws of the texts of days counted back, of no program: a text, what is read of one, and that each comes back. Contract of the model's l05Is and of its MonthName, and plain laws of the texts. The twenty feasts as a plain list; their cells in a row; which one has a name. -/
import Derived.Test.YtdgolaaheakfoaaGreatDoorJnSbf
import Derived.Test.YtdgolaaheakfoaaGreatDoorJnSbi
import Derived.Test.YtdgolaaheakfoaaGreatDoorJnSbj
import Derived.Test.YtdgolaaheakfoaaGreatDoorJnSaa
import Derived.Handy
import Derived.Laws.AppendOwn
import Derived.Laws.OwnMore
import Derived.OwnWalk
import Derived.RangeFuncBox
import Derived.Maps.AppendAt
namespace Go.Proofs.YtdgolaaheakfoaaGreatDoor.ctr
open Go.RowKit
end Go.Proofs.YtdgolaaheakfoaaGreatDoor.ctr
namespace Go.Proofs.YtdgolaaheakfoaaGreatDoor.ctr
open Go.RowKit
theorem day_ok (c y : Int) (r : Rom) : dateOk (dayOfRoman c y r).1 (dayOfRoman c y r).2.1 (dayOfRoman c y r).2.2.1 (dayOfRoman c y r).2.2.2 = dayR c y r := by
  cases h : dayR c y r
  · have e : dayOfRoman c y r = (0, 0, 0, 0) := by unfold dayOfRoman; rw [h]; rfl
    rw [e]
    decide
  · have e : dayOfRoman c y r = (c, y, invM r, invD c y r) := by unfold dayOfRoman; rw [if_pos h]
    rw [e]
    exact dateOk_true (dayR_is h).1
theorem dayR_one {r : Rom} (h : dayR 0 1 r = true) : romB r = true := romB_of (dayR_is h)
set_option maxRecDepth 100000 in
set_option maxHeartbeats 2000000 in
theorem specIs (r : Rom) (w : World) : Calls Tryz.prog 116 #[romV r] w fun e w' => e = .returned (.bool (romB r)) ∧ Below w.heap.size w w' := by
  obtain ⟨cn, mk, mo, tw⟩ := r
  obtain ⟨W0, hW0, c0, c1, c2, c3, hBl⟩ := rom_box w cn mk mo tw
  have K1 : ∀ W, Calls Tryz.prog 143 #[.int .i64 0, .int .i64 1, .agg #[.int .i64 cn, .int .i64 mk, .int .i64 mo, .bool tw]] W fun e w' => e = .returned (dayV (dayOfRoman 0 1 ⟨cn, mk, mo, tw⟩)) ∧ Below W.heap.size W w' := specDayOfRoman 0 1 ⟨cn, mk, mo, tw⟩
  have K4 : ∀ W, Calls Tryz.prog 143 #[.int .i64 0, .int .i64 4, .agg #[.int .i64 cn, .int .i64 mk, .int .i64 mo, .bool tw]] W fun e w' => e = .returned (dayV (dayOfRoman 0 4 ⟨cn, mk, mo, tw⟩)) ∧ Below W.heap.size W w' := specDayOfRoman 0 4 ⟨cn, mk, mo, tw⟩
  have o1 := day_ok 0 1 ⟨cn, mk, mo, tw⟩
  have o4 := day_ok 0 4 ⟨cn, mk, mo, tw⟩
  have h14 := dayR_one (r := ⟨cn, mk, mo, tw⟩)
  obtain ⟨B, hB⟩ : ∃ B, B = romB ⟨cn, mk, mo, tw⟩ := ⟨_, rfl⟩
  rw [show dayR 0 4 ⟨cn, mk, mo, tw⟩ = B from hB.symm] at o4
  rw [← hB] at h14 ⊢
  have HW0 := hideP hW0
  have HBl := hideP hBl
  clear hB hW0 hBl
  generalize dayR 0 1 ⟨cn, mk, mo, tw⟩ = b1 at *
  generalize dayOfRoman 0 1 ⟨cn, mk, mo, tw⟩ = q1 at *
  generalize dayOfRoman 0 4 ⟨cn, mk, mo, tw⟩ = q4 at *
  obtain ⟨p0, p1, p2, p3⟩ := q1
  obtain ⟨s0, s1, s2, s3⟩ := q4
  have D1 : ∀ W, Calls Tryz.prog 99 #[.agg #[.int .i64 p0, .int .i64 p1, .int .i64 p2, .int .i64 p3]] W fun e w' => e = .returned (.bool b1) ∧ Below W.heap.size W w' := fun W => by rw [← o1]; exact specDateOk p0 p1 p2 p3 W
  have D4 : ∀ W, Calls Tryz.prog 99 #[.agg #[.int .i64 s0, .int .i64 s1, .int .i64 s2, .int .i64 s3]] W fun e w' => e = .returned (.bool B) ∧ Below W.heap.size W w' := fun W => by rw [← o4]; exact specDateOk s0 s1 s2 s3 W
  clear o1 o4
  go_enter Tryz.func116, Tryz.ntmps116
  go_wp2_with fail
  rw [← HW0.out]
  refine (K1 _).mono ?_
  rintro e w1 ⟨rfl, hb⟩
  obtain ⟨x1, rfl⟩ := Later.of hb
  clear hb
  go_wp2_with fail
  refine (D1 _).mono ?_
  rintro e w2 ⟨rfl, hb⟩
  obtain ⟨x2, rfl⟩ := x1.next hb
  clear hb
  cases b1
  · go_wp2_with fail
    refine (K4 _).mono ?_
    rintro e w3 ⟨rfl, hb⟩
    obtain ⟨x3, rfl⟩ := x2.next hb
    clear hb
    go_wp2_with fail
    refine (D4 _).mono ?_
    rintro e w4 ⟨rfl, hb⟩
    obtain ⟨x4, rfl⟩ := x3.next hb
    clear hb
    go_wp2
    go_ret
    exact ⟨rfl, HBl.out x4⟩
  · have HT := hideP (h14 rfl)
    clear h14
    go_wp2
    go_ret
    exact ⟨ret_bool HT.out.symm, HBl.out x2⟩
end Go.Proofs.YtdgolaaheakfoaaGreatDoor.ctr
namespace Go.Proofs.YtdgolaaheakfoaaGreatDoor.ctr
open Go.RowKit
structure Fea where
  name : ByteArray
  mv : Bool
  off : Int
  m : Int
  d : Int
def Fea.cs (f : Fea) : List Value := [.string f.name, .bool f.mv, .int .i64 f.off, .int .i64 f.m, .int .i64 f.d]
def fea0 : Fea := ⟨⟨#[]⟩, false, 0, 0, 0⟩
def feasts : List Fea := [
  ⟨⟨#[115, 101, 112, 116, 117, 97, 103, 101, 115, 105, 109, 97]⟩, true, -63, 0, 0⟩,
  ⟨⟨#[97, 115, 104]⟩, true, -46, 0, 0⟩,
  ⟨⟨#[112, 97, 108, 109]⟩, true, -7, 0, 0⟩,
  ⟨⟨#[101, 97, 115, 116, 101, 114]⟩, true, 0, 0, 0⟩,
  ⟨⟨#[113, 117, 97, 115, 105, 109, 111, 100, 111]⟩, true, 7, 0, 0⟩,
  ⟨⟨#[114, 111, 103, 97, 116, 105, 111, 110]⟩, true, 35, 0, 0⟩,
  ⟨⟨#[97, 115, 99, 101, 110, 115, 105, 111, 110]⟩, true, 39, 0, 0⟩,
  ⟨⟨#[112, 101, 110, 116, 101, 99, 111, 115, 116]⟩, true, 49, 0, 0⟩,
  ⟨⟨#[116, 114, 105, 110, 105, 116, 121]⟩, true, 56, 0, 0⟩,
  ⟨⟨#[99, 111, 114, 112, 117, 115]⟩, true, 60, 0, 0⟩,
  ⟨⟨#[101, 112, 105, 112, 104, 97, 110, 121]⟩, false, 0, 1, 6⟩,
  ⟨⟨#[99, 97, 110, 100, 108, 101, 109, 97, 115]⟩, false, 0, 2, 2⟩,
  ⟨⟨#[97, 110, 110, 117, 110, 99, 105, 97, 116, 105, 111, 110]⟩, false, 0, 3, 25⟩,
  ⟨⟨#[103, 101, 111, 114, 103, 101]⟩, false, 0, 4, 23⟩,
  ⟨⟨#[106, 111, 104, 110]⟩, false, 0, 6, 24⟩,
  ⟨⟨#[97, 115, 115, 117, 109, 112, 116, 105, 111, 110]⟩, false, 0, 8, 15⟩,
  ⟨⟨#[109, 105, 99, 104, 97, 101, 108]⟩, false, 0, 9, 29⟩,
  ⟨⟨#[115, 97, 105, 110, 116, 115]⟩, false, 0, 11, 1⟩,
  ⟨⟨#[109, 97, 114, 116, 105, 110]⟩, false, 0, 11, 11⟩,
  ⟨⟨#[99, 104, 114, 105, 115, 116, 109, 97, 115]⟩, false, 0, 12, 25⟩]
def feaAt (k : Nat) : Fea := feasts.getD k fea0
def feaCells : List Value := feasts.flatMap Fea.cs
theorem feaAt_size0 : ∀ i : Fin 20, (feaAt i.val).name.size ≤ 16 := by decide
theorem feasts_len : feasts.length = 20 := rfl
theorem feaCells_len : feaCells.length = 100 := rfl
theorem flat5 {j : Nat} (hj : j < 5) : ∀ (l : List Fea) (k : Nat), k < l.length → (l.flatMap Fea.cs)[k * 5 + j]? = (l.getD k fea0).cs[j]?
  | [], k, h => by simp at h
  | f :: l, 0, _ => by
    rw [List.flatMap_cons, List.getElem?_append_left (by simp [Fea.cs]; omega)]
    simp
  | f :: l, k + 1, h => by
    have ih := flat5 hj l k (by simpa using h)
    rw [List.flatMap_cons, List.getElem?_append_right (by simp [Fea.cs]; omega), show (k + 1) * 5 + j - f.cs.length = k * 5 + j from by simp [Fea.cs]; omega, ih]
    simp
theorem feaCell {k j : Nat} (hk : k < 20) (hj : j < 5) : feaCells[k * 5 + j]? = (feaAt k).cs[j]? := flat5 hj feasts k hk
def findFrom (s : ByteArray) : List Fea → Nat → Int
  | [], _ => -1
  | f :: l, k => if f.name = s then (k : Int) else findFrom s l (k + 1)
def findFeast (s : ByteArray) : Int := findFrom s feasts 0
theorem drop_at (k : Nat) (h : k < 20) : feasts.drop k = feaAt k :: feasts.drop (k + 1) := by
  rw [List.drop_eq_getElem_cons (show k < feasts.length from h)]
  unfold feaAt
  rw [List.getD, List.getElem?_eq_getElem (show k < feasts.length from h)]
  rfl
theorem find_hit {s : ByteArray} {k : Nat} (h : k < 20) (hn : (feaAt k).name = s) (hf : findFrom s (feasts.drop k) k = findFeast s) : findFeast s = k := by
  rw [← hf, drop_at k h, findFrom, if_pos hn]
theorem find_miss {s : ByteArray} {k : Nat} (h : k < 20) (hn : (feaAt k).name ≠ s) (hf : findFrom s (feasts.drop k) k = findFeast s) : findFrom s (feasts.drop (k + 1)) (k + 1) = findFeast s := by
  rw [← hf, drop_at k h, findFrom, if_neg hn]
theorem find_end {s : ByteArray} {k : Nat} (h : 20 ≤ k) (hf : findFrom s (feasts.drop k) k = findFeast s) : findFeast s = -1 := by
  rw [← hf, List.drop_eq_nil_of_le (by rw [feasts_len]; exact h), findFrom]
theorem findFrom_b (s : ByteArray) : ∀ (l : List Fea) (k : Nat), findFrom s l k = -1 ∨ ((k : Int) ≤ findFrom s l k ∧ findFrom s l k < ((k + l.length : Nat) : Int))
  | [], _ => .inl rfl
  | f :: l, k => by
    rw [findFrom]
    split
    · right; simp; omega
    · rcases findFrom_b s l (k + 1) with h | ⟨h1, h2⟩
      · exact .inl h
      · right
        simp at h1 h2 ⊢
        omega
theorem find_b (s : ByteArray) : -1 ≤ findFeast s ∧ findFeast s < 20 := by
  rcases findFrom_b s feasts 0 with h | ⟨h1, h2⟩
  · unfold findFeast; omega
  · have h2' : findFrom s feasts 0 < 20 := h2
    unfold findFeast
    omega
def FeaRow (W : World) (v : Value) : Prop := ∃ g cap, v = .slice (some ⟨g, 0, none⟩) 20 cap ∧ g < W.heap.size ∧ ∀ k, k < 20 → ∀ j, j < 5 → W.cell? ⟨g, k * 5 + j, none⟩ = (feaAt k).cs[j]?
theorem FeaRow.below {W W' : World} {v : Value} (h : FeaRow W v) (hb : Below W.heap.size W W') : FeaRow W' v := by
  obtain ⟨g, cap, rfl, hg, hc⟩ := h
  exact ⟨g, cap, rfl, Nat.lt_of_lt_of_le hg hb.size, fun k hk j hj => (hb.cell (p := ⟨g, k * 5 + j, none⟩) hg).trans (hc k hk j hj)⟩
def FeaOwn (w W : World) (v : Value) : Prop := W.ownsRow w.heap.size 159 5 v 20 feaCells
theorem FeaOwn.row {w W : World} {v : Value} (h : FeaOwn w W v) : FeaRow W v := by
  rcases h.2 with ⟨_, h0⟩ | ⟨g, cap, cur, hv, hb, hh, hcap, _, hsz, htake⟩
  · simp at h0
  · subst hv
    refine ⟨g, cap, rfl, (Array.getElem?_eq_some_iff.1 hh).1, fun k hk j hj => ?_⟩
    rw [← feaCell hk hj, ← htake, List.getElem?_take, if_pos (by omega)]
    simp [World.cell?, hh]
end Go.Proofs.YtdgolaaheakfoaaGreatDoor.ctr
