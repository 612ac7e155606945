/- The twenty feasts as a plain list; their cells in a row; which one has a name. Contracts of the model's Feasts: it answers the twenty feasts' cells, in a row of its own; nothing that was there turns. Contracts of the program's Feasts and what it calls: it answers the twenty feasts' cells, in a row of its own; nothing that was there turns. Contract of the program's Feasts: it answers the twenty feasts' cells, in a row of its own; nothing that was there turns. Contracts of both FindFeast: the first feast's number that has the name, -1 for none. Contracts of the model's NameOk and of the program's NameOk: each answers the plain function nameOk at every string within the length limit. Feasts: the plain functions of their days and of those that a day is. Contracts of both FeastOk: each answers its plain function at every feast. -/
import Derived.Test.YtoofnjccpoeomaaGreatDoorBase
import Derived.Handy
import Derived.Laws.AppendOwn
import Derived.Laws.OwnMore
import Derived.OwnWalk
import Derived.RangeFuncBox
import Derived.Maps.AppendAt
import Derived.Test.YtoofnjccpoeomaaGreatDoorBlkKit
import Derived.Lib.AppendZerosOnto
import Derived.Lib.SliceRun
import Derived.Test.YtoofnjccpoeomaaGreatDoorEasPlain
import Derived.Test.YtoofnjccpoeomaaGreatDoorSolOkImpl
import Derived.Test.YtoofnjccpoeomaaGreatDoorSolOk
namespace Go.Proofs.YtoofnjccpoeomaaGreatDoor.ctr
open Go.RowKit

/-- A feast: its name, whether it moves, days from Easter, month, day. -/
structure Fea where
  name : ByteArray
  mv : Bool
  off : Int
  m : Int
  d : Int
def Fea.cs (f : Fea) : List Value := [.string f.name, .bool f.mv, .int .i64 f.off, .int .i64 f.m, .int .i64 f.d]
def fea0 : Fea := ⟨⟨#[]⟩, false, 0, 0, 0⟩
def feasts : List Fea := [
  ⟨⟨#[115, 101, 112, 116, 117, 97, 103, 101, 115, 105, 109, 97]⟩, true, -63, 0, 0⟩,
  ⟨⟨#[97, 115, 104]⟩, true, -46, 0, 0⟩,
  ⟨⟨#[112, 97, 108, 109]⟩, true, -7, 0, 0⟩,
  ⟨⟨#[101, 97, 115, 116, 101, 114]⟩, true, 0, 0, 0⟩,
  ⟨⟨#[113, 117, 97, 115, 105, 109, 111, 100, 111]⟩, true, 7, 0, 0⟩,
  ⟨⟨#[114, 111, 103, 97, 116, 105, 111, 110]⟩, true, 35, 0, 0⟩,
  ⟨⟨#[97, 115, 99, 101, 110, 115, 105, 111, 110]⟩, true, 39, 0, 0⟩,
  ⟨⟨#[112, 101, 110, 116, 101, 99, 111, 115, 116]⟩, true, 49, 0, 0⟩,
  ⟨⟨#[116, 114, 105, 110, 105, 116, 121]⟩, true, 56, 0, 0⟩,
  ⟨⟨#[99, 111, 114, 112, 117, 115]⟩, true, 60, 0, 0⟩,
  ⟨⟨#[101, 112, 105, 112, 104, 97, 110, 121]⟩, false, 0, 1, 6⟩,
  ⟨⟨#[99, 97, 110, 100, 108, 101, 109, 97, 115]⟩, false, 0, 2, 2⟩,
  ⟨⟨#[97, 110, 110, 117, 110, 99, 105, 97, 116, 105, 111, 110]⟩, false, 0, 3, 25⟩,
  ⟨⟨#[103, 101, 111, 114, 103, 101]⟩, false, 0, 4, 23⟩,
  ⟨⟨#[106, 111, 104, 110]⟩, false, 0, 6, 24⟩,
  ⟨⟨#[97, 115, 115, 117, 109, 112, 116, 105, 111, 110]⟩, false, 0, 8, 15⟩,
  ⟨⟨#[109, 105, 99, 104, 97, 101, 108]⟩, false, 0, 9, 29⟩,
  ⟨⟨#[115, 97, 105, 110, 116, 115]⟩, false, 0, 11, 1⟩,
  ⟨⟨#[109, 97, 114, 116, 105, 110]⟩, false, 0, 11, 11⟩,
  ⟨⟨#[99, 104, 114, 105, 115, 116, 109, 97, 115]⟩, false, 0, 12, 25⟩]
def feaAt (k : Nat) : Fea := feasts.getD k fea0
def feaCells : List Value := feasts.flatMap Fea.cs
theorem feaAt_size0 : ∀ i : Fin 20, (feaAt i.val).name.size ≤ 16 := by decide
theorem feasts_len : feasts.length = 20 := rfl
theorem feaCells_len : feaCells.length = 100 := rfl
theorem flat5 {j : Nat} (hj : j < 5) : ∀ (l : List Fea) (k : Nat), k < l.length → (l.flatMap Fea.cs)[k * 5 + j]? = (l.getD k fea0).cs[j]?
  | [], k, h => by simp at h
  | f :: l, 0, _ => by
    rw [List.flatMap_cons, List.getElem?_append_left (by simp [Fea.cs]; omega)]
    simp
  | f :: l, k + 1, h => by
    have ih := flat5 hj l k (by simpa using h)
    rw [List.flatMap_cons, List.getElem?_append_right (by simp [Fea.cs]; omega), show (k + 1) * 5 + j - f.cs.length = k * 5 + j from by simp [Fea.cs]; omega, ih]
    simp
theorem feaCell {k j : Nat} (hk : k < 20) (hj : j < 5) : feaCells[k * 5 + j]? = (feaAt k).cs[j]? := flat5 hj feasts k hk

/-- The first of a list's feasts, from number k on, that has this name; -1 for none. -/
def findFrom (s : ByteArray) : List Fea → Nat → Int
  | [], _ => -1
  | f :: l, k => if f.name = s then (k : Int) else findFrom s l (k + 1)
def findFeast (s : ByteArray) : Int := findFrom s feasts 0
theorem drop_at (k : Nat) (h : k < 20) : feasts.drop k = feaAt k :: feasts.drop (k + 1) := by
  rw [List.drop_eq_getElem_cons (show k < feasts.length from h)]
  unfold feaAt
  rw [List.getD, List.getElem?_eq_getElem (show k < feasts.length from h)]
  rfl
theorem find_hit {s : ByteArray} {k : Nat} (h : k < 20) (hn : (feaAt k).name = s) (hf : findFrom s (feasts.drop k) k = findFeast s) : findFeast s = k := by
  rw [← hf, drop_at k h, findFrom, if_pos hn]
theorem find_miss {s : ByteArray} {k : Nat} (h : k < 20) (hn : (feaAt k).name ≠ s) (hf : findFrom s (feasts.drop k) k = findFeast s) : findFrom s (feasts.drop (k + 1)) (k + 1) = findFeast s := by
  rw [← hf, drop_at k h, findFrom, if_neg hn]
theorem find_end {s : ByteArray} {k : Nat} (h : 20 ≤ k) (hf : findFrom s (feasts.drop k) k = findFeast s) : findFeast s = -1 := by
  rw [← hf, List.drop_eq_nil_of_le (by rw [feasts_len]; exact h), findFrom]
theorem findFrom_b (s : ByteArray) : ∀ (l : List Fea) (k : Nat), findFrom s l k = -1 ∨ ((k : Int) ≤ findFrom s l k ∧ findFrom s l k < ((k + l.length : Nat) : Int))
  | [], _ => .inl rfl
  | f :: l, k => by
    rw [findFrom]
    split
    · right; simp; omega
    · rcases findFrom_b s l (k + 1) with h | ⟨h1, h2⟩
      · exact .inl h
      · right
        simp at h1 h2 ⊢
        omega
theorem find_b (s : ByteArray) : -1 ≤ findFeast s ∧ findFeast s < 20 := by
  rcases findFrom_b s feasts 0 with h | ⟨h1, h2⟩
  · unfold findFeast; omega
  · have h2' : findFrom s feasts 0 < 20 := h2
    unfold findFeast
    omega

/-- A slice value whose row g holds the twenty feasts' cells. -/
def FeaRow (W : World) (v : Value) : Prop := ∃ g cap, v = .slice (some ⟨g, 0, none⟩) 20 cap ∧ g < W.heap.size ∧ ∀ k, k < 20 → ∀ j, j < 5 → W.cell? ⟨g, k * 5 + j, none⟩ = (feaAt k).cs[j]?
theorem FeaRow.below {W W' : World} {v : Value} (h : FeaRow W v) (hb : Below W.heap.size W W') : FeaRow W' v := by
  obtain ⟨g, cap, rfl, hg, hc⟩ := h
  exact ⟨g, cap, rfl, Nat.lt_of_lt_of_le hg hb.size, fun k hk j hj => (hb.cell (p := ⟨g, k * 5 + j, none⟩) hg).trans (hc k hk j hj)⟩
/-- What Feasts leaves: its answer is a row of its own with the feasts' cells. -/
def FeaOwn (w W : World) (v : Value) : Prop := W.ownsRow w.heap.size 78 5 v 20 feaCells
theorem FeaOwn.row {w W : World} {v : Value} (h : FeaOwn w W v) : FeaRow W v := by
  rcases h.2 with ⟨_, h0⟩ | ⟨g, cap, cur, hv, hb, hh, hcap, _, hsz, htake⟩
  · simp at h0
  · subst hv
    refine ⟨g, cap, rfl, (Array.getElem?_eq_some_iff.1 hh).1, fun k hk j hj => ?_⟩
    rw [← feaCell hk hj, ← htake, List.getElem?_take, if_pos (by omega)]
    simp [World.cell?, hh]
end Go.Proofs.YtoofnjccpoeomaaGreatDoor.ctr

namespace Go.Proofs.YtoofnjccpoeomaaGreatDoor.ctr
open Go.RowKit

theorem specMoves4 (s : ByteArray) (o : Int) (w : World) : Calls Tryz.prog 75 #[.string s, .int .i64 o] w fun e w' => e = .returned (.agg #[.string s, .bool true, .int .i64 o, .int .i64 0, .int .i64 0]) ∧ Below w.heap.size w w' := by
  go_enter Tryz.func75, Tryz.ntmps75
  go_wp2
  go_returns
  refine ⟨rfl, ?_⟩
  go_grown
theorem specFixed4 (s : ByteArray) (m d : Int) (w : World) : Calls Tryz.prog 76 #[.string s, .int .i64 m, .int .i64 d] w fun e w' => e = .returned (.agg #[.string s, .bool false, .int .i64 0, .int .i64 m, .int .i64 d]) ∧ Below w.heap.size w w' := by
  go_enter Tryz.func76, Tryz.ntmps76
  go_wp2
  go_returns
  refine ⟨rfl, ?_⟩
  go_grown
theorem implOnEaster (s : ByteArray) (o : Int) (w : World) : Calls Tryz.prog 84 #[.string s, .int .i64 o] w fun e w' => e = .returned (.agg #[.string s, .bool true, .int .i64 o, .int .i64 0, .int .i64 0]) ∧ Below w.heap.size w w' := by
  go_enter Tryz.func84, Tryz.ntmps84
  go_wp2
  go_returns
  refine ⟨rfl, ?_⟩
  go_grown
theorem implOnDate (s : ByteArray) (m d : Int) (w : World) : Calls Tryz.prog 86 #[.string s, .int .i64 m, .int .i64 d] w fun e w' => e = .returned (.agg #[.string s, .bool false, .int .i64 0, .int .i64 m, .int .i64 d]) ∧ Below w.heap.size w w' := by
  go_enter Tryz.func86, Tryz.ntmps86
  go_wp2
  go_returns
  refine ⟨rfl, ?_⟩
  go_grown
theorem row_new {w W : World} {cs : Array Value} {t : TypeId} {n : Nat} {xs : List Value} (hb : w.heap.size ≤ W.heap.size) (hn : n ≤ maxLen) (hs : cs.size = n * 5) (hx : cs.toList = xs) :
    (W.alloc (.cells cs t)).ownsRow w.heap.size t 5 (.slice (some ⟨W.heap.size, 0, none⟩) n n) n xs := by
  have hl : xs.length = n * 5 := by rw [← hx, Array.length_toList, hs]
  exact ⟨hl, .inr ⟨W.heap.size, n, cs, rfl, hb, heap_alloc_new W _, Nat.le_refl _, hn, hs, by rw [hx, List.take_of_length_le (by omega)]⟩⟩

set_option maxRecDepth 100000 in
set_option maxHeartbeats 4000000 in
theorem specFeasts (w : World) : Calls Tryz.prog 55 #[] w fun e w' => ∃ v, e = .returned v ∧ FeaOwn w w' v ∧ Below w.heap.size w w' := by
  go_enter Tryz.func55, Tryz.ntmps55
  go_wp2_with fail
  refine (specMoves4 _ _ _).mono ?_
  rintro e w1 ⟨rfl, hb⟩
  obtain ⟨x1, rfl⟩ := Later.of hb
  clear hb
  go_wp2_with fail
  refine (specMoves4 _ _ _).mono ?_
  rintro e w2 ⟨rfl, hb⟩
  obtain ⟨x2, rfl⟩ := x1.next hb
  clear hb
  go_wp2_with fail
  refine (specMoves4 _ _ _).mono ?_
  rintro e w3 ⟨rfl, hb⟩
  obtain ⟨x3, rfl⟩ := x2.next hb
  clear hb
  go_wp2_with fail
  refine (specMoves4 _ _ _).mono ?_
  rintro e w4 ⟨rfl, hb⟩
  obtain ⟨x4, rfl⟩ := x3.next hb
  clear hb
  go_wp2_with fail
  refine (specMoves4 _ _ _).mono ?_
  rintro e w5 ⟨rfl, hb⟩
  obtain ⟨x5, rfl⟩ := x4.next hb
  clear hb
  go_wp2_with fail
  refine (specMoves4 _ _ _).mono ?_
  rintro e w6 ⟨rfl, hb⟩
  obtain ⟨x6, rfl⟩ := x5.next hb
  clear hb
  go_wp2_with fail
  refine (specMoves4 _ _ _).mono ?_
  rintro e w7 ⟨rfl, hb⟩
  obtain ⟨x7, rfl⟩ := x6.next hb
  clear hb
  go_wp2_with fail
  refine (specMoves4 _ _ _).mono ?_
  rintro e w8 ⟨rfl, hb⟩
  obtain ⟨x8, rfl⟩ := x7.next hb
  clear hb
  go_wp2_with fail
  refine (specMoves4 _ _ _).mono ?_
  rintro e w9 ⟨rfl, hb⟩
  obtain ⟨x9, rfl⟩ := x8.next hb
  clear hb
  go_wp2_with fail
  refine (specMoves4 _ _ _).mono ?_
  rintro e w10 ⟨rfl, hb⟩
  obtain ⟨x10, rfl⟩ := x9.next hb
  clear hb
  go_wp2_with fail
  refine (specFixed4 _ _ _ _).mono ?_
  rintro e w11 ⟨rfl, hb⟩
  obtain ⟨x11, rfl⟩ := x10.next hb
  clear hb
  go_wp2_with fail
  refine (specFixed4 _ _ _ _).mono ?_
  rintro e w12 ⟨rfl, hb⟩
  obtain ⟨x12, rfl⟩ := x11.next hb
  clear hb
  go_wp2_with fail
  refine (specFixed4 _ _ _ _).mono ?_
  rintro e w13 ⟨rfl, hb⟩
  obtain ⟨x13, rfl⟩ := x12.next hb
  clear hb
  go_wp2_with fail
  refine (specFixed4 _ _ _ _).mono ?_
  rintro e w14 ⟨rfl, hb⟩
  obtain ⟨x14, rfl⟩ := x13.next hb
  clear hb
  go_wp2_with fail
  refine (specFixed4 _ _ _ _).mono ?_
  rintro e w15 ⟨rfl, hb⟩
  obtain ⟨x15, rfl⟩ := x14.next hb
  clear hb
  go_wp2_with fail
  refine (specFixed4 _ _ _ _).mono ?_
  rintro e w16 ⟨rfl, hb⟩
  obtain ⟨x16, rfl⟩ := x15.next hb
  clear hb
  go_wp2_with fail
  refine (specFixed4 _ _ _ _).mono ?_
  rintro e w17 ⟨rfl, hb⟩
  obtain ⟨x17, rfl⟩ := x16.next hb
  clear hb
  go_wp2_with fail
  refine (specFixed4 _ _ _ _).mono ?_
  rintro e w18 ⟨rfl, hb⟩
  obtain ⟨x18, rfl⟩ := x17.next hb
  clear hb
  go_wp2_with fail
  refine (specFixed4 _ _ _ _).mono ?_
  rintro e w19 ⟨rfl, hb⟩
  obtain ⟨x19, rfl⟩ := x18.next hb
  clear hb
  go_wp2_with fail
  refine (specFixed4 _ _ _ _).mono ?_
  rintro e w20 ⟨rfl, hb⟩
  obtain ⟨x20, rfl⟩ := x19.next hb
  clear hb
  go_wp2
  go_ret
  exact ⟨_, rfl, row_new x20.below.size (by unfold maxLen; omega) rfl rfl, x20.below.alloc x20.below.size _⟩
end Go.Proofs.YtoofnjccpoeomaaGreatDoor.ctr

namespace Go.Proofs.YtoofnjccpoeomaaGreatDoor.ctr
open Go.RowKit

theorem info_fea : (Tryz.prog.info? 78).map (fun i => (i.zero, i.size, i.bytes)) = some (some (.agg #[.string ⟨#[]⟩, .bool false, .int .i64 0, .int .i64 0, .int .i64 0]), 5, 48) := by kernel_rfl
theorem make10 (w : World) : (Instr.makeSlice 93 (.int .i64 0) (.int .i64 10)).run Tryz.prog w = .ok (.slice (some ⟨w.heap.size, 0, none⟩) 0 10) (w.alloc (.cells #[.string ⟨#[]⟩, .bool false, .int .i64 0, .int .i64 0, .int .i64 0, .string ⟨#[]⟩, .bool false, .int .i64 0, .int .i64 0, .int .i64 0, .string ⟨#[]⟩, .bool false, .int .i64 0, .int .i64 0, .int .i64 0, .string ⟨#[]⟩, .bool false, .int .i64 0, .int .i64 0, .int .i64 0, .string ⟨#[]⟩, .bool false, .int .i64 0, .int .i64 0, .int .i64 0, .string ⟨#[]⟩, .bool false, .int .i64 0, .int .i64 0, .int .i64 0, .string ⟨#[]⟩, .bool false, .int .i64 0, .int .i64 0, .int .i64 0, .string ⟨#[]⟩, .bool false, .int .i64 0, .int .i64 0, .int .i64 0, .string ⟨#[]⟩, .bool false, .int .i64 0, .int .i64 0, .int .i64 0, .string ⟨#[]⟩, .bool false, .int .i64 0, .int .i64 0, .int .i64 0] 78)) := by kernel_rfl
theorem fea_take (k : Nat) (hk : k < 20) : feaCells.take ((k + 1) * 5) = feaCells.take (k * 5) ++ (feaAt k).cs := by
  apply List.ext_getElem?
  intro i
  by_cases h1 : i < k * 5
  · rw [List.getElem?_append_left (by rw [List.length_take, feaCells_len]; omega), List.getElem?_take, List.getElem?_take, if_pos (by omega), if_pos h1]
  · rw [List.getElem?_append_right (by rw [List.length_take, feaCells_len]; omega), List.getElem?_take, List.length_take, feaCells_len, Nat.min_eq_left (by omega)]
    by_cases h2 : i < (k + 1) * 5
    · rw [if_pos h2, ← feaCell hk (show i - k * 5 < 5 by omega), show k * 5 + (i - k * 5) = i by omega]
    · rw [if_neg h2, List.getElem?_eq_none (by simp [Fea.cs]; omega)]
theorem own_base5 {w : World} {base e size : Nat} {v : Value} {n : Nat} {xs : List Value} (h : w.ownsRow base e size v n xs) : ∀ k, v.ownBlock = some k → base ≤ k := by
  obtain ⟨_, h | ⟨g, cap, cur, rfl, hb, _⟩⟩ := h
  · obtain ⟨rfl, _⟩ := h
    intro k hk
    cases hk
  · intro k hk
    cases hk
    exact hb
theorem sz_new (W : World) (o : Obj) : (W.alloc o).heap.size = W.heap.size + 1 := by simp [World.alloc, -World.alloc_eq]

theorem cells_new5 (W : World) (cs : List Value) (t : TypeId) {n : Nat} (hn : n = W.heap.size) : ∀ (j : Nat) (u : Value), cs[j]? = some u → (W.alloc (.cells cs.toArray t)).cell? ((⟨n, 0, none⟩ : Addr).add j) = some u := by
  intro j u h
  subst hn
  have ha : (⟨W.heap.size, 0, none⟩ : Addr).add j = ⟨W.heap.size, j, none⟩ := by unfold Addr.add; split <;> simp_all
  rw [ha]
  simp [World.alloc, World.cell?, h, -World.alloc_eq]
theorem cells_add {w : World} {g : Nat} {xs : List Value} (h : ∀ j u, xs[j]? = some u → w.cell? ⟨g, j, none⟩ = some u) : ∀ (j : Nat) (u : Value), xs[j]? = some u → w.cell? ((⟨g, 0, none⟩ : Addr).add j) = some u := by
  intro j u hj
  have ha : (⟨g, 0, none⟩ : Addr).add j = ⟨g, j, none⟩ := by unfold Addr.add; split <;> simp_all
  rw [ha]
  exact h j u hj
theorem fea_one : ∀ u ∈ feaCells, u.oneCell' = true := List.all_eq_true.1 (show feaCells.all Value.oneCell' = true by decide)
theorem cells_row {w : World} {base e : Nat} {v : Value} {n : Nat} {xs : List Value} (h : w.ownsRow base e 5 v n xs) (hn : n ≠ 0) : ∃ g cap, v = .slice (some ⟨g, 0, none⟩) n cap ∧ base ≤ g ∧ g < w.heap.size ∧ ∀ j u, xs[j]? = some u → w.cell? ⟨g, j, none⟩ = some u := by
  have hc := fun g => h.cells (g := g)
  rcases h.2 with ⟨_, h0⟩ | ⟨g, cap, cur, rfl, hb, hh, _⟩
  · exact absurd h0 hn
  · refine ⟨g, cap, rfl, hb, (Array.getElem?_eq_some_iff.1 hh).1, fun j u hj => ?_⟩
    have := hc g rfl j u hj
    have ha : (⟨g, 0, none⟩ : Addr).add j = ⟨g, j, none⟩ := by unfold Addr.add; split <;> simp_all
    rw [ha] at this
    exact this

set_option maxRecDepth 100000 in
set_option maxHeartbeats 2000000 in
theorem implMoving (g cap : Nat) (w : World) (hg : g < w.heap.size) (hc : ∀ k, k < 10 → ∀ j, j < 5 → w.cell? ⟨g, k * 5 + j, none⟩ = (feaAt k).cs[j]?) :
    Calls Tryz.prog 83 #[.slice (some ⟨g, 0, none⟩) 10 cap] w fun e w' => ∃ v, e = .returned v ∧ w'.ownsRow w.heap.size 78 5 v 10 (feaCells.take 50) ∧ Below w.heap.size w w' := by
  obtain ⟨i0, hi, hz0, hz1, hz2⟩ := info_parts info_fea
  have HC := hideP hc
  clear hc
  have hmk := make10
  go_enter Tryz.func83, Tryz.ntmps83
  go_wp2
  clear hmk
  go_loopw [3, 11] (fun o i wr => ∃ k : Nat, k ≤ 10 ∧ i = .int .i64 (k : Int) ∧ wr.ownsRow w.heap.size 78 5 o k (feaCells.take (k * 5)) ∧ Below w.heap.size w wr) (fun _ i _ => 10 - (intOf i).toNat)
  case atStart => exact ⟨0, Nat.zero_le _, rfl, World.ownsRow_made w _ 10 (Nat.le_refl _) (by unfold maxLen; omega) rfl, (Below.refl _ _).alloc (Nat.le_refl _) _⟩
  case round =>
    obtain ⟨k, hk, rfl, hrow, hB⟩ := hrel
    by_cases hlt : k < 10
    · have HT := hideP (fea_take k (by omega))
      have HR := hideP hrow
      have HB := hideP hB
      clear hrow hB
      have c0 := (HB.out.cell (p := ⟨g, k * 5 + 0, none⟩) hg).trans (HC.out k hlt 0 (by omega))
      have c1 := (HB.out.cell (p := ⟨g, k * 5 + 1, none⟩) hg).trans (HC.out k hlt 1 (by omega))
      have c2 := (HB.out.cell (p := ⟨g, k * 5 + 2, none⟩) hg).trans (HC.out k hlt 2 (by omega))
      have c3 := (HB.out.cell (p := ⟨g, k * 5 + 3, none⟩) hg).trans (HC.out k hlt 3 (by omega))
      have c4 := (HB.out.cell (p := ⟨g, k * 5 + 4, none⟩) hg).trans (HC.out k hlt 4 (by omega))
      generalize feaAt k = f at *
      obtain ⟨s, mv, o, m, d⟩ := f
      simp only [Fea.cs, List.getElem?_cons_zero, List.getElem?_cons_succ, Nat.add_zero] at c0 c1 c2 c3 c4
      go_wp2_with (at_builtin; refine wpList_append_own _ rfl _ _ 93 rfl w.heap.size 78 i0 (.agg #[.string ⟨#[]⟩, .bool false, .int .i64 0, .int .i64 0, .int .i64 0]) 5 48 Tryz.underlying93 hi hz0 hz1 hz2 rfl (by decide) _ _ _ rfl ((HR.out.alloc _).alloc _) ⟨wr.heap.size + 1, 0, none⟩ 1 1 [.string s, .bool mv, .int .i64 o, .int .i64 m, .int .i64 d] rfl rfl (cells_new5 _ _ _ (by rw [sz_new])) (by simp [Value.oneCell']) (by unfold maxLen; omega) (by omega) (by have := HB.out.size; rw [sz_new, sz_new]; omega) ?_; intro v' w1 hown' hgrow _)
      have hB1 : Below w.heap.size w w1 := ((HB.out.alloc HB.out.size _).alloc (by have := HB.out.size; rw [sz_new]; omega) _).grown hgrow (by have := HB.out.size; rw [sz_new, sz_new]; omega) (own_base5 HR.out)
      refine ⟨⟨k + 1, by omega, by go_num, ?_, hB1⟩, by simp [intOf]; omega⟩
      rw [HT.out]
      exact hown'
    · have hkn : k = 10 := by omega
      subst hkn
      go_wp2
      go_ret
      exact ⟨_, rfl, hrow, hB⟩

theorem grow0 (w : World) : ∀ ty, (Builtin.append_ #[93, 3] ty #[.slice none 0 0, .int .i64 20]).run Tryz.prog w =
    .ok (.slice (some ⟨w.heap.size, 0, none⟩) 20 (grownCap w 20 0 78)) (w.drew.alloc (.cells (#[] ++ Builtin.zeroCells (Value.cells (.agg #[.string ⟨#[]⟩, .bool false, .int .i64 0, .int .i64 0, .int .i64 0])) 20 ++ Builtin.zeroCells (Value.cells (.agg #[.string ⟨#[]⟩, .bool false, .int .i64 0, .int .i64 0, .int .i64 0])) (grownCap w 20 0 78 - 20)) 78)) := fun ty => by
  obtain ⟨i0, hi, hz0, hz1, hz2⟩ := info_parts info_fea
  have h := Lib.run_append_grow_zeros w 93 3 ty 78 i0 (.agg #[.string ⟨#[]⟩, .bool false, .int .i64 0, .int .i64 0, .int .i64 0]) .i64 .i64 Tryz.underlying93 Tryz.underlying3 hi hz0 none 0 0 [] (by rw [hz1]; exact run_firstCells_none w.drew 5 0 0 0) 20 (by omega) (by omega) (by omega) (by omega) (by rw [hz2]; omega) (growslice_fits (by omega) (by rw [hz2]; omega))
  exact h
set_option maxRecDepth 100000 in
set_option maxHeartbeats 2000000 in
theorem implGrow (w : World) : Calls Tryz.prog 121 #[.slice none 0 0, .int .i64 20] w fun e w' => ∃ v, e = .returned v ∧ w'.ownsRow w.heap.size 78 5 v 0 [] ∧ Below w.heap.size w w' := by
  have hrz := grow0 w
  have hge := grownCap_ge w 20 0 78
  have hle := grownCap_le_maxLen w 20 0 78 (by unfold maxLen; omega)
  generalize grownCap w 20 0 78 = G at *
  have hle' : G ≤ 9223372036854775807 := by unfold maxLen at hle; omega
  have hcs : (#[] ++ Builtin.zeroCells (Value.cells (.agg #[.string ⟨#[]⟩, .bool false, .int .i64 0, .int .i64 0, .int .i64 0])) 20 ++ Builtin.zeroCells (Value.cells (.agg #[.string ⟨#[]⟩, .bool false, .int .i64 0, .int .i64 0, .int .i64 0])) (G - 20)).size = G * 5 := by
    simp only [Array.size_append, size_zeroCells]
    show 0 + 20 * 5 + (G - 20) * 5 = G * 5
    omega
  have HCS := hideP hcs
  clear hcs
  generalize (#[] ++ Builtin.zeroCells (Value.cells (.agg #[.string ⟨#[]⟩, .bool false, .int .i64 0, .int .i64 0, .int .i64 0])) 20 ++ Builtin.zeroCells (Value.cells (.agg #[.string ⟨#[]⟩, .bool false, .int .i64 0, .int .i64 0, .int .i64 0])) (G - 20)) = cur at *
  go_enter Tryz.func121, Tryz.ntmps121
  go_wp2_with (at_builtin; refine Lib.wpList_append_run _ rfl _ _ _ _ rfl _ _ rfl rfl _ _ (hrz _) ?_)
  go_ret
  exact ⟨_, rfl, World.ownsRow_made w.drew cur G (Nat.le_refl _) hle HCS.out, (Below.refl _ _).drew.alloc (Nat.le_refl _) _⟩

set_option maxRecDepth 100000 in
set_option maxHeartbeats 2000000 in
theorem implConcat (p g1 c1 g2 c2 : Nat) (t : TypeId) (w : World) (hp : Blk w p #[.slice (some ⟨g1, 0, none⟩) 10 c1, .slice (some ⟨g2, 0, none⟩) 10 c2] t) (hg1 : g1 < w.heap.size) (hg2 : g2 < w.heap.size)
    (h1 : ∀ j u, (feaCells.take 50)[j]? = some u → w.cell? ⟨g1, j, none⟩ = some u) (h2 : ∀ j u, (feaCells.drop 50)[j]? = some u → w.cell? ⟨g2, j, none⟩ = some u) :
    Calls Tryz.prog 99 #[.slice (some ⟨p, 0, none⟩) 2 2] w fun e w' => ∃ v, e = .returned v ∧ FeaOwn w w' v ∧ Below w.heap.size w w' := by
  obtain ⟨i0, hi, hz0, hz1, hz2⟩ := info_parts info_fea
  have HP := hideP hp
  have H1 := hideP h1
  have H2 := hideP h2
  have c0 := hp.cell 0 rfl
  have c1' := hp.cell 1 rfl
  clear hp h1 h2
  go_enter Tryz.func99, Tryz.ntmps99
  go_wp2
  go_loopw [3, 11] (fun z i wr => ∃ k : Nat, k ≤ 2 ∧ i = .int .i64 (k : Int) ∧ z = .int .i64 (10 * k : Int) ∧ w = wr) (fun _ i _ => 2 - (intOf i).toNat)
  case atStart => exact ⟨0, Nat.zero_le _, rfl, rfl, rfl⟩
  case round =>
    obtain ⟨k, hk, rfl, rfl, rfl⟩ := hrel
    have h3 : k = 0 ∨ k = 1 ∨ k = 2 := by omega
    rcases h3 with rfl | rfl | rfl
    · go_wp2
      exact ⟨⟨1, by omega, by go_num, by go_num, by first | rfl | trivial⟩, by simp [intOf]⟩
    · go_wp2
      exact ⟨⟨2, by omega, by go_num, by go_num, by first | rfl | trivial⟩, by simp [intOf]⟩
    · clear c0 c1'
      go_wp2_with fail
      refine (implGrow _).mono ?_
      rintro e W1 ⟨v0, rfl, hrow, hb⟩
      have HR := hideP hrow
      have HB := hideP hb
      clear hrow hb
      go_wp2_with fail
      go_loopw [6, 27] (fun o i wq => ∃ k : Nat, k ≤ 2 ∧ i = .int .i64 (k : Int) ∧ wq.ownsRow w.heap.size 78 5 o (10 * k) (feaCells.take (50 * k)) ∧ Below w.heap.size w wq) (fun _ i _ => 2 - (intOf i).toNat)
      case atStart => exact ⟨0, Nat.zero_le _, rfl, HR.out, HB.out⟩
      case round =>
        obtain ⟨k, hk, rfl, hrow, hB⟩ := hrel
        have HR2 := hideP hrow
        have HB2 := hideP hB
        clear hrow hB HR
        have e0 := (HP.out.below HB2.out HP.out.lt).cell 0 rfl
        have e1 := (HP.out.below HB2.out HP.out.lt).cell 1 rfl
        have h3 : k = 0 ∨ k = 1 ∨ k = 2 := by omega
        rcases h3 with rfl | rfl | rfl
        · go_wp2_with (at_builtin; refine wpList_append_own _ rfl _ _ 93 rfl w.heap.size 78 i0 (.agg #[.string ⟨#[]⟩, .bool false, .int .i64 0, .int .i64 0, .int .i64 0]) 5 48 Tryz.underlying93 hi hz0 hz1 hz2 rfl (by decide) _ _ _ rfl HR2.out ⟨g1, 0, none⟩ 10 c1 (feaCells.take 50) rfl rfl (cells_add (fun j u hj => (HB2.out.cell (p := ⟨g1, j, none⟩) hg1).trans (H1.out j u hj))) (fun u hu => fea_one u (List.mem_of_mem_take hu)) (by unfold maxLen; omega) (by omega) HB2.out.size ?_; intro v' w1 hown' hgrow _)
          refine ⟨⟨1, by omega, by go_num, hown', HB2.out.grown hgrow HB2.out.size (own_base5 HR2.out)⟩, by simp [intOf]⟩
        · go_wp2_with (at_builtin; refine wpList_append_own _ rfl _ _ 93 rfl w.heap.size 78 i0 (.agg #[.string ⟨#[]⟩, .bool false, .int .i64 0, .int .i64 0, .int .i64 0]) 5 48 Tryz.underlying93 hi hz0 hz1 hz2 rfl (by decide) _ _ _ rfl HR2.out ⟨g2, 0, none⟩ 10 c2 (feaCells.drop 50) rfl rfl (cells_add (fun j u hj => (HB2.out.cell (p := ⟨g2, j, none⟩) hg2).trans (H2.out j u hj))) (fun u hu => fea_one u (List.mem_of_mem_drop hu)) (by unfold maxLen; omega) (by omega) HB2.out.size ?_; intro v' w1 hown' hgrow _)
          refine ⟨⟨2, by omega, by go_num, hown', HB2.out.grown hgrow HB2.out.size (own_base5 HR2.out)⟩, by simp [intOf]⟩
        · go_wp2
          go_ret
          exact ⟨_, rfl, HR2.out, HB2.out⟩
end Go.Proofs.YtoofnjccpoeomaaGreatDoor.ctr

namespace Go.Proofs.YtoofnjccpoeomaaGreatDoor.ctr
open Go.RowKit

theorem own_mono5 {w : World} {b b' e size : Nat} {v : Value} {n : Nat} {xs : List Value} (h : w.ownsRow b e size v n xs) (hb : b' ≤ b) : w.ownsRow b' e size v n xs := by
  obtain ⟨h1, h | ⟨g, cap, cur, hv, hg, hr⟩⟩ := h
  · exact ⟨h1, .inl h⟩
  · exact ⟨h1, .inr ⟨g, cap, cur, hv, Nat.le_trans hb hg, hr⟩⟩
theorem implWith (g1 c1 g2 c2 : Nat) (w : World) (hg1 : g1 < w.heap.size) (hg2 : g2 < w.heap.size)
    (h1 : ∀ j u, (feaCells.take 50)[j]? = some u → w.cell? ⟨g1, j, none⟩ = some u) (h2 : ∀ j u, (feaCells.drop 50)[j]? = some u → w.cell? ⟨g2, j, none⟩ = some u) :
    Calls Tryz.prog 85 #[.slice (some ⟨g1, 0, none⟩) 10 c1, .slice (some ⟨g2, 0, none⟩) 10 c2] w fun e w' => ∃ v, e = .returned v ∧ FeaOwn w w' v ∧ Below w.heap.size w w' := by
  have K := fun t => implConcat w.heap.size g1 c1 g2 c2 t (w.alloc (.cells #[.slice (some ⟨g1, 0, none⟩) 10 c1, .slice (some ⟨g2, 0, none⟩) 10 c2] t)) (Blk.new w _ _) (by rw [sz_new]; omega) (by rw [sz_new]; omega)
    (fun j u hj => (((Below.refl w.heap.size w).alloc (Nat.le_refl _) _).cell (p := ⟨g1, j, none⟩) hg1).trans (h1 j u hj)) (fun j u hj => (((Below.refl w.heap.size w).alloc (Nat.le_refl _) _).cell (p := ⟨g2, j, none⟩) hg2).trans (h2 j u hj))
  clear h1 h2
  go_enter Tryz.func85, Tryz.ntmps85
  go_wp2_with fail
  refine (K _).mono ?_
  rintro e w1 ⟨v, rfl, hr, hb⟩
  go_wp2
  go_ret
  exact ⟨v, rfl, own_mono5 hr (by rw [sz_new]; omega), below_alloc hb⟩

theorem list_at (cs : List Value) (W : World) (t : TypeId) {k j : Nat} {f : Fea} (h : cs[k * 5 + j]? = f.cs[j]?) : (W.alloc (.cells cs.toArray t)).cell? ⟨W.heap.size, k * 5 + j, none⟩ = f.cs[j]? := by
  rw [← h]
  simp [World.alloc, World.cell?, -World.alloc_eq]
set_option maxRecDepth 100000 in
set_option maxHeartbeats 4000000 in
theorem implFeasts (w : World) : Calls Tryz.prog 63 #[] w fun e w' => ∃ v, e = .returned v ∧ FeaOwn w w' v ∧ Below w.heap.size w w' := by
  go_enter Tryz.func63, Tryz.ntmps63
  go_wp2_with fail
  refine (implOnEaster _ _ _).mono ?_
  rintro e w1 ⟨rfl, hb⟩
  obtain ⟨x1, rfl⟩ := Later.of hb
  clear hb
  go_wp2_with fail
  refine (implOnEaster _ _ _).mono ?_
  rintro e w2 ⟨rfl, hb⟩
  obtain ⟨x2, rfl⟩ := x1.next hb
  clear hb
  go_wp2_with fail
  refine (implOnEaster _ _ _).mono ?_
  rintro e w3 ⟨rfl, hb⟩
  obtain ⟨x3, rfl⟩ := x2.next hb
  clear hb
  go_wp2_with fail
  refine (implOnEaster _ _ _).mono ?_
  rintro e w4 ⟨rfl, hb⟩
  obtain ⟨x4, rfl⟩ := x3.next hb
  clear hb
  go_wp2_with fail
  refine (implOnEaster _ _ _).mono ?_
  rintro e w5 ⟨rfl, hb⟩
  obtain ⟨x5, rfl⟩ := x4.next hb
  clear hb
  go_wp2_with fail
  refine (implOnEaster _ _ _).mono ?_
  rintro e w6 ⟨rfl, hb⟩
  obtain ⟨x6, rfl⟩ := x5.next hb
  clear hb
  go_wp2_with fail
  refine (implOnEaster _ _ _).mono ?_
  rintro e w7 ⟨rfl, hb⟩
  obtain ⟨x7, rfl⟩ := x6.next hb
  clear hb
  go_wp2_with fail
  refine (implOnEaster _ _ _).mono ?_
  rintro e w8 ⟨rfl, hb⟩
  obtain ⟨x8, rfl⟩ := x7.next hb
  clear hb
  go_wp2_with fail
  refine (implOnEaster _ _ _).mono ?_
  rintro e w9 ⟨rfl, hb⟩
  obtain ⟨x9, rfl⟩ := x8.next hb
  clear hb
  go_wp2_with fail
  refine (implOnEaster _ _ _).mono ?_
  rintro e w10 ⟨rfl, hb⟩
  obtain ⟨x10, rfl⟩ := x9.next hb
  clear hb
  go_wp2_with fail
  refine (implMoving x10.w.heap.size 10 _ (by rw [sz_new]; omega) (fun k hk j hj => list_at (feaCells.take 50) x10.w _ (by rw [List.getElem?_take, if_pos (by omega)]; exact feaCell (by omega) hj))).mono ?_
  rintro e w11 ⟨v1, rfl, hr, hb⟩
  obtain ⟨g1, c1, rfl, hg1, hl1, hc1⟩ := cells_row hr (by omega)
  have hg1' : w.heap.size ≤ g1 := by rw [sz_new] at hg1; have := x10.below.size; omega
  obtain ⟨x11, rfl⟩ : ∃ x : Later w, w11 = x.w := ⟨⟨w11, (x10.below.alloc x10.below.size _).trans (hb.mono (by rw [sz_new]; have := x10.below.size; omega))⟩, rfl⟩
  have HC := hideP hc1
  clear hr hb hc1
  go_wp2_with fail
  refine (implOnDate _ _ _ _).mono ?_
  rintro e z1 ⟨rfl, hb⟩
  obtain ⟨y1, rfl⟩ := Later.of hb
  clear hb
  go_wp2_with fail
  refine (implOnDate _ _ _ _).mono ?_
  rintro e z2 ⟨rfl, hb⟩
  obtain ⟨y2, rfl⟩ := y1.next hb
  clear hb
  go_wp2_with fail
  refine (implOnDate _ _ _ _).mono ?_
  rintro e z3 ⟨rfl, hb⟩
  obtain ⟨y3, rfl⟩ := y2.next hb
  clear hb
  go_wp2_with fail
  refine (implOnDate _ _ _ _).mono ?_
  rintro e z4 ⟨rfl, hb⟩
  obtain ⟨y4, rfl⟩ := y3.next hb
  clear hb
  go_wp2_with fail
  refine (implOnDate _ _ _ _).mono ?_
  rintro e z5 ⟨rfl, hb⟩
  obtain ⟨y5, rfl⟩ := y4.next hb
  clear hb
  go_wp2_with fail
  refine (implOnDate _ _ _ _).mono ?_
  rintro e z6 ⟨rfl, hb⟩
  obtain ⟨y6, rfl⟩ := y5.next hb
  clear hb
  go_wp2_with fail
  refine (implOnDate _ _ _ _).mono ?_
  rintro e z7 ⟨rfl, hb⟩
  obtain ⟨y7, rfl⟩ := y6.next hb
  clear hb
  go_wp2_with fail
  refine (implOnDate _ _ _ _).mono ?_
  rintro e z8 ⟨rfl, hb⟩
  obtain ⟨y8, rfl⟩ := y7.next hb
  clear hb
  go_wp2_with fail
  refine (implOnDate _ _ _ _).mono ?_
  rintro e z9 ⟨rfl, hb⟩
  obtain ⟨y9, rfl⟩ := y8.next hb
  clear hb
  go_wp2_with fail
  refine (implOnDate _ _ _ _).mono ?_
  rintro e z10 ⟨rfl, hb⟩
  obtain ⟨y10, rfl⟩ := y9.next hb
  clear hb
  have HA : Hid (∀ t, Below x11.w.heap.size x11.w (y10.w.alloc (.cells (feaCells.drop 50).toArray t))) := fun t => y10.below.alloc y10.below.size _
  have hls : g1 < y10.w.heap.size + 1 := by have := y10.below.size; omega
  go_wp2_with fail
  refine (implWith g1 c1 y10.w.heap.size 10 _ (by rw [sz_new]; exact hls) (by rw [sz_new]; omega) (fun j u hj => ((HA.out _).cell (p := ⟨g1, j, none⟩) hl1).trans (HC.out j u hj)) (fun j u hj => ?_)).mono ?_
  · have h := cells_new5 y10.w (feaCells.drop 50) 78 rfl j u hj
    have ha : (⟨y10.w.heap.size, 0, none⟩ : Addr).add j = ⟨y10.w.heap.size, j, none⟩ := by unfold Addr.add; split <;> simp_all
    rw [ha] at h
    exact h
  rintro e w12 ⟨v, rfl, hr, hb⟩
  have hB0 : Below w.heap.size w (y10.w.alloc (.cells (feaCells.drop 50).toArray 78)) := x11.below.trans ((HA.out _).mono x11.below.size)
  have hB : Below w.heap.size w w12 := hB0.trans (hb.mono hB0.size)
  have hr' := own_mono5 hr hB0.size
  have HR := hideP hr'
  have HB := hideP hB
  clear hr hb hr' hB hB0
  go_wp2
  go_ret
  exact ⟨v, rfl, HR.out, HB.out⟩
end Go.Proofs.YtoofnjccpoeomaaGreatDoor.ctr

namespace Go.Proofs.YtoofnjccpoeomaaGreatDoor.ctr
open Go.RowKit

set_option maxHeartbeats 1000000 in
theorem specFind (s : ByteArray) (w : World) : Calls Tryz.prog 42 #[.string s] w fun e w' => e = .returned (.int .i64 (findFeast s)) ∧ Below w.heap.size w w' := by
  go_enter Tryz.func42, Tryz.ntmps42
  go_wp2_with fail
  refine (specFeasts _).mono ?_
  rintro e W1 ⟨v, rfl, hr, hb⟩
  obtain ⟨g, cap, rfl, hg, hc⟩ := hr.row
  have HC := hideP hc
  have HB := hideP hb
  clear hr hc hb
  go_wp2
  go_loopw [4] (fun i wr => ∃ k : Nat, k ≤ 20 ∧ i = .int .i64 (k : Int) ∧ Hid (findFrom s (feasts.drop k) k = findFeast s) ∧ W1 = wr) (fun i _ => 20 - (intOf i).toNat)
  case atStart => exact ⟨0, Nat.zero_le _, rfl, rfl, rfl⟩
  case round =>
    obtain ⟨k, hk, rfl, HF, rfl⟩ := hrel
    by_cases hlt : k < 20
    · have c0 := HC.out k hlt 0 (by omega)
      have K1 := hideP (fun h => find_hit hlt h HF.out)
      have K2 := hideP (fun h => find_miss hlt h HF.out)
      have hsz := feaAt_size0 ⟨k, hlt⟩
      dsimp only at hsz
      generalize feaAt k = f at *
      obtain ⟨n, mv, o, m, d⟩ := f
      simp only [Fea.cs, List.getElem?_cons_zero, Nat.add_zero] at c0
      cases hq : (n.toList == s.toList)
      · have HN := hideP (K2.out (str_ne hq))
        go_wp2
        exact ⟨⟨k + 1, by omega, by go_num, HN.out, by first | rfl | trivial⟩, by simp [intOf]; omega⟩
      · have HN := hideP (K1.out (str_eq hq))
        go_wp2
        go_ret
        exact ⟨ret_int HN.out.symm, HB.out⟩
    · have HN := hideP (find_end (by omega) HF.out)
      go_wp2
      go_ret
      exact ⟨ret_int HN.out.symm, HB.out⟩

set_option maxHeartbeats 1000000 in
theorem implFind (s : ByteArray) (w : World) : Calls Tryz.prog 72 #[.string s] w fun e w' => e = .returned (.int .i64 (findFeast s)) ∧ Below w.heap.size w w' := by
  go_enter Tryz.func72, Tryz.ntmps72
  go_wp2_with fail
  refine (implFeasts _).mono ?_
  rintro e W1 ⟨v, rfl, hr, hb⟩
  obtain ⟨g, cap, rfl, hg, hc⟩ := hr.row
  have HC := hideP hc
  have HB := hideP hb
  clear hr hc hb
  go_wp2
  go_loopw [7] (fun i wr => ∃ k : Nat, k ≤ 20 ∧ i = .int .i64 (k : Int) ∧ Hid (findFrom s (feasts.drop k) k = findFeast s) ∧ Below W1.heap.size W1 wr) (fun i _ => 20 - (intOf i).toNat)
  case atStart => exact ⟨0, Nat.zero_le _, rfl, rfl, Below.refl _ _⟩
  case round =>
    obtain ⟨k, hk, rfl, HF, hBr⟩ := hrel
    have HR := hideP hBr
    clear hBr
    by_cases hlt : k < 20
    · have c0 := (HR.out.cell (p := ⟨g, k * 5 + 0, none⟩) hg).trans (HC.out k hlt 0 (by omega))
      have c1 := (HR.out.cell (p := ⟨g, k * 5 + 1, none⟩) hg).trans (HC.out k hlt 1 (by omega))
      have c2 := (HR.out.cell (p := ⟨g, k * 5 + 2, none⟩) hg).trans (HC.out k hlt 2 (by omega))
      have c3 := (HR.out.cell (p := ⟨g, k * 5 + 3, none⟩) hg).trans (HC.out k hlt 3 (by omega))
      have c4 := (HR.out.cell (p := ⟨g, k * 5 + 4, none⟩) hg).trans (HC.out k hlt 4 (by omega))
      have K1 := hideP (fun h => find_hit hlt h HF.out)
      have K2 := hideP (fun h => find_miss hlt h HF.out)
      have hsz := feaAt_size0 ⟨k, hlt⟩
      dsimp only at hsz
      generalize feaAt k = f at *
      obtain ⟨n, mv, o, m, d⟩ := f
      simp only [Fea.cs, List.getElem?_cons_zero, List.getElem?_cons_succ, Nat.add_zero] at c0 c1 c2 c3 c4
      cases hq : (n.toList == s.toList)
      · have HN := hideP (K2.out (str_ne hq))
        go_wp2
        exact ⟨⟨k + 1, by omega, by go_num, HN.out, HR.out.alloc HR.out.size _⟩, by simp [intOf]; omega⟩
      · have HN := hideP (K1.out (str_eq hq))
        go_wp2
        go_ret
        exact ⟨ret_int HN.out.symm, HB.out.trans ((HR.out.alloc HR.out.size _).mono HB.out.size)⟩
    · have HN := hideP (find_end (by omega) HF.out)
      go_wp2
      go_ret
      exact ⟨ret_int HN.out.symm, HB.out.trans (HR.out.mono HB.out.size)⟩
end Go.Proofs.YtoofnjccpoeomaaGreatDoor.ctr

namespace Go.Proofs.YtoofnjccpoeomaaGreatDoor.ctr
open Go.RowKit

/-- a .. z. -/
def lowB (c : UInt8) : Bool := inB c.toNat 97 122
def lows (s : ByteArray) (k : Nat) : Bool := (s.data.toList.take k).all lowB
def nameOk (s : ByteArray) : Bool := inB s.size 1 16 && lows s s.size
theorem lows_succ (s : ByteArray) (k : Nat) (h : k < s.size) (h1 : lows s k = true) (h2 : lowB s[k] = true) : lows s (k + 1) = true := by
  unfold lows at *
  rw [take_snoc s k h, List.all_append, h1]
  simp [h2]
theorem lows_stop (s : ByteArray) (k : Nat) (h : k < s.size) (h2 : lowB s[k] = false) : nameOk s = false := by
  have : lows s s.size = false := by
    unfold lows
    rw [List.all_eq_false]
    refine ⟨s[k], ?_, by simp [h2]⟩
    rw [List.take_of_length_le (show s.data.toList.length ≤ s.size from Nat.le_refl _)]
    exact List.getElem_mem (l := s.data.toList) (n := k) h
  simp [nameOk, this]
theorem lows_done (s : ByteArray) (k : Nat) (h : k = s.size) (h1 : lows s k = true) : nameOk s = inB s.size 1 16 := by
  subst h
  simp [nameOk, h1]

set_option maxHeartbeats 400000 in
theorem implNameOk (s : ByteArray) (w : World) (hs : s.size ≤ maxLen) :
    Calls Tryz.prog 176 #[.string s] w fun e w' => e = .returned (.bool (nameOk s)) ∧ w' = w := by
  unfold maxLen at hs
  by_cases h1 : s.size < 1
  · have HB : Hid (nameOk s = false) := by unfold Hid nameOk; rw [inB_false (.inl (by omega))]; rfl
    go_enter Tryz.func176, Tryz.ntmps176
    go_wp2
    go_ret
    exact ⟨ret_bool HB.out.symm, rfl⟩
  by_cases h2 : 16 < s.size
  · have HB : Hid (nameOk s = false) := by unfold Hid nameOk; rw [inB_false (.inr (by omega))]; rfl
    go_enter Tryz.func176, Tryz.ntmps176
    go_wp2
    go_ret
    exact ⟨ret_bool HB.out.symm, rfl⟩
  go_enter Tryz.func176, Tryz.ntmps176
  go_wp2
  go_loop [14] (fun i => ∃ k : Nat, k ≤ s.size ∧ i = .int .i64 k ∧ lows s k = true) (fun i => s.size - (intOf i).toNat)
  case atStart => exact ⟨0, Nat.zero_le _, rfl, by simp [lows]⟩
  case round =>
    obtain ⟨k, hk, rfl, hl⟩ := hrel
    have HL : Hid (lows s k = true) := hl
    clear hl
    by_cases hlt : k < s.size
    · by_cases c1 : (s[k].toNat : Int) < 97
      · have HB : Hid (nameOk s = false) := lows_stop s k hlt (inB_false (.inl c1))
        go_wp2
        go_ret
        exact ⟨ret_bool HB.out.symm, rfl⟩
      · by_cases c2 : 122 < (s[k].toNat : Int)
        · have HB : Hid (nameOk s = false) := lows_stop s k hlt (inB_false (.inr c2))
          go_wp2
          go_ret
          exact ⟨ret_bool HB.out.symm, rfl⟩
        · have HN : Hid (lows s (k + 1) = true) := lows_succ s k hlt HL.out (inB_true (by omega) (by omega))
          go_wp2
          exact ⟨⟨k + 1, by omega, by go_num, HN.out⟩, by simp [intOf]; omega⟩
    · have HD : Hid (nameOk s = true) := by unfold Hid; rw [lows_done s k (by omega) HL.out, inB_true (by omega) (by omega)]
      go_wp2
      go_ret
      exact ⟨ret_bool HD.out.symm, rfl⟩
end Go.Proofs.YtoofnjccpoeomaaGreatDoor.ctr

namespace Go.Proofs.YtoofnjccpoeomaaGreatDoor.ctr
open Go.RowKit

/-- A feast that is one. -/
def feaOk (s : ByteArray) (mv : Bool) (o m d : Int) : Bool := nameOk s && (if mv = true then inB o (-63) 63 && decide (m = 0) && decide (d = 0) else decide (o = 0) && inB d 1 (monthDays 1 1999 m))
/-- Its day in a year. -/
def feaDay (c y : Int) (s : ByteArray) (mv : Bool) (o m d : Int) : Int := if feaOk s mv o m d = true ∧ yearP c y then (if mv = true then easter c y + o else dayOf c y m d) else 0
def Fea.ok (f : Fea) : Bool := feaOk f.name f.mv f.off f.m f.d
def Fea.day (f : Fea) (c y : Int) : Int := feaDay c y f.name f.mv f.off f.m f.d

theorem inB_iff {x a b : Int} : inB x a b = true ↔ a ≤ x ∧ x ≤ b := by simp [inB]
theorem days1 (m : Int) : monthDays 1 1999 m = monthDays 1 1 m := by
  by_cases h : 1 ≤ m ∧ m ≤ 12
  · rw [monthDays_plain (.inr rfl) h.1 h.2 (by rw [leap_gre]; omega), monthDays_plain (.inr rfl) h.1 h.2 (by rw [leap_gre]; omega)]
  · rw [monthDays_no (fun k => h k.2), monthDays_no (fun k => h k.2)]
theorem days_le {c : Int} (hc : c = 0 ∨ c = 1) (y m : Int) : monthDays 1 1999 m ≤ monthDays c y m := by
  by_cases h : 1 ≤ m ∧ m ≤ 12
  · rw [monthDays_plain (.inr rfl) h.1 h.2 (by rw [leap_gre]; omega)]
    by_cases hl : m = 2 ∧ leapP c y
    · rw [hl.1, monthDays_leap hc hl.2]
      decide
    · rw [monthDays_plain hc h.1 h.2 hl]
      omega
  · rw [monthDays_no (fun k => h k.2), monthDays_no (fun k => h k.2)]
    omega
theorem fixed_date {c y m d : Int} (hy : yearP c y) (h : inB d 1 (monthDays 1 1999 m) = true) : dateP c y m d := by
  have h1 := inB_iff.1 h
  have := days_le hy.1 y m
  exact ⟨hy.1, hy.2.1, hy.2.2, h1.1, by omega⟩
theorem fixed_day {c y m d : Int} (hy : yearP c y) (h : inB d 1 (monthDays 1 1999 m) = true) : dayOf c y m d = first c y + before c y (m - 1).toNat + d - 1 := by
  unfold dayOf
  rw [if_pos (fixed_date hy h)]
theorem easter_near {c y : Int} (h : yearP c y) : 0 < easter c y ∧ easter c y ≤ 3000000 := by
  have h1 := easter_fact h
  have h2 := march_b h
  rw [easter_eq h]
  omega
theorem feaDay_b (c y : Int) (s : ByteArray) (mv : Bool) (o m d : Int) : -3000 ≤ feaDay c y s mv o m d ∧ feaDay c y s mv o m d ≤ 3001000 := by
  unfold feaDay
  split
  · rename_i h
    cases mv
    · rw [if_neg (by decide)]
      have := dayOf_bound c y m d
      omega
    · rw [if_pos rfl]
      have h1 := easter_near h.2
      have h2 : inB o (-63) 63 = true := by
        have := h.1
        simp [feaOk] at this
        exact this.2.1.1
      have := inB_iff.1 h2
      omega
  · omega
theorem Fea.day_b (f : Fea) (c y : Int) : -3000 ≤ f.day c y ∧ f.day c y ≤ 3001000 := feaDay_b ..
theorem feaDay_no {c y : Int} {s : ByteArray} {mv : Bool} {o m d : Int} (h : feaOk s mv o m d = false) : feaDay c y s mv o m d = 0 := by
  unfold feaDay
  rw [if_neg (by rw [h]; simp)]
theorem feaDay_noYear {c y : Int} {s : ByteArray} {mv : Bool} {o m d : Int} (h : ¬ yearP c y) : feaDay c y s mv o m d = 0 := by
  unfold feaDay
  rw [if_neg (fun k => h k.2)]
theorem feaDay_mv {c y : Int} {s : ByteArray} {o m d : Int} (h : feaOk s true o m d = true) (hy : yearP c y) : feaDay c y s true o m d = easter c y + o := by
  unfold feaDay
  rw [if_pos ⟨h, hy⟩, if_pos rfl]
theorem feaDay_fix {c y : Int} {s : ByteArray} {o m d : Int} (h : feaOk s false o m d = true) (hy : yearP c y) : feaDay c y s false o m d = dayOf c y m d := by
  unfold feaDay
  rw [if_pos ⟨h, hy⟩, if_neg (by decide)]
theorem ok_mv {s : ByteArray} {o m d : Int} (h : feaOk s true o m d = true) : -63 ≤ o ∧ o ≤ 63 := by
  simp [feaOk] at h
  exact inB_iff.1 h.2.1.1
theorem ok_fix {s : ByteArray} {o m d : Int} (h : feaOk s false o m d = true) : inB d 1 (monthDays 1 1999 m) = true := by
  simp [feaOk] at h
  exact h.2.2

/-- The names of the first k feasts that are on day n of year y. -/
def onTo (c y n : Int) (k : Nat) : List ByteArray := ((feasts.take k).filter fun f => decide (f.day c y = n)).map Fea.name
theorem take_at (k : Nat) (h : k < 20) : feasts.take (k + 1) = feasts.take k ++ [feaAt k] := by
  rw [List.take_succ_eq_append_getElem (show k < feasts.length from h)]
  unfold feaAt
  rw [List.getD, List.getElem?_eq_getElem (show k < feasts.length from h)]
  rfl
theorem onTo_hit {c y n : Int} {k : Nat} (h : k < 20) (hn : (feaAt k).day c y = n) : onTo c y n (k + 1) = onTo c y n k ++ [(feaAt k).name] := by
  unfold onTo
  rw [take_at k h, List.filter_append, List.map_append]
  simp [hn]
theorem onTo_miss {c y n : Int} {k : Nat} (h : k < 20) (hn : (feaAt k).day c y ≠ n) : onTo c y n (k + 1) = onTo c y n k := by
  unfold onTo
  rw [take_at k h, List.filter_append, List.map_append]
  simp [hn]
theorem onTo_len (c y n : Int) (k : Nat) (h : k ≤ 20) : (onTo c y n k).length ≤ 20 := by
  unfold onTo
  rw [List.length_map]
  refine Nat.le_trans (List.length_filter_le _ _) ?_
  rw [List.length_take]
  omega

/-- The last feast of a kind among the first k that is not behind day n, and its day. -/
def lastStep (c y n : Int) (mv : Bool) (a : ByteArray × Int) (f : Fea) : ByteArray × Int := if f.mv = mv ∧ f.day c y ≤ n ∧ (a.1.size = 0 ∨ a.2 < f.day c y) then (f.name, f.day c y) else a
def lastTo (c y n : Int) (mv : Bool) (k : Nat) : ByteArray × Int := (feasts.take k).foldl (lastStep c y n mv) (⟨#[]⟩, 0)
theorem lastTo_succ (c y n : Int) (mv : Bool) (k : Nat) (h : k < 20) : lastTo c y n mv (k + 1) = lastStep c y n mv (lastTo c y n mv k) (feaAt k) := by
  unfold lastTo
  rw [take_at k h, List.foldl_append]
  rfl
theorem last_spec (c y n : Int) (mv : Bool) : ∀ k, k ≤ 20 → lastTo c y n mv k = (⟨#[]⟩, 0) ∨ ∃ i, i < k ∧ lastTo c y n mv k = ((feaAt i).name, (feaAt i).day c y) ∧ (feaAt i).mv = mv ∧ (feaAt i).day c y ≤ n
  | 0, _ => .inl rfl
  | k + 1, h => by
    rw [lastTo_succ _ _ _ _ _ (by omega)]
    unfold lastStep
    split
    · rename_i hk
      exact .inr ⟨k, by omega, rfl, hk.1, hk.2.1⟩
    · rcases last_spec c y n mv k (by omega) with e | ⟨i, hi, e, e2⟩
      · exact .inl e
      · exact .inr ⟨i, by omega, e, e2⟩
theorem last_b (c y n : Int) (mv : Bool) (k : Nat) (h : k ≤ 20) : (lastTo c y n mv k).1.size ≤ 16 ∧ -3000 ≤ (lastTo c y n mv k).2 ∧ (lastTo c y n mv k).2 ≤ 3001000 := by
  have hs : ∀ i : Fin 20, (feaAt i.val).name.size ≤ 16 := by decide
  rcases last_spec c y n mv k h with e | ⟨i, hi, e, _⟩
  · rw [e]
    refine ⟨by decide, ?_⟩
    simp
  · rw [e]
    exact ⟨hs ⟨i, by omega⟩, Fea.day_b _ c y⟩
theorem feaAt_size : ∀ i : Fin 20, (feaAt i.val).name.size ≤ 16 := by decide
theorem feaAt_some : ∀ i : Fin 20, (feaAt i.val).name.size ≠ 0 := by decide
theorem feaAt_ok : ∀ i : Fin 20, (feaAt i.val).ok = true := by decide
theorem feaAt_find : ∀ i : Fin 20, findFeast (feaAt i.val).name = (i.val : Int) := by decide
end Go.Proofs.YtoofnjccpoeomaaGreatDoor.ctr

namespace Go.Proofs.YtoofnjccpoeomaaGreatDoor.ctr
open Go.RowKit

/-- A world with a feast's block at its end, and what comes behind it. -/
theorem fea_box (w : World) (s : ByteArray) (mv : Bool) (o m d : Int) (t : TypeId) : ∃ W0, W0 = w.alloc (.cells #[.string s, .bool mv, .int .i64 o, .int .i64 m, .int .i64 d] t) ∧ (∀ x : Later W0, x.w.cell? ⟨w.heap.size, 0, none⟩ = some (.string s)) ∧ (∀ x : Later W0, x.w.cell? ⟨w.heap.size, 1, none⟩ = some (.bool mv)) ∧ (∀ x : Later W0, x.w.cell? ⟨w.heap.size, 2, none⟩ = some (.int .i64 o)) ∧ (∀ x : Later W0, x.w.cell? ⟨w.heap.size, 3, none⟩ = some (.int .i64 m)) ∧ (∀ x : Later W0, x.w.cell? ⟨w.heap.size, 4, none⟩ = some (.int .i64 d)) ∧ ∀ x : Later W0, Below w.heap.size w x.w :=
  ⟨_, rfl, Later.new rfl 0 rfl, Later.new rfl 1 rfl, Later.new rfl 2 rfl, Later.new rfl 3 rfl, Later.new rfl 4 rfl, fun x => below_alloc x.below⟩
theorem later_same {W w' : World} (h : w' = W) : ∃ x : Later W, w' = x.w := ⟨⟨w', by rw [h]; exact Below.refl _ _⟩, rfl⟩

theorem implNamed (s : ByteArray) (mv : Bool) (o m d : Int) (w : World) (hs : s.size ≤ maxLen) : Calls Tryz.prog 170 #[.agg #[.string s, .bool mv, .int .i64 o, .int .i64 m, .int .i64 d]] w fun e w' => e = .returned (.bool (nameOk s)) ∧ Below w.heap.size w w' := by
  have KN : ∀ W, Calls Tryz.prog 176 #[.string s] W fun e w' => e = .returned (.bool (nameOk s)) ∧ w' = W := fun W => implNameOk s W hs
  clear hs
  go_enter Tryz.func170, Tryz.ntmps170
  go_wp2_with fail
  refine (KN _).mono ?_
  rintro e w1 ⟨rfl, rfl⟩
  go_wp2
  go_ret
  exact ⟨rfl, (Below.refl _ _).alloc (Nat.le_refl _) _⟩
theorem implDateIn (s : ByteArray) (mv : Bool) (o m d c y : Int) (w : World) : Calls Tryz.prog 177 #[.agg #[.string s, .bool mv, .int .i64 o, .int .i64 m, .int .i64 d], .int .i64 c, .int .i64 y] w fun e w' => e = .returned (.agg #[.int .i64 c, .int .i64 y, .int .i64 m, .int .i64 d]) ∧ Below w.heap.size w w' := by
  go_enter Tryz.func177, Tryz.ntmps177
  go_wp2
  go_returns
  refine ⟨rfl, ?_⟩
  go_grown

set_option maxHeartbeats 1000000 in
theorem implMovOk (s : ByteArray) (o m d : Int) (w : World) (hs : s.size ≤ maxLen) : Calls Tryz.prog 174 #[.agg #[.string s, .bool true, .int .i64 o, .int .i64 m, .int .i64 d]] w fun e w' => e = .returned (.bool (feaOk s true o m d)) ∧ Below w.heap.size w w' := by
  have KN : ∀ W, Calls Tryz.prog 170 #[.agg #[.string s, .bool true, .int .i64 o, .int .i64 m, .int .i64 d]] W fun e w' => e = .returned (.bool (nameOk s)) ∧ Below W.heap.size W w' := fun W => implNamed s true o m d W hs
  obtain ⟨W0, hW0, c0, c1, c2, c3, c4, hBl⟩ := fea_box w s true o m d 113
  have HW0 := hideP hW0
  have HBl := hideP hBl
  clear hW0 hBl
  clear hs
  unfold feaOk
  rw [if_pos rfl]
  generalize nameOk s = nb at *
  cases nb
  · rw [Bool.false_and]
    go_enter Tryz.func174, Tryz.ntmps174
    go_wp2_with fail
    rw [← HW0.out]
    refine (KN _).mono ?_
    rintro e w1 ⟨rfl, hb⟩
    obtain ⟨x1, rfl⟩ := Later.of hb
    clear hb
    go_wp2
    go_ret
    exact ⟨rfl, HBl.out x1⟩
  rw [Bool.true_and]
  by_cases hm : m = 0
  case neg =>
    have hm' : (m == 0) = false := by simp [hm]
    have HR : Hid ((inB o (-63) 63 && decide (m = 0) && decide (d = 0)) = false) := by unfold Hid; rw [decide_eq_false hm, Bool.and_false, Bool.false_and]
    rw [HR.out]
    go_enter Tryz.func174, Tryz.ntmps174
    go_wp2_with fail
    rw [← HW0.out]
    refine (KN _).mono ?_
    rintro e w1 ⟨rfl, hb⟩
    obtain ⟨x1, rfl⟩ := Later.of hb
    clear hb
    go_wp2
    go_ret
    exact ⟨rfl, HBl.out x1⟩
  subst hm
  by_cases hd : d = 0
  case neg =>
    have hd' : (d == 0) = false := by simp [hd]
    have HR : Hid ((inB o (-63) 63 && decide ((0 : Int) = 0) && decide (d = 0)) = false) := by unfold Hid; rw [decide_eq_false hd, Bool.and_false]
    rw [HR.out]
    go_enter Tryz.func174, Tryz.ntmps174
    go_wp2_with fail
    rw [← HW0.out]
    refine (KN _).mono ?_
    rintro e w1 ⟨rfl, hb⟩
    obtain ⟨x1, rfl⟩ := Later.of hb
    clear hb
    go_wp2
    go_ret
    exact ⟨rfl, HBl.out x1⟩
  subst hd
  by_cases h1 : -63 ≤ o
  case neg =>
    have HR : Hid ((inB o (-63) 63 && decide ((0 : Int) = 0) && decide ((0 : Int) = 0)) = false) := by unfold Hid; rw [inB_false (.inl (by omega))]; rfl
    rw [HR.out]
    go_enter Tryz.func174, Tryz.ntmps174
    go_wp2_with fail
    rw [← HW0.out]
    refine (KN _).mono ?_
    rintro e w1 ⟨rfl, hb⟩
    obtain ⟨x1, rfl⟩ := Later.of hb
    clear hb
    go_wp2
    go_ret
    exact ⟨rfl, HBl.out x1⟩
  by_cases h2 : o ≤ 63
  case neg =>
    have HR : Hid ((inB o (-63) 63 && decide ((0 : Int) = 0) && decide ((0 : Int) = 0)) = false) := by unfold Hid; rw [inB_false (.inr (by omega))]; rfl
    rw [HR.out]
    go_enter Tryz.func174, Tryz.ntmps174
    go_wp2_with fail
    rw [← HW0.out]
    refine (KN _).mono ?_
    rintro e w1 ⟨rfl, hb⟩
    obtain ⟨x1, rfl⟩ := Later.of hb
    clear hb
    go_wp2
    go_ret
    exact ⟨ret_bool (decide_eq_false (by omega)), HBl.out x1⟩
  have HR : Hid ((inB o (-63) 63 && decide ((0 : Int) = 0) && decide ((0 : Int) = 0)) = true) := by unfold Hid; rw [inB_true h1 h2]; rfl
  rw [HR.out]
  go_enter Tryz.func174, Tryz.ntmps174
  go_wp2_with fail
  rw [← HW0.out]
  refine (KN _).mono ?_
  rintro e w1 ⟨rfl, hb⟩
  obtain ⟨x1, rfl⟩ := Later.of hb
  clear hb
  go_wp2
  go_ret
  exact ⟨rfl, HBl.out x1⟩

theorem fix_date (m d : Int) : dateOk 1 1 m d = inB d 1 (monthDays 1 1999 m) := by
  rw [days1]
  by_cases h : 1 ≤ d ∧ d ≤ monthDays 1 1 m
  · rw [inB_true h.1 h.2, dateOk_true ⟨.inr rfl, by omega, by omega, h.1, h.2⟩]
  · rw [inB_false (by omega), dateOk_false (fun k => h ⟨k.2.2.2.1, k.2.2.2.2⟩)]
set_option maxHeartbeats 1000000 in
theorem implFixOk (s : ByteArray) (o m d : Int) (w : World) (hs : s.size ≤ maxLen) (hT : Tab w) : Calls Tryz.prog 175 #[.agg #[.string s, .bool false, .int .i64 o, .int .i64 m, .int .i64 d]] w fun e w' => e = .returned (.bool (feaOk s false o m d)) ∧ Below w.heap.size w w' := by
  have KN : ∀ W, Calls Tryz.prog 170 #[.agg #[.string s, .bool false, .int .i64 o, .int .i64 m, .int .i64 d]] W fun e w' => e = .returned (.bool (nameOk s)) ∧ Below W.heap.size W w' := fun W => implNamed s false o m d W hs
  have KI : ∀ W, Calls Tryz.prog 177 #[.agg #[.string s, .bool false, .int .i64 o, .int .i64 m, .int .i64 d], .int .i64 1, .int .i64 1] W fun e w' => e = .returned (.agg #[.int .i64 1, .int .i64 1, .int .i64 m, .int .i64 d]) ∧ Below W.heap.size W w' := implDateIn s false o m d 1 1
  obtain ⟨W0, hW0, c0, c1, c2, c3, c4, hBl⟩ := fea_box w s false o m d 78
  have HW0 := hideP hW0
  have HBl := hideP hBl
  clear hW0 hBl
  have KD : ∀ x : Later W0, Calls Tryz.prog 90 #[.agg #[.int .i64 1, .int .i64 1, .int .i64 m, .int .i64 d]] x.w fun e w' => e = .returned (.bool (inB d 1 (monthDays 1 1999 m))) ∧ Below x.w.heap.size x.w w' := fun x => by
    rw [← fix_date]
    exact implDateOk 1 1 m d x.w (hT.later (HBl.out x))
  clear hs hT
  unfold feaOk
  rw [if_neg (by decide)]
  generalize nameOk s = nb at *
  generalize inB d 1 (monthDays 1 1999 m) = bd at *
  cases nb
  · rw [Bool.false_and]
    go_enter Tryz.func175, Tryz.ntmps175
    go_wp2_with fail
    rw [← HW0.out]
    refine (KN _).mono ?_
    rintro e w1 ⟨rfl, hb⟩
    obtain ⟨x1, rfl⟩ := Later.of hb
    clear hb
    go_wp2
    go_ret
    exact ⟨rfl, HBl.out x1⟩
  rw [Bool.true_and]
  by_cases ho : o = 0
  · subst ho
    rw [decide_eq_true rfl, Bool.true_and]
    go_enter Tryz.func175, Tryz.ntmps175
    go_wp2_with fail
    rw [← HW0.out]
    refine (KN _).mono ?_
    rintro e w1 ⟨rfl, hb⟩
    obtain ⟨x1, rfl⟩ := Later.of hb
    clear hb
    go_wp2_with fail
    refine (KI _).mono ?_
    rintro e w2 ⟨rfl, hb⟩
    obtain ⟨x2, rfl⟩ := x1.next hb
    clear hb
    go_wp2_with fail
    refine (KD _).mono ?_
    rintro e w3 ⟨rfl, hb⟩
    obtain ⟨x3, rfl⟩ := x2.next hb
    clear hb
    go_wp2
    go_ret
    exact ⟨rfl, HBl.out x3⟩
  · have ho' : (o == 0) = false := by simp [ho]
    rw [decide_eq_false ho, Bool.false_and]
    go_enter Tryz.func175, Tryz.ntmps175
    go_wp2_with fail
    rw [← HW0.out]
    refine (KN _).mono ?_
    rintro e w1 ⟨rfl, hb⟩
    obtain ⟨x1, rfl⟩ := Later.of hb
    clear hb
    go_wp2
    go_ret
    exact ⟨rfl, HBl.out x1⟩

set_option maxHeartbeats 1000000 in
theorem implFeaOk (s : ByteArray) (mv : Bool) (o m d : Int) (w : World) (hs : s.size ≤ maxLen) (hT : Tab w) : Calls Tryz.prog 173 #[.agg #[.string s, .bool mv, .int .i64 o, .int .i64 m, .int .i64 d]] w fun e w' => e = .returned (.bool (feaOk s mv o m d)) ∧ Below w.heap.size w w' := by
  obtain ⟨W0, hW0, c0, c1, c2, c3, c4, hBl⟩ := fea_box w s mv o m d 78
  have HW0 := hideP hW0
  have HBl := hideP hBl
  clear hW0 hBl
  have KT : ∀ x : Later W0, Tab x.w := fun x => hT.later (HBl.out x)
  obtain ⟨x0, hx0⟩ := Later.of (Below.refl W0.heap.size W0)
  cases mv
  · have K := implFixOk s o m d x0.w hs (KT x0)
    clear hs hT KT
    generalize feaOk s false o m d = r at *
    go_enter Tryz.func173, Tryz.ntmps173
    go_wp2_with fail
    rw [← HW0.out]
    refine (show Calls _ _ _ W0 _ from by rw [hx0]; exact K).mono ?_
    rintro e w1 ⟨rfl, hb⟩
    obtain ⟨x1, rfl⟩ := x0.next hb
    clear hb
    go_wp2
    go_ret
    exact ⟨rfl, HBl.out x1⟩
  · have K := implMovOk s o m d x0.w hs
    clear hs hT KT
    generalize feaOk s true o m d = r at *
    go_enter Tryz.func173, Tryz.ntmps173
    go_wp2_with fail
    rw [← HW0.out]
    refine (show Calls _ _ _ W0 _ from by rw [hx0]; exact K).mono ?_
    rintro e w1 ⟨rfl, hb⟩
    obtain ⟨x1, rfl⟩ := x0.next hb
    clear hb
    go_wp2
    go_ret
    exact ⟨rfl, HBl.out x1⟩
end Go.Proofs.YtoofnjccpoeomaaGreatDoor.ctr
