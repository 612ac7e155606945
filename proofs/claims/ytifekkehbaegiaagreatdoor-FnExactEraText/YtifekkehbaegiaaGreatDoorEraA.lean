/- The nine eras as a plain list; their cells in a row; which one has a name. Contracts of both Eras: each answers the nine eras' cells, in a row of its own; nothing that was there turns. What a law is told of an era that comes in. Contracts of both EraOk: each answers its plain function at every era. The map of eras by name: its entries as a plain list; what a store of the next era and what a look-up of any text give. Contracts of the program's erasByName and of both FindEra: the map holds the nine eras by name; FindEra answers the number of the era that has the name, -1 for none. -/
import Derived.Test.YtifekkehbaegiaaGreatDoorBase
import Derived.Handy
import Derived.Laws.AppendOwn
import Derived.Laws.OwnMore
import Derived.OwnWalk
import Derived.RangeFuncBox
import Derived.Maps.AppendAt
import Derived.Test.YtifekkehbaegiaaGreatDoorBlkKit
import Derived.Lib.SmallJoins
import Derived.Test.YtifekkehbaegiaaGreatDoorStyBase
import Derived.Test.YtifekkehbaegiaaGreatDoorNameCtr
import Derived.Maps.Own
import Derived.Maps.OwnOps
import Derived.Maps.OwnSet
namespace Go.Proofs.YtifekkehbaegiaaGreatDoor.ctr
open Go.RowKit

/-- An era: its name, its style, what is added, its cycle. -/
structure Era where
  name : ByteArray
  st : Int
  add : Int
  cyc : Int
def Era.cs (f : Era) : List Value := [.string f.name, .int .i64 f.st, .int .i64 f.add, .int .i64 f.cyc]
def era0 : Era := ⟨⟨#[]⟩, 0, 0, 0⟩
def eras : List Era := [
  ⟨⟨#[97, 100]⟩, 0, 0, 0⟩,
  ⟨⟨#[105, 110, 99, 97, 114, 110, 97, 116, 105, 111, 110]⟩, 2, 0, 0⟩,
  ⟨⟨#[109, 117, 110, 100, 105]⟩, 5, 5508, 0⟩,
  ⟨⟨#[104, 105, 115, 112, 97, 110, 105, 97]⟩, 0, 38, 0⟩,
  ⟨⟨#[117, 114, 98, 105, 115]⟩, 0, 753, 0⟩,
  ⟨⟨#[105, 110, 100, 105, 99, 116, 105, 111, 110]⟩, 5, 3, 15⟩,
  ⟨⟨#[98, 101, 100, 97, 110]⟩, 6, 3, 15⟩,
  ⟨⟨#[103, 111, 108, 100, 101, 110]⟩, 0, 1, 19⟩,
  ⟨⟨#[115, 111, 108, 97, 114]⟩, 0, 9, 28⟩]
def eraAt (k : Nat) : Era := eras.getD k era0
def eraCells : List Value := eras.flatMap Era.cs
theorem eraAt_size0 : ∀ i : Fin 9, (eraAt i.val).name.size ≤ 16 := by decide
theorem eras_len : eras.length = 9 := rfl
theorem eraCells_len : eraCells.length = 36 := rfl
theorem flat4 {j : Nat} (hj : j < 4) : ∀ (l : List Era) (k : Nat), k < l.length → (l.flatMap Era.cs)[k * 4 + j]? = (l.getD k era0).cs[j]?
  | [], k, h => by simp at h
  | f :: l, 0, _ => by
    rw [List.flatMap_cons, List.getElem?_append_left (by simp [Era.cs]; omega)]
    simp
  | f :: l, k + 1, h => by
    have ih := flat4 hj l k (by simpa using h)
    rw [List.flatMap_cons, List.getElem?_append_right (by simp [Era.cs]; omega), show (k + 1) * 4 + j - f.cs.length = k * 4 + j from by simp [Era.cs]; omega, ih]
    simp
theorem eraCell {k j : Nat} (hk : k < 9) (hj : j < 4) : eraCells[k * 4 + j]? = (eraAt k).cs[j]? := flat4 hj eras k hk

/-- The first of a list's eras, from number k on, that has this name; -1 for none. -/
def eraFrom (s : ByteArray) : List Era → Nat → Int
  | [], _ => -1
  | f :: l, k => if f.name = s then (k : Int) else eraFrom s l (k + 1)
def findEra (s : ByteArray) : Int := eraFrom s eras 0
theorem era_drop (k : Nat) (h : k < 9) : eras.drop k = eraAt k :: eras.drop (k + 1) := by
  rw [List.drop_eq_getElem_cons (show k < eras.length from h)]
  unfold eraAt
  rw [List.getD, List.getElem?_eq_getElem (show k < eras.length from h)]
  rfl
theorem era_hit {s : ByteArray} {k : Nat} (h : k < 9) (hn : (eraAt k).name = s) (hf : eraFrom s (eras.drop k) k = findEra s) : findEra s = k := by
  rw [← hf, era_drop k h, eraFrom, if_pos hn]
theorem era_miss {s : ByteArray} {k : Nat} (h : k < 9) (hn : (eraAt k).name ≠ s) (hf : eraFrom s (eras.drop k) k = findEra s) : eraFrom s (eras.drop (k + 1)) (k + 1) = findEra s := by
  rw [← hf, era_drop k h, eraFrom, if_neg hn]
theorem era_end {s : ByteArray} {k : Nat} (h : 9 ≤ k) (hf : eraFrom s (eras.drop k) k = findEra s) : findEra s = -1 := by
  rw [← hf, List.drop_eq_nil_of_le (by rw [eras_len]; exact h), eraFrom]
theorem eraFrom_cases (s : ByteArray) : ∀ (l : List Era) (k : Nat), (eraFrom s l k = -1 ∧ ∀ f ∈ l, f.name ≠ s) ∨ ∃ j, j < l.length ∧ eraFrom s l k = ((k + j : Nat) : Int) ∧ (l.getD j era0).name = s
  | [], _ => .inl ⟨rfl, by simp⟩
  | f :: l, k => by
    rw [eraFrom]
    split
    · rename_i h
      exact .inr ⟨0, by simp, by simp, by simpa using h⟩
    · rename_i h
      rcases eraFrom_cases s l (k + 1) with ⟨h1, h2⟩ | ⟨j, h1, h2, h3⟩
      · exact .inl ⟨h1, by intro g hg; rcases List.mem_cons.1 hg with rfl | hg; exact h; exact h2 g hg⟩
      · exact .inr ⟨j + 1, by simp; omega, by rw [h2]; congr 1; omega, by simpa using h3⟩
/-- A name is one of the nine's, with its number, or none's. -/
theorem find_cases (s : ByteArray) : findEra s = -1 ∨ ∃ k : Nat, k < 9 ∧ findEra s = (k : Int) ∧ (eraAt k).name = s := by
  rcases eraFrom_cases s eras 0 with ⟨h, _⟩ | ⟨j, h1, h2, h3⟩
  · exact .inl h
  · exact .inr ⟨j, h1, by unfold findEra; rw [h2]; congr 1; omega, h3⟩

/-- A slice value whose row g holds the nine eras' cells. -/
def EraRow (W : World) (v : Value) : Prop := ∃ g cap, v = .slice (some ⟨g, 0, none⟩) 9 cap ∧ g < W.heap.size ∧ ∀ k, k < 9 → ∀ j, j < 4 → W.cell? ⟨g, k * 4 + j, none⟩ = (eraAt k).cs[j]?
theorem EraRow.below {W W' : World} {v : Value} (h : EraRow W v) (hb : Below W.heap.size W W') : EraRow W' v := by
  obtain ⟨g, cap, rfl, hg, hc⟩ := h
  exact ⟨g, cap, rfl, Nat.lt_of_lt_of_le hg hb.size, fun k hk j hj => (hb.cell (p := ⟨g, k * 4 + j, none⟩) hg).trans (hc k hk j hj)⟩
/-- What Eras leaves: its answer is a row of its own with the eras' cells. -/
def EraOwn (w W : World) (v : Value) : Prop := W.ownsRow w.heap.size 25 4 v 9 eraCells
theorem EraOwn.row {w W : World} {v : Value} (h : EraOwn w W v) : EraRow W v := by
  rcases h.2 with ⟨_, h0⟩ | ⟨g, cap, cur, hv, hb, hh, hcap, _, hsz, htake⟩
  · simp at h0
  · subst hv
    refine ⟨g, cap, rfl, (Array.getElem?_eq_some_iff.1 hh).1, fun k hk j hj => ?_⟩
    rw [← eraCell hk hj, ← htake, List.getElem?_take, if_pos (by omega)]
    simp [World.cell?, hh]
theorem EraRow.at {W : World} {v : Value} (h : EraRow W v) : ∃ g cap, v = .slice (some ⟨g, 0, none⟩) 9 cap ∧ g < W.heap.size ∧ ∀ W', Below W.heap.size W W' → ∀ k, k < 9 → W'.cell? ⟨g, k * 4, none⟩ = some (.string (eraAt k).name) ∧ W'.cell? ⟨g, k * 4 + 1, none⟩ = some (.int .i64 (eraAt k).st) ∧ W'.cell? ⟨g, k * 4 + 2, none⟩ = some (.int .i64 (eraAt k).add) ∧ W'.cell? ⟨g, k * 4 + 3, none⟩ = some (.int .i64 (eraAt k).cyc) := by
  obtain ⟨g, cap, hv, hg, hc⟩ := h
  refine ⟨g, cap, hv, hg, fun W' hb k hk => ?_⟩
  have e := fun j hj => (hb.cell (p := ⟨g, k * 4 + j, none⟩) hg).trans (hc k hk j hj)
  exact ⟨e 0 (by omega), e 1 (by omega), e 2 (by omega), e 3 (by omega)⟩
theorem row_new4 {w W : World} {cs : Array Value} {t : TypeId} {n : Nat} {xs : List Value} (hb : w.heap.size ≤ W.heap.size) (hn : n ≤ maxLen) (hs : cs.size = n * 4) (hx : cs.toList = xs) :
    (W.alloc (.cells cs t)).ownsRow w.heap.size t 4 (.slice (some ⟨W.heap.size, 0, none⟩) n n) n xs := by
  have hl : xs.length = n * 4 := by rw [← hx, Array.length_toList, hs]
  exact ⟨hl, .inr ⟨W.heap.size, n, cs, rfl, hb, heap_alloc_new W _, Nat.le_refl _, hn, hs, by rw [hx, List.take_of_length_le (by omega)]⟩⟩
theorem enew (W : World) (o : Obj) : (W.alloc o).heap.size = W.heap.size + 1 := by simp [World.alloc, -World.alloc_eq]
end Go.Proofs.YtifekkehbaegiaaGreatDoor.ctr

namespace Go.Proofs.YtifekkehbaegiaaGreatDoor.ctr
open Go.RowKit

set_option maxRecDepth 100000 in
set_option maxHeartbeats 4000000 in
theorem specEras (w : World) : Calls Tryz.prog 49 #[] w fun e w' => ∃ v, e = .returned v ∧ EraOwn w w' v ∧ Below w.heap.size w w' := by
  go_enter Tryz.func49, Tryz.ntmps49
  go_wp2
  go_ret
  exact ⟨_, rfl, row_new4 (Nat.le_refl _) (by unfold maxLen; omega) rfl rfl, (Below.refl _ _).alloc (Nat.le_refl _) _⟩
set_option maxRecDepth 100000 in
set_option maxHeartbeats 4000000 in
theorem implEras (w : World) : Calls Tryz.prog 32 #[] w fun e w' => ∃ v, e = .returned v ∧ EraOwn w w' v ∧ Below w.heap.size w w' := by
  go_enter Tryz.func32, Tryz.ntmps32
  go_wp2
  go_ret
  exact ⟨_, rfl, row_new4 (Nat.le_refl _) (by unfold maxLen; omega) rfl rfl, (Below.refl _ _).alloc (Nat.le_refl _) _⟩
end Go.Proofs.YtifekkehbaegiaaGreatDoor.ctr

namespace Go.Proofs.YtifekkehbaegiaaGreatDoor.kit
open Go.RowKit Go.WideShapes Go.Deep

theorem four {α : Type} {cs : Array α} (h : cs.size = 4) : ∃ a b c d, cs = #[a, b, c, d] := by
  obtain ⟨l⟩ := cs
  match l, h with
  | [a, b, c, d], _ => exact ⟨a, b, c, d, rfl⟩
/-- A struct of a text and three ints that comes in by value is written out. -/
theorem open_era {H : Type} {enc : TypeId × Value → H} {P : Program} {w : World} {base : Nat} {sp : Nat → Bool} {held : Bool} {r : Reach} {b0 : Nat} {t : TypeId} {f0 f1 f2 f3 : Field} {v : Value} {dt : DataW H} {p : List MemPlace}
    (hs : P.underlying t = some (.struct #[f0, f1, f2, f3])) (hone : oneCellFields P #[f0, f1, f2, f3] = true) (hC : P.cellsOf t = 4) (u0 : P.underlying f0.type = some .string) (u1 : P.underlying f1.type = some (.int .i64)) (u2 : P.underlying f2.type = some (.int .i64)) (u3 : P.underlying f3.type = some (.int .i64))
    (hv : Value.okWide P w r b0 t v) (h : DataW.Trod enc P w base sp held t v dt p) :
    ∃ (s : ByteArray) (st ad cy : Int), v = .agg #[.string s, .int .i64 st, .int .i64 ad, .int .i64 cy] ∧ s.size ≤ maxLen ∧ (Lit.int .i64 st).wf = true ∧ (Lit.int .i64 ad).wf = true ∧ (Lit.int .i64 cy).wf = true := by
  obtain ⟨cs, rfl, hsz⟩ := okWide_struct hs hv
  obtain ⟨a, b, c, d, rfl⟩ := four (hsz.trans hC)
  obtain ⟨fuel, hf⟩ := h
  obtain ⟨xs, n, _, _, _, hlen, hg⟩ := DataW.trod_struct hs hf
  have k := hone_of hone
  obtain ⟨o0, k0⟩ := k 0 f0 rfl
  obtain ⟨o1, k1⟩ := k 1 f1 rfl
  obtain ⟨o2, k2⟩ := k 2 f2 rfl
  obtain ⟨o3, k3⟩ := k 3 f3 rfl
  match xs, hlen with
  | [y0, y1, y2, y3], _ =>
    have g0 := hg 0 f0 rfl
    have g1 := hg 1 f1 rfl
    have g2 := hg 2 f2 rfl
    have g3 := hg 3 f3 rfl
    simp only [Value.cells, o0, k0] at g0
    simp only [Value.cells, o1, k1] at g1
    simp only [Value.cells, o2, k2] at g2
    simp only [Value.cells, o3, k3] at g3
    obtain ⟨s, e0, _, hsm⟩ := DataW.trod_string u0 (by simpa using g0)
    obtain ⟨z1, e1, _, h1⟩ := DataW.trod_int u1 (by simpa using g1)
    obtain ⟨z2, e2, _, h2⟩ := DataW.trod_int u2 (by simpa using g2)
    obtain ⟨z3, e3, _, h3⟩ := DataW.trod_int u3 (by simpa using g3)
    simp only [List.cons.injEq, and_true] at e0 e1 e2 e3
    exact ⟨s, z1, z2, z3, by rw [e0, e1, e2, e3], hsm, h1, h2, h3⟩
end Go.Proofs.YtifekkehbaegiaaGreatDoor.kit
namespace Go.Proofs.YtifekkehbaegiaaGreatDoor.ctr
open Go.RowKit

def szE (n : Nat) : Int := if (1048576 : Int) < n then -1 else 1048576 - n
/-- A world with an era's block at its end, and what comes behind it. -/
theorem era_box (w : World) (s : ByteArray) (st ad cy : Int) (t : TypeId) : ∃ W0, W0 = w.alloc (.cells #[.string s, .int .i64 st, .int .i64 ad, .int .i64 cy] t) ∧ (∀ x : Later W0, x.w.cell? ⟨w.heap.size, 0, none⟩ = some (.string s)) ∧ (∀ x : Later W0, x.w.cell? ⟨w.heap.size, 1, none⟩ = some (.int .i64 st)) ∧ (∀ x : Later W0, x.w.cell? ⟨w.heap.size, 2, none⟩ = some (.int .i64 ad)) ∧ (∀ x : Later W0, x.w.cell? ⟨w.heap.size, 3, none⟩ = some (.int .i64 cy)) ∧ ∀ x : Later W0, Below w.heap.size w x.w :=
  ⟨_, rfl, Later.new rfl 0 rfl, Later.new rfl 1 rfl, Later.new rfl 2 rfl, Later.new rfl 3 rfl, fun x => below_alloc x.below⟩
end Go.Proofs.YtifekkehbaegiaaGreatDoor.ctr

namespace Go.Proofs.YtifekkehbaegiaaGreatDoor.ctr
open Go.RowKit

def cycB (c : Int) : Bool := decide (c = 0) || inB c 2 600
def eraOkB (s : ByteArray) (st add cyc : Int) : Bool := nameOk s && (styleB st && (inB add 0 9000 && cycB cyc))
theorem eraOk_parts {s : ByteArray} {st add cyc : Int} (h : eraOkB s st add cyc = true) : nameOk s = true ∧ styleP st ∧ 0 ≤ add ∧ add ≤ 9000 ∧ (cyc = 0 ∨ (2 ≤ cyc ∧ cyc ≤ 600)) := by
  unfold eraOkB cycB at h
  simp only [Bool.and_eq_true, Bool.or_eq_true, decide_eq_true_eq] at h
  obtain ⟨h1, h2, h3, h4⟩ := h
  have h3' : 0 ≤ add ∧ add ≤ 9000 := by unfold inB at h3; simpa using h3
  refine ⟨h1, of_decide_eq_true h2, h3'.1, h3'.2, ?_⟩
  rcases h4 with h4 | h4
  · exact .inl h4
  · right; unfold inB at h4; simpa using h4
theorem eraOk_nine : ∀ i : Fin 9, eraOkB (eraAt i.val).name (eraAt i.val).st (eraAt i.val).add (eraAt i.val).cyc = true := by decide +kernel
theorem eraOk_zero : eraOkB ⟨#[]⟩ 0 0 0 = false := by decide +kernel
theorem same_below {W w' : World} (h : w' = W) : Below W.heap.size W w' := by rw [h]; exact Below.refl _ _
theorem implCycleOk (c : Int) (w : World) : Calls Tryz.prog 60 #[.int .i64 c] w fun e w' => e = .returned (.bool (cycB c)) ∧ w' = w := by
  unfold cycB
  by_cases h0 : c = 0
  · subst h0
    rw [decide_eq_true rfl, Bool.true_or]
    go_enter Tryz.func60, Tryz.ntmps60
    go_wp2
    go_ret
    exact ⟨rfl, rfl⟩
  rw [decide_eq_false h0, Bool.false_or]
  have h0' : (c == 0) = false := by simp [h0]
  by_cases h1 : 2 ≤ c
  · by_cases h2 : c ≤ 600
    · rw [inB_true h1 h2]
      go_enter Tryz.func60, Tryz.ntmps60
      go_wp2
      go_ret
      exact ⟨rfl, rfl⟩
    · rw [inB_false (by omega)]
      have hd : decide (c ≤ 600) = false := decide_eq_false h2
      go_enter Tryz.func60, Tryz.ntmps60
      go_wp2
      go_ret
      exact ⟨rfl, rfl⟩
  · rw [inB_false (by omega)]
    have hd : decide (2 ≤ c) = false := decide_eq_false h1
    go_enter Tryz.func60, Tryz.ntmps60
    go_wp2
    go_ret
    exact ⟨rfl, rfl⟩

set_option maxHeartbeats 1000000 in
theorem implEraOk (s : ByteArray) (st ad cy : Int) (w : World) (hs : s.size ≤ maxLen) : Calls Tryz.prog 21 #[.agg #[.string s, .int .i64 st, .int .i64 ad, .int .i64 cy]] w fun e w' => e = .returned (.bool (eraOkB s st ad cy)) ∧ Below w.heap.size w w' := by
  have KN : ∀ W, Calls Tryz.prog 58 #[.string s] W fun e w' => e = .returned (.bool (nameOk s)) ∧ Below W.heap.size W w' := fun W => (implNameOk s W hs).mono fun _ _ h => ⟨h.1, same_below h.2⟩
  have KS : ∀ W, Calls Tryz.prog 59 #[.int .i64 st] W fun e w' => e = .returned (.bool (styleB st)) ∧ Below W.heap.size W w' := fun W => (implStyleOk st W).mono fun _ _ h => ⟨h.1, same_below h.2⟩
  have KC : ∀ W, Calls Tryz.prog 60 #[.int .i64 cy] W fun e w' => e = .returned (.bool (cycB cy)) ∧ Below W.heap.size W w' := fun W => (implCycleOk cy W).mono fun _ _ h => ⟨h.1, same_below h.2⟩
  obtain ⟨W0, hW0, c0, c1, c2, c3, hBl⟩ := era_box w s st ad cy 25
  have HW0 := hideP hW0
  have HBl := hideP hBl
  clear hs hW0 hBl
  unfold eraOkB
  generalize nameOk s = nb at *
  generalize styleB st = sb at *
  generalize cycB cy = cb at *
  cases nb
  · rw [Bool.false_and]
    go_enter Tryz.func21, Tryz.ntmps21
    go_wp2_with fail
    rw [← HW0.out]
    refine (KN _).mono ?_
    rintro e w1 ⟨rfl, hb⟩
    obtain ⟨x1, rfl⟩ := Later.of hb
    clear hb
    go_wp2
    go_ret
    exact ⟨rfl, HBl.out x1⟩
  rw [Bool.true_and]
  cases sb
  · rw [Bool.false_and]
    go_enter Tryz.func21, Tryz.ntmps21
    go_wp2_with fail
    rw [← HW0.out]
    refine (KN _).mono ?_
    rintro e w1 ⟨rfl, hb⟩
    obtain ⟨x1, rfl⟩ := Later.of hb
    clear hb
    go_wp2_with fail
    refine (KS _).mono ?_
    rintro e w2 ⟨rfl, hb⟩
    obtain ⟨x2, rfl⟩ := x1.next hb
    clear hb
    go_wp2
    go_ret
    exact ⟨rfl, HBl.out x2⟩
  rw [Bool.true_and]
  by_cases h1 : 0 ≤ ad
  case neg =>
    rw [inB_false (by omega), Bool.false_and]
    have hd : decide (0 ≤ ad) = false := decide_eq_false h1
    go_enter Tryz.func21, Tryz.ntmps21
    go_wp2_with fail
    rw [← HW0.out]
    refine (KN _).mono ?_
    rintro e w1 ⟨rfl, hb⟩
    obtain ⟨x1, rfl⟩ := Later.of hb
    clear hb
    go_wp2_with fail
    refine (KS _).mono ?_
    rintro e w2 ⟨rfl, hb⟩
    obtain ⟨x2, rfl⟩ := x1.next hb
    clear hb
    go_wp2
    go_ret
    exact ⟨rfl, HBl.out x2⟩
  by_cases h2 : ad ≤ 9000
  case neg =>
    rw [inB_false (by omega), Bool.false_and]
    have hd : decide (ad ≤ 9000) = false := decide_eq_false h2
    go_enter Tryz.func21, Tryz.ntmps21
    go_wp2_with fail
    rw [← HW0.out]
    refine (KN _).mono ?_
    rintro e w1 ⟨rfl, hb⟩
    obtain ⟨x1, rfl⟩ := Later.of hb
    clear hb
    go_wp2_with fail
    refine (KS _).mono ?_
    rintro e w2 ⟨rfl, hb⟩
    obtain ⟨x2, rfl⟩ := x1.next hb
    clear hb
    go_wp2
    go_ret
    exact ⟨rfl, HBl.out x2⟩
  rw [inB_true h1 h2, Bool.true_and]
  go_enter Tryz.func21, Tryz.ntmps21
  go_wp2_with fail
  rw [← HW0.out]
  refine (KN _).mono ?_
  rintro e w1 ⟨rfl, hb⟩
  obtain ⟨x1, rfl⟩ := Later.of hb
  clear hb
  go_wp2_with fail
  refine (KS _).mono ?_
  rintro e w2 ⟨rfl, hb⟩
  obtain ⟨x2, rfl⟩ := x1.next hb
  clear hb
  go_wp2_with fail
  refine (KC _).mono ?_
  rintro e w3 ⟨rfl, hb⟩
  obtain ⟨x3, rfl⟩ := x2.next hb
  clear hb
  go_wp2
  go_ret
  exact ⟨rfl, HBl.out x3⟩

set_option maxHeartbeats 1000000 in
theorem specEraOk (s : ByteArray) (st ad cy : Int) (w : World) (hs : s.size ≤ maxLen) : Calls Tryz.prog 22 #[.agg #[.string s, .int .i64 st, .int .i64 ad, .int .i64 cy]] w fun e w' => e = .returned (.bool (eraOkB s st ad cy)) ∧ Below w.heap.size w w' := by
  have KN : ∀ W, Calls Tryz.prog 61 #[.string s] W fun e w' => e = .returned (.bool (nameOk s)) ∧ Below W.heap.size W w' := fun W => (specNameOk s W hs).mono fun _ _ h => ⟨h.1, same_below h.2⟩
  have KS : ∀ W, Calls Tryz.prog 62 #[.int .i64 st] W fun e w' => e = .returned (.string (styText st)) ∧ Below W.heap.size W w' := fun W => specStyleName st W
  have KA : ∀ W, Calls Tryz.prog 45 #[.int .i64 ad, .int .i64 0, .int .i64 9000] W fun e w' => e = .returned (.bool (inB ad 0 9000)) ∧ Below W.heap.size W w' := fun W => (l01In ad 0 9000 W).mono fun _ _ h => ⟨h.1, same_below h.2⟩
  have KC : ∀ W, Calls Tryz.prog 45 #[.int .i64 cy, .int .i64 2, .int .i64 600] W fun e w' => e = .returned (.bool (inB cy 2 600)) ∧ Below W.heap.size W w' := fun W => (l01In cy 2 600 W).mono fun _ _ h => ⟨h.1, same_below h.2⟩
  obtain ⟨W0, hW0, c0, c1, c2, c3, hBl⟩ := era_box w s st ad cy 25
  have HW0 := hideP hW0
  have HBl := hideP hBl
  clear hs hW0 hBl
  unfold eraOkB cycB
  generalize nameOk s = nb at *
  generalize inB ad 0 9000 = ab at *
  generalize inB cy 2 600 = cb at *
  cases nb
  · rw [Bool.false_and]
    go_enter Tryz.func22, Tryz.ntmps22
    go_wp2_with fail
    rw [← HW0.out]
    refine (KN _).mono ?_
    rintro e w1 ⟨rfl, hb⟩
    obtain ⟨x1, rfl⟩ := Later.of hb
    clear hb
    go_wp2
    go_ret
    exact ⟨rfl, HBl.out x1⟩
  rw [Bool.true_and]
  by_cases hs : styleP st
  case neg =>
    rw [styleB_false hs, Bool.false_and]
    have hE := styText_none hs
    generalize styText st = t at *
    go_enter Tryz.func22, Tryz.ntmps22
    go_wp2_with fail
    rw [← HW0.out]
    refine (KN _).mono ?_
    rintro e w1 ⟨rfl, hb⟩
    obtain ⟨x1, rfl⟩ := Later.of hb
    clear hb
    go_wp2_with fail
    refine (KS _).mono ?_
    rintro e w2 ⟨rfl, hb⟩
    obtain ⟨x2, rfl⟩ := x1.next hb
    clear hb
    go_wp2
    go_ret
    exact ⟨rfl, HBl.out x2⟩
  rw [styleB_true hs, Bool.true_and]
  have hE := styText_some hs
  generalize styText st = t at *
  cases ab
  · rw [Bool.false_and]
    go_enter Tryz.func22, Tryz.ntmps22
    go_wp2_with fail
    rw [← HW0.out]
    refine (KN _).mono ?_
    rintro e w1 ⟨rfl, hb⟩
    obtain ⟨x1, rfl⟩ := Later.of hb
    clear hb
    go_wp2_with fail
    refine (KS _).mono ?_
    rintro e w2 ⟨rfl, hb⟩
    obtain ⟨x2, rfl⟩ := x1.next hb
    clear hb
    go_wp2_with fail
    refine (KA _).mono ?_
    rintro e w3 ⟨rfl, hb⟩
    obtain ⟨x3, rfl⟩ := x2.next hb
    clear hb
    go_wp2
    go_ret
    exact ⟨rfl, HBl.out x3⟩
  rw [Bool.true_and]
  by_cases h0 : cy = 0
  · subst h0
    rw [decide_eq_true rfl, Bool.true_or]
    go_enter Tryz.func22, Tryz.ntmps22
    go_wp2_with fail
    rw [← HW0.out]
    refine (KN _).mono ?_
    rintro e w1 ⟨rfl, hb⟩
    obtain ⟨x1, rfl⟩ := Later.of hb
    clear hb
    go_wp2_with fail
    refine (KS _).mono ?_
    rintro e w2 ⟨rfl, hb⟩
    obtain ⟨x2, rfl⟩ := x1.next hb
    clear hb
    go_wp2_with fail
    refine (KA _).mono ?_
    rintro e w3 ⟨rfl, hb⟩
    obtain ⟨x3, rfl⟩ := x2.next hb
    clear hb
    go_wp2
    go_ret
    exact ⟨rfl, HBl.out x3⟩
  have h0' : (cy == 0) = false := by simp [h0]
  rw [decide_eq_false h0, Bool.false_or]
  go_enter Tryz.func22, Tryz.ntmps22
  go_wp2_with fail
  rw [← HW0.out]
  refine (KN _).mono ?_
  rintro e w1 ⟨rfl, hb⟩
  obtain ⟨x1, rfl⟩ := Later.of hb
  clear hb
  go_wp2_with fail
  refine (KS _).mono ?_
  rintro e w2 ⟨rfl, hb⟩
  obtain ⟨x2, rfl⟩ := x1.next hb
  clear hb
  go_wp2_with fail
  refine (KA _).mono ?_
  rintro e w3 ⟨rfl, hb⟩
  obtain ⟨x3, rfl⟩ := x2.next hb
  clear hb
  go_wp2_with fail
  refine (KC _).mono ?_
  rintro e w4 ⟨rfl, hb⟩
  obtain ⟨x4, rfl⟩ := x3.next hb
  clear hb
  go_wp2
  go_ret
  exact ⟨rfl, HBl.out x4⟩
end Go.Proofs.YtifekkehbaegiaaGreatDoor.ctr

namespace Go.Proofs.YtifekkehbaegiaaGreatDoor.ctr
open Go.RowKit Go.ChangeMaps

/-- An era with its number, as the map holds it. -/
def placed (f : Era) (k : Nat) : Value := .agg #[.string f.name, .int .i64 f.st, .int .i64 f.add, .int .i64 f.cyc, .int .i64 (k : Int)]
def entsFrom : List Era → Nat → List MapEntry
  | [], _ => []
  | f :: l, k => ⟨.string f.name, placed f k, k⟩ :: entsFrom l (k + 1)
def ents (k : Nat) : Array MapEntry := (entsFrom (eras.take k) 0).toArray
theorem ents_succ : ∀ k : Nat, k < 9 → ents (k + 1) = (ents k).push ⟨.string (eraAt k).name, placed (eraAt k) k, k⟩
  | 0, _ => rfl
  | 1, _ => rfl
  | 2, _ => rfl
  | 3, _ => rfl
  | 4, _ => rfl
  | 5, _ => rfl
  | 6, _ => rfl
  | 7, _ => rfl
  | 8, _ => rfl
  | k + 9, h => by omega
theorem beqS (a b : ByteArray) : (a == b) = decide (a = b) := by
  rw [Bool.eq_iff_iff]
  obtain ⟨a⟩ := a
  obtain ⟨b⟩ := b
  show (a == b) = true ↔ decide ((⟨a⟩ : ByteArray) = ⟨b⟩) = true
  simp
theorem sameS (a b : ByteArray) : Instr.sameNow .string (.string a) (.string b) = some (decide (a = b)) := by
  show some (a == b) = _
  rw [beqS]
theorem find_miss1 (s : ByteArray) (f : Era) (k i : Nat) (l : List MapEntry) (h : s ≠ f.name) : Instr.findNow .string (.string s) (⟨.string f.name, placed f k, k⟩ :: l) i = Instr.findNow .string (.string s) l (i + 1) := by
  rw [Instr.findNow]
  simp only [sameS, decide_eq_false h]
theorem find_hit1 (s : ByteArray) (f : Era) (k i : Nat) (l : List MapEntry) (h : s = f.name) : Instr.findNow .string (.string s) (⟨.string f.name, placed f k, k⟩ :: l) i = some (some (i, placed f k)) := by
  rw [Instr.findNow]
  simp only [sameS, decide_eq_true h]
theorem find_both (s : ByteArray) : ∀ (l : List Era) (k i : Nat), (eraFrom s l k = -1 ∧ Instr.findNow .string (.string s) (entsFrom l k) i = some none) ∨ ∃ j, j < l.length ∧ eraFrom s l k = ((k + j : Nat) : Int) ∧ (l.getD j era0).name = s ∧ Instr.findNow .string (.string s) (entsFrom l k) i = some (some (i + j, placed (l.getD j era0) (k + j)))
  | [], _, _ => .inl ⟨rfl, rfl⟩
  | f :: l, k, i => by
    rw [eraFrom, entsFrom]
    by_cases h : f.name = s
    · rw [if_pos h]
      exact .inr ⟨0, by simp, by simp, by simpa using h, find_hit1 s f k i _ h.symm⟩
    · rw [if_neg h, find_miss1 s f k i _ (fun e => h e.symm)]
      rcases find_both s l (k + 1) (i + 1) with ⟨h1, h2⟩ | ⟨j, h1, h2, h3, h4⟩
      · exact .inl ⟨h1, h2⟩
      · refine .inr ⟨j + 1, by simp; omega, by rw [h2]; congr 1; omega, by simpa using h3, ?_⟩
        rw [h4, show k + 1 + j = k + (j + 1) by omega, show i + 1 + j = i + (j + 1) by omega]
        simp
/-- The map's block, with the first k eras in it. -/
def MapAt (w : World) (M k : Nat) : Prop := w.heap[M]? = some (.map (ents k) k)
theorem MapAt.lt {w : World} {M k : Nat} (h : MapAt w M k) : M < w.heap.size := (Array.getElem?_eq_some_iff.1 h).1
theorem MapAt.below {w w' : World} {M k B : Nat} (h : MapAt w M k) (hb : Below B w w') (hM : M < B) : MapAt w' M k := (hb.block M hM).trans h
theorem MapAt.grown {w w' : World} {M k : Nat} {r : Option Nat} (h : MapAt w M k) (hb : w.grownBy w' r) (hM : r ≠ some M) : MapAt w' M k := (hb.block M h.lt (fun e => hM e.symm)).trans h
theorem run_check (P : Program) (K : TypeId) (hk : P.underlying K = some .string) (b : Bool) (s : ByteArray) (w : World) : (Instr.checkKey b 10000 K (.string s)).run P w = .ok () w := by
  rw [show (10000 : Nat) = 9999 + 1 from rfl, Instr.checkKey]
  generalize (9999 : Nat) = q
  simp [run_underlying hk, Result.andThen]
theorem run_find (P : Program) (K : TypeId) (hk : P.underlying K = some .string) (s : ByteArray) (es : List MapEntry) (r : Option (Nat × Value)) (h : Instr.findNow .string (.string s) es 0 = some r) (w : World) : (Instr.findKey K (.string s) es).run P w = .ok r w := by
  simp [Instr.findKey, run_underlying hk, h, Result.andThen]

theorem apart : ∀ k : Fin 9, ∀ j : Fin 9, j.val < k.val → (eraAt j.val).name ≠ (eraAt k.val).name := by decide
theorem find_none (s : ByteArray) : ∀ (l : List Era) (k i : Nat), (∀ f ∈ l, s ≠ f.name) → Instr.findNow .string (.string s) (entsFrom l k) i = some none
  | [], _, _, _ => rfl
  | f :: l, k, i, h => by
    rw [entsFrom, find_miss1 s f k i _ (h f (by simp))]
    exact find_none s l (k + 1) (i + 1) (fun g hg => h g (by simp [hg]))
theorem find_new (k : Nat) (hk : k < 9) : Instr.findNow .string (.string (eraAt k).name) (ents k).toList 0 = some none := by
  refine find_none _ _ _ _ (fun f hf e => ?_)
  obtain ⟨j, hj, hg⟩ := List.mem_iff_getElem.1 hf
  have hj' : j < k := by rw [List.length_take] at hj; omega
  rw [List.getElem_take] at hg
  refine apart ⟨k, hk⟩ ⟨j, by omega⟩ hj' ?_
  show (eraAt j).name = (eraAt k).name
  rw [e, ← hg]
  unfold eraAt
  rw [List.getD, List.getElem?_eq_getElem (show j < eras.length from by rw [eras_len]; omega)]
  rfl

theorem under_map : Tryz.prog.underlying 72 = some (.map 9 71) := by kernel_rfl
theorem under_str : Tryz.prog.underlying 9 = some .string := by kernel_rfl
/-- The next era is stored: one entry more, nothing else turns. -/
theorem run_put (w : World) (M k : Nat) (hk : k < 9) (h : MapAt w M k) : ∃ w', (Instr.mapUpdate 72 (.map (some M)) (.string (eraAt k).name) (placed (eraAt k) k)).run Tryz.prog w = .ok () w' ∧ MapAt w' M (k + 1) ∧ w.grownBy w' (some M) := by
  unfold MapAt at h
  refine ⟨setBlock w M (.map (ents (k + 1)) (k + 1)), ?_, ?_, ⟨rfl, rfl, rfl, by simp [setBlock], fun i _ hi => heap_setBlock_other h _ (fun e => hi (by rw [e]))⟩⟩
  · rw [ents_succ k hk]
    simp [Instr.mapUpdate, run_underlying under_map, MapKept.run_getObj_map h, run_check _ _ under_str, run_find _ _ under_str _ _ _ (find_new k hk), MapKept.run_setObj_map _ h, Result.andThen, setBlock]
  · exact heap_setBlock_same h _
/-- A look-up of any text in the whole map. -/
theorem run_look (w : World) (M : Nat) (h : MapAt w M 9) (s : ByteArray) :
    (findEra s = -1 ∧ ∀ c : Bool, (Instr.lookup 72 (.map (some M)) (.string s) c).run Tryz.prog w = .ok (if c then .tuple #[placed era0 0, .bool false] else placed era0 0) w) ∨
    ∃ k : Nat, k < 9 ∧ findEra s = (k : Int) ∧ (eraAt k).name = s ∧ ∀ c : Bool, (Instr.lookup 72 (.map (some M)) (.string s) c).run Tryz.prog w = .ok (if c then .tuple #[placed (eraAt k) k, .bool true] else placed (eraAt k) k) w := by
  unfold MapAt at h
  have he : (ents 9).toList = entsFrom eras 0 := rfl
  rcases find_both s eras 0 0 with ⟨h1, h2⟩ | ⟨j, h1, h2, h3, h4⟩
  · refine .inl ⟨h1, fun c => ?_⟩
    simp [Instr.lookup, run_underlying under_map, MapKept.run_getObj_map h, run_check _ _ under_str, he, run_find _ _ under_str _ _ _ h2, Result.andThen]
    rfl
  · refine .inr ⟨j, h1, by unfold findEra; rw [h2]; congr 1; omega, h3, fun c => ?_⟩
    rw [Nat.zero_add] at h4
    have h5 : Instr.findNow .string (.string s) (entsFrom eras 0) 0 = some (some (j, placed (eraAt j) j)) := h4
    simp [Instr.lookup, run_underlying under_map, MapKept.run_getObj_map h, run_check _ _ under_str, he, run_find _ _ under_str _ _ _ h5, Result.andThen]
/-- A store into a map at the operation, for the walk. -/
theorem wpList_put {P : Program} (w w' : World) {ops : Array Oper} {rest : List Oper} {o : Oper} {a : Act} {Q : Exit → Act → World → Prop}
    (hg : o.guard = none) (m x v : Operand) (t : TypeId) (hop : o.op = Op.mapUpdate t m x v) (mv key val : Value) (hm : a.eval m = mv) (hx : a.eval x = key) (hv : a.eval v = val)
    (hrun : (Instr.mapUpdate t mv key val).run P w = .ok () w') (hK : wpList P ops Q rest (a.put o.dst undef) w') : wpList P ops Q (o :: rest) a w := by
  refine wpList_plain hg fun K' hK' => ?_
  unfold Oper.wp
  simp [execOp, hop, hm, hx, hv, hrun, Result.andThen]
  exact hK' _ _ hK
end Go.Proofs.YtifekkehbaegiaaGreatDoor.ctr

namespace Go.Proofs.YtifekkehbaegiaaGreatDoor.ctr
open Go.RowKit

theorem egrown {W wr W2 : World} {M : Nat} {o : Obj} (h : W.grownBy wr (some M)) (h2 : (wr.alloc o).grownBy W2 (some M)) : W.grownBy W2 (some M) :=
  ⟨h2.os.trans h.os, h2.tape.trans h.tape, h2.output.trans h.output, Nat.le_trans h.size (Nat.le_trans (by rw [enew]; omega) h2.size), fun j hj hn => (h2.block j (by rw [enew]; have := h.size; omega) hn).trans ((Below.heap_alloc wr o j (Nat.lt_of_lt_of_le hj h.size)).trans (h.block j hj hn))⟩
set_option maxRecDepth 100000 in
set_option maxHeartbeats 2000000 in
theorem implMap (w : World) : Calls Tryz.prog 52 #[] w fun e w' => ∃ M, e = .returned (.map (some M)) ∧ MapAt w' M 9 ∧ w.heap.size ≤ M ∧ Below w.heap.size w w' := by
  have hmm := @run_makeMap Tryz.prog
  go_enter Tryz.func52, Tryz.ntmps52
  go_wp2_with fail
  refine (implEras _).mono ?_
  rintro e W1 ⟨v, rfl, hr, hb⟩
  obtain ⟨g, cap, rfl, hg, H⟩ := hr.row.at
  have HC := hideP H
  have hM : MapAt (w.alloc (.map #[] 0)) w.heap.size 0 := heap_alloc_new w _
  have HM1 := hideP (hM.below hb hM.lt)
  have HB1 := hideP (below_alloc hb)
  have hgM : w.heap.size < g := by
    rcases hr.2 with ⟨_, h0⟩ | ⟨g', _, _, hv, hb', _⟩
    · simp at h0
    · rw [enew] at hb'
      simp at hv
      omega
  clear hr hb H hM hmm
  go_wp2
  go_loopw [7] (fun i wr => ∃ k : Nat, k ≤ 9 ∧ i = .int .i64 (k : Int) ∧ MapAt wr w.heap.size k ∧ Below w.heap.size w wr ∧ W1.grownBy wr (some w.heap.size)) (fun i _ => 9 - (intOf i).toNat)
  case atStart => exact ⟨0, Nat.zero_le _, rfl, HM1.out, HB1.out, ⟨rfl, rfl, rfl, Nat.le_refl _, fun _ _ _ => rfl⟩⟩
  case round =>
    obtain ⟨k, hk, rfl, hM, hB, hG⟩ := hrel
    have HM := hideP hM
    have HB := hideP hB
    have HG := hideP hG
    clear hM hB hG
    by_cases hlt : k < 9
    · have hne : some g ≠ some w.heap.size := by simp; omega
      obtain ⟨d0, d1, d2, d3⟩ := HC.out W1 (Below.refl _ _) k hlt
      have c0 := HG.out.cell d0 hne
      have c1 := HG.out.cell d1 hne
      have c2 := HG.out.cell d2 hne
      have c3 := HG.out.cell d3 hne
      have HP : Hid (∀ W, MapAt W w.heap.size k → ∃ w', (Instr.mapUpdate 72 (.map (some w.heap.size)) (.string (eraAt k).name) (placed (eraAt k) k)).run Tryz.prog W = .ok () w' ∧ MapAt w' w.heap.size (k + 1) ∧ W.grownBy w' (some w.heap.size)) := fun W h => run_put W w.heap.size k hlt h
      clear d0 d1 d2 d3 hne
      generalize eraAt k = f at *
      obtain ⟨s, st, ad, cy⟩ := f
      dsimp only at c0 c1 c2 c3
      obtain ⟨W2, hr2, hM2, hG2⟩ := HP.out (wr.alloc (.cells #[.string s, .int .i64 st, .int .i64 ad, .int .i64 cy] 25)) ((Below.heap_alloc wr _ _ HM.out.lt).trans HM.out)
      have HR2 := hideP hr2
      have HM2 := hideP hM2
      have HG2 := hideP hG2
      clear hr2 hM2 hG2
      go_wp2_with (at_mapUpdate; refine wpList_put _ W2 rfl _ _ _ 72 rfl _ _ _ rfl rfl rfl HR2.out ?_)
      refine ⟨⟨k + 1, by omega, by go_num, HM2.out, (HB.out.alloc HB.out.size _).grown HG2.out (by have := HB.out.size; rw [enew]; omega) (fun j hj => by cases hj; exact Nat.le_refl _), egrown HG.out HG2.out⟩, by simp [intOf]; omega⟩
    · have hkn : k = 9 := by omega
      subst hkn
      go_wp2
      go_ret
      exact ⟨_, rfl, HM.out, Nat.le_refl _, HB.out⟩

set_option maxHeartbeats 1000000 in
theorem specFindEra (s : ByteArray) (w : World) : Calls Tryz.prog 24 #[.string s] w fun e w' => e = .returned (.int .i64 (findEra s)) ∧ Below w.heap.size w w' := by
  go_enter Tryz.func24, Tryz.ntmps24
  go_wp2_with fail
  refine (specEras _).mono ?_
  rintro e W1 ⟨v, rfl, hr, hb⟩
  obtain ⟨g, cap, rfl, hg, H⟩ := hr.row.at
  have HC := hideP H
  have HB := hideP hb
  clear hr H hb
  go_wp2
  go_loopw [4] (fun i wr => ∃ k : Nat, k ≤ 9 ∧ i = .int .i64 (k : Int) ∧ Hid (eraFrom s (eras.drop k) k = findEra s) ∧ W1 = wr) (fun i _ => 9 - (intOf i).toNat)
  case atStart => exact ⟨0, Nat.zero_le _, rfl, rfl, rfl⟩
  case round =>
    obtain ⟨k, hk, rfl, HF, rfl⟩ := hrel
    by_cases hlt : k < 9
    · obtain ⟨c0, _⟩ := HC.out W1 (Below.refl _ _) k hlt
      have K1 := hideP (fun h => era_hit hlt h HF.out)
      have K2 := hideP (fun h => era_miss hlt h HF.out)
      have hsz := eraAt_size0 ⟨k, hlt⟩
      dsimp only at hsz
      generalize (eraAt k).name = n at *
      cases hq : (n.toList == s.toList)
      · have HN := hideP (K2.out (str_ne hq))
        go_wp2
        exact ⟨⟨k + 1, by omega, by go_num, HN.out, by first | rfl | trivial⟩, by simp [intOf]; omega⟩
      · have HN := hideP (K1.out (str_eq hq))
        go_wp2
        go_ret
        exact ⟨ret_int HN.out.symm, HB.out⟩
    · have HN := hideP (era_end (by omega) HF.out)
      go_wp2
      go_ret
      exact ⟨ret_int HN.out.symm, HB.out⟩

set_option maxHeartbeats 1000000 in
theorem implFindEra (s : ByteArray) (w : World) : Calls Tryz.prog 23 #[.string s] w fun e w' => e = .returned (.int .i64 (findEra s)) ∧ Below w.heap.size w w' := by
  go_enter Tryz.func23, Tryz.ntmps23
  go_wp2_with fail
  refine (implMap _).mono ?_
  rintro e W1 ⟨M, rfl, hM, hg, hb⟩
  have HB := hideP hb
  clear hb
  rcases run_look W1 M hM s with ⟨hf, hr⟩ | ⟨k, hk, hf, hn, hr⟩
  · have h1 := hr true
    simp only [if_true, placed, era0] at h1
    clear hr hM
    go_wp2
    go_ret
    exact ⟨ret_int hf.symm, HB.out.alloc HB.out.size _⟩
  · have h1 := hr true
    have HF := hideP hf
    simp only [if_true, placed] at h1
    clear hr hM hn hf
    generalize eraAt k = f at *
    obtain ⟨n, st, ad, cy⟩ := f
    dsimp only at h1
    go_wp2
    go_ret
    exact ⟨ret_int HF.out.symm, HB.out.alloc HB.out.size _⟩
end Go.Proofs.YtifekkehbaegiaaGreatDoor.ctr
