/- A row of ints in a block, whatever lies behind it: what is read of it, what a store, a sort, a clearing make of it; what a pass that keeps some of them leaves. The program's dayIn of each kind, whenDays and patchedDays: the days that a saying may lead to. What the program makes of the days that it gathers: those that can be meant, put in order, none twice: they are the model's. Plain, of no program. slices.IndexFunc and slices.DeleteFunc at the closure of impl.DaysSaid$1, which makes memory at each call: what it keeps, in order, at the head of the row. What the laws of chapter 5 use besides: four listed variables; the contracts of the laws' own toDate, eqDate, toRoman and eqRoman. -/
import Derived.Test.YtjojgfdfbkmlkaaGreatDoorJnDbh
import Derived.Sort.Row
import Derived.Sort.Grow
import Derived.Lib.LazyBuf
import Derived.Test.YtjojgfdfbkmlkaaGreatDoorJnDbj
import Derived.Test.YtjojgfdfbkmlkaaGreatDoorWhnKndD
import Derived.Test.YtjojgfdfbkmlkaaGreatDoorRomDayD
import Derived.PlainAid
import Derived.Lib.SlicesCompact
import Derived.Lib.SliceRun
import Derived.Shelf.Abstract
import Derived.Deep.CutRange
import Derived.Test.YtjojgfdfbkmlkaaGreatDoorJnDac
import Derived.Test.YtjojgfdfbkmlkaaGreatDoorJnDaa
namespace Go.Proofs.YtjojgfdfbkmlkaaGreatDoor.ctr
open Go.RowKit
def RowI (W : World) (g : Nat) (xs : List Int) : Prop := ∃ cs t, Blk W g cs t ∧ ∀ j, j < xs.length → cs[j]? = some (.int .i64 (xs.getD j 0))
theorem RowI.cell {W : World} {g : Nat} {xs : List Int} (h : RowI W g xs) {j : Nat} (hj : j < xs.length) : W.cell? ⟨g, j, none⟩ = some (.int .i64 (xs.getD j 0)) := by
  obtain ⟨cs, t, hb, hc⟩ := h
  exact hb.cell j (hc j hj)
theorem RowI.thaw {W : World} {g : Nat} {xs : List Int} (h : RowI W g xs) (j : Nat) : W.frozen? ⟨g, j, none⟩ = false := by
  obtain ⟨cs, t, hb, hc⟩ := h
  exact hb.thaw j
theorem RowI.lt {W : World} {g : Nat} {xs : List Int} (h : RowI W g xs) : g < W.heap.size := by
  obtain ⟨cs, t, hb, hc⟩ := h
  exact hb.lt
theorem RowI.below {W W' : World} {g : Nat} {xs : List Int} (h : RowI W g xs) (hb : Below W.heap.size W W') : RowI W' g xs := by
  obtain ⟨cs, t, hk, hc⟩ := h
  exact ⟨cs, t, hk.below hb hk.lt, hc⟩
theorem RowI.set {W : World} {g : Nat} {xs : List Int} (h : RowI W g xs) {i : Nat} (hi : i < xs.length) (u : Int) : RowI (W.setCell ⟨g, i, none⟩ (.int .i64 u)) g (xs.set i u) := by
  obtain ⟨cs, t, hb, hc⟩ := h
  refine ⟨_, t, hb.set i _, fun j hj => ?_⟩
  rw [List.length_set] at hj
  have hs : i < cs.size := by
    by_cases k : i < cs.size
    · exact k
    · have := hc i hi
      rw [Array.getElem?_eq_none (by omega)] at this
      cases this
  by_cases e : i = j
  · subst e
    rw [Array.getElem?_setIfInBounds_self_of_lt hs]
    simp [List.getD, hi]
  · rw [Array.getElem?_setIfInBounds_ne e, hc j hj]
    simp [List.getD, List.getElem?_set_ne e]
theorem RowI.take {W : World} {g : Nat} {xs : List Int} (h : RowI W g xs) (k : Nat) : RowI W g (xs.take k) := by
  obtain ⟨cs, t, hb, hc⟩ := h
  refine ⟨cs, t, hb, fun j hj => ?_⟩
  rw [List.length_take] at hj
  rw [hc j (by omega)]
  simp [List.getD, show j < k by omega]
theorem blk_setCells {g : Nat} {t : TypeId} : ∀ (vs : List Value) (o : Nat) (w : World) (cs : Array Value), Blk w g cs t → ∃ cs', Blk (w.setCells g o vs) g cs' t ∧ ∀ j, j < o → cs'[j]? = cs[j]?
  | [], o, w, cs, h => ⟨cs, h, fun _ _ => rfl⟩
  | v :: vs, o, w, cs, h => by
    obtain ⟨cs', h1, h2⟩ := blk_setCells vs (o + 1) (w.setCell ⟨g, o, none⟩ v) _ (h.set o v)
    exact ⟨cs', h1, fun j hj => by rw [h2 j (by omega), Array.getElem?_setIfInBounds_ne (by omega)]⟩
theorem RowI.clear {W : World} {g : Nat} {xs : List Int} (h : RowI W g xs) {k : Nat} (vs : List Value) : RowI (W.setCells g k vs) g (xs.take k) := by
  obtain ⟨cs, t, hb, hc⟩ := h
  obtain ⟨cs', h1, h2⟩ := blk_setCells vs k W cs hb
  refine ⟨cs', t, h1, fun j hj => ?_⟩
  rw [List.length_take] at hj
  rw [h2 j (by omega), hc j (by omega)]
  simp [List.getD, show j < k by omega]
theorem RowI.holds {W : World} {g : Nat} {xs : List Int} (h : RowI W g xs) : Sort.Holds (Value.int .i64) W g 0 xs.toArray := fun j hj => by
  have hj' : j < xs.length := by simpa using hj
  rw [Nat.zero_add]
  refine ⟨?_, h.thaw j⟩
  rw [h.cell hj']
  simp [List.getD, hj', getElem!_pos]
theorem blk_map {w : World} {g : Nat} {cs : Array Value} {t : TypeId} (h : Blk w g cs t) (f : Array Value → Array Value) : Blk (Sort.mapBlock w g f) g (f cs) t := by
  unfold Blk at h ⊢
  simp [Sort.mapBlock, Array.getElem?_modify, h, Sort.onCells]
theorem below_map {B : Nat} {w W : World} {g : Nat} (h : Below B w W) (hg : B ≤ g) (f : Array Value → Array Value) : Below B w (Sort.mapBlock W g f) :=
  ⟨h.os, h.tape, h.output, by show _ ≤ (W.heap.modify g _).size; rw [Array.size_modify]; exact h.size, fun k hk => by
    show (W.heap.modify g _)[k]? = _
    rw [Array.getElem?_modify, if_neg (by omega)]
    exact h.block k hk⟩
theorem below_ahead {B : Nat} {w W : World} (h : Below B w W) (n : Nat) : Below B w (Sort.ahead W n) := ⟨h.os, h.tape, h.output, h.size, h.block⟩
theorem below_grow {B : Nat} {w W : World} (h : Below B w W) (hB : B ≤ W.heap.size) (os : Array Obj) : Below B w (Sort.grow W os) :=
  ⟨h.os, h.tape, h.output, Nat.le_trans h.size (by show _ ≤ (W.heap ++ os).size; rw [Array.size_append]; omega), fun k hk => by
    show (W.heap ++ os)[k]? = _
    rw [Array.getElem?_append_left (by omega)]
    exact h.block k hk⟩
theorem RowI.put {W : World} {g : Nat} {xs ys : List Int} (h : RowI W g xs) (hl : ys.length = xs.length) (n : Nat) : RowI (Sort.putRow (Value.int .i64) (Sort.ahead W n) g 0 ys.toArray) g ys := by
  have hh := Sort.cell?_putRow (Value.int .i64) (Sort.ahead W n) g 0 xs.toArray ys.toArray (Sort.holds_ahead _ _ n _ _ _ h.holds) (by simpa using hl)
  obtain ⟨cs, t, hb, _⟩ := h
  have hb' : Blk (Sort.ahead W n) g cs t := hb
  have hq := blk_map hb' (Sort.putCells (Value.int .i64) 0 ys.toArray)
  refine ⟨_, t, hq, fun j hj => ?_⟩
  have h1 := hh j (by simpa using hj)
  unfold Sort.putRow at h1
  unfold Blk at hq
  rw [Nat.zero_add] at h1
  unfold World.cell? at h1
  simp only [hq] at h1
  simpa [List.getD, hj, getElem!_pos] using h1
theorem RowI.grow {W : World} {g : Nat} {xs : List Int} (h : RowI W g xs) (os : Array Obj) : RowI (Sort.grow W os) g xs := h.below (below_grow (Below.refl _ _) (Nat.le_refl _) os)
theorem RowI.mov {w W : World} {g cap : Nat} {xs : List Int} (h : RowI W g xs) (hg : w.heap.size ≤ g) : MovRow w W (.slice (some ⟨g, 0, none⟩) xs.length cap) xs := by
  obtain ⟨cs, t, hb, hc⟩ := h
  refine ⟨_, cap, rfl, .inr ⟨g, t, (cs.toList.drop xs.length).toArray, rfl, hg, ?_⟩⟩
  have e : cs = ints xs ++ (cs.toList.drop xs.length).toArray := by
    have hs : xs.length ≤ cs.size := by
      by_cases k : xs.length ≤ cs.size
      · exact k
      · have := hc cs.size (by omega)
        rw [Array.getElem?_eq_none (Nat.le_refl _)] at this
        cases this
    apply Array.toList_inj.1
    rw [Array.toList_append]
    show cs.toList = (xs.map (Value.int .i64)) ++ cs.toList.drop xs.length
    have e1 : xs.map (Value.int .i64) = cs.toList.take xs.length := by
      apply List.ext_getElem?
      intro j
      by_cases hj : j < xs.length
      · have := hc j hj
        have h2 : cs.toList[j]? = some (.int .i64 (xs.getD j 0)) := (Array.getElem?_toList ..).trans this
        rw [List.getElem?_take, if_pos hj, h2]
        simp [List.getD, hj]
      · rw [List.getElem?_take, if_neg hj, List.getElem?_eq_none (by simp; omega)]
    rw [e1, List.take_append_drop]
  unfold Blk at hb ⊢
  rw [← e]
  exact hb
theorem own_rowI {w W : World} {v : Value} {xs : List Int} {e : TypeId} (h : W.ownsRow w.heap.size e 1 v xs.length (xs.map (Value.int .i64))) : (xs = [] ∧ v = .slice none 0 0) ∨ ∃ g cap, v = .slice (some ⟨g, 0, none⟩) xs.length cap ∧ xs.length ≤ cap ∧ w.heap.size ≤ g ∧ RowI W g xs := by
  rcases h.2 with ⟨hv, h0⟩ | ⟨g, cap, cur, hv, hb, hh, hcap, _, hsz, htake⟩
  · exact .inl ⟨List.length_eq_zero_iff.1 h0, by rw [hv]⟩
  · refine .inr ⟨g, cap, hv, hcap, hb, cur, e, hh, fun j hj => ?_⟩
    have e1 := congrArg (fun l : List Value => l[j]?) htake
    simp only [List.getElem?_take, show j < xs.length * 1 by omega, if_true, List.getElem?_map, Array.getElem?_toList] at e1
    rw [e1]
    simp [List.getD, hj]
structure Kpt (p : Int → Bool) (xs L : List Int) (i j : Nat) : Prop where
  len : L.length = xs.length
  lt : i < j
  le : j ≤ xs.length
  low : L.take i = (xs.take j).filter p
  high : L.drop j = xs.drop j
theorem Kpt.start {p : Int → Bool} {xs : List Int} {k : Nat} (hk : k < xs.length) (h0 : p (xs.getD k 0) = false) (h : ∀ j, j < k → p (xs.getD j 0) = true) : Kpt p xs xs k (k + 1) where
  len := rfl
  lt := Nat.lt_succ_self _
  le := hk
  low := by
    rw [List.take_succ_eq_append_getElem hk, List.filter_append]
    have e : xs[k] = xs.getD k 0 := by simp [List.getD, hk]
    rw [e, List.filter_cons_of_neg (by rw [h0]; simp), List.filter_nil, List.append_nil]
    refine (List.filter_eq_self.2 (fun a ha => ?_)).symm
    obtain ⟨j, hj, rfl⟩ := List.getElem_of_mem ha
    rw [List.length_take] at hj
    have := h j (by omega)
    rw [List.getElem_take]
    simpa [List.getD, show j < xs.length by omega] using this
  high := rfl
theorem Kpt.at {p : Int → Bool} {xs L : List Int} {i j : Nat} (h : Kpt p xs L i j) : L.getD j 0 = xs.getD j 0 := by
  have e := congrArg (fun l : List Int => l.getD 0 0) h.high
  simpa [List.getD] using e
theorem Kpt.keep {p : Int → Bool} {xs L : List Int} {i j : Nat} (h : Kpt p xs L i j) (hj : j < xs.length) (hp : p (xs.getD j 0) = true) : Kpt p xs (L.set i (xs.getD j 0)) (i + 1) (j + 1) where
  len := by rw [List.length_set, h.len]
  lt := by have := h.lt; omega
  le := hj
  low := by
    have hi : i < L.length := by have := h.lt; have := h.len; omega
    have e : xs[j] = xs.getD j 0 := by simp [List.getD, hj]
    rw [List.take_succ_eq_append_getElem hj, List.filter_append, ← h.low, e, List.filter_cons_of_pos hp, List.filter_nil]
    rw [List.take_succ_eq_append_getElem (by rw [List.length_set]; exact hi), List.getElem_set_self, List.take_set_of_le (Nat.le_refl _)]
  high := by
    rw [List.drop_set_of_lt (by have := h.lt; omega)]
    have e := congrArg (List.drop 1) h.high
    simpa [List.drop_drop] using e
theorem Kpt.skip {p : Int → Bool} {xs L : List Int} {i j : Nat} (h : Kpt p xs L i j) (hj : j < xs.length) (hp : p (xs.getD j 0) = false) : Kpt p xs L i (j + 1) where
  len := h.len
  lt := by have := h.lt; omega
  le := hj
  low := by
    have e : xs[j] = xs.getD j 0 := by simp [List.getD, hj]
    rw [List.take_succ_eq_append_getElem hj, List.filter_append, ← h.low, e, List.filter_cons_of_neg (by rw [hp]; simp), List.filter_nil, List.append_nil]
  high := by
    have e := congrArg (List.drop 1) h.high
    simpa [List.drop_drop] using e
theorem Kpt.done {p : Int → Bool} {xs L : List Int} {i : Nat} (h : Kpt p xs L i xs.length) : L.take i = xs.filter p ∧ i = (xs.filter p).length := by
  have e : L.take i = xs.filter p := by rw [h.low, List.take_length]
  refine ⟨e, ?_⟩
  rw [← e, List.length_take]
  have := h.lt
  have := h.len
  omega
end Go.Proofs.YtjojgfdfbkmlkaaGreatDoor.ctr
namespace Go.Proofs.YtjojgfdfbkmlkaaGreatDoor.ctr
open Go.RowKit
set_option maxHeartbeats 2000000 in
theorem dayDayIn (m d c y : Int) (w : World) (hT : Tab w) : Calls Tryz.prog 397 #[.agg #[.int .i64 m, .int .i64 d], .int .i64 c, .int .i64 y] w fun e w' => e = .returned (.int .i64 (dayOf c y m d)) ∧ Below w.heap.size w w' := by
  obtain ⟨W0, hW0, hC, hBl⟩ := box_any w #[.int .i64 m, .int .i64 d] 227
  have c0 : ∀ x : Later W0, x.w.cell? ⟨w.heap.size, 0, none⟩ = some (.int .i64 m) := fun x => (hC x).cell 0 rfl
  have c1 : ∀ x : Later W0, x.w.cell? ⟨w.heap.size, 1, none⟩ = some (.int .i64 d) := fun x => (hC x).cell 1 rfl
  have K : ∀ x : Later W0, Calls Tryz.prog 125 #[.agg #[.int .i64 c, .int .i64 y, .int .i64 m, .int .i64 d]] x.w fun e w' => e = .returned (.int .i64 (dayOf c y m d)) ∧ Below x.w.heap.size x.w w' := fun x => implDayOf c y m d x.w (hT.later (hBl x))
  have HW0 := hideP hW0
  have HBl := hideP hBl
  clear hW0 hC hBl hT
  generalize dayOf c y m d = fd at *
  go_enter Tryz.func397, Tryz.ntmps397
  go_wp2_with fail
  rw [← HW0.out]
  refine (K ⟨W0, Below.refl _ _⟩).mono ?_
  rintro e w1 ⟨rfl, hb⟩
  obtain ⟨x1, rfl⟩ := Later.of hb
  clear hb
  go_wp2
  go_ret
  exact ⟨rfl, HBl.out x1⟩
set_option maxHeartbeats 2000000 in
theorem romDayIn (a b c : Int) (t : Bool) (cc y : Int) (w : World) (hT : Tab w) : Calls Tryz.prog 400 #[.agg #[.int .i64 a, .int .i64 b, .int .i64 c, .bool t], .int .i64 cc, .int .i64 y] w fun e w' => e = .returned (.int .i64 (dayOf (dayOfRoman cc y ⟨a, b, c, t⟩).1 (dayOfRoman cc y ⟨a, b, c, t⟩).2.1 (dayOfRoman cc y ⟨a, b, c, t⟩).2.2.1 (dayOfRoman cc y ⟨a, b, c, t⟩).2.2.2)) ∧ Below w.heap.size w w' := by
  obtain ⟨W0, hW0, hC, hBl⟩ := box_any w #[.int .i64 a, .int .i64 b, .int .i64 c, .bool t] 229
  have c0 : ∀ x : Later W0, x.w.cell? ⟨w.heap.size, 0, none⟩ = some (.int .i64 a) := fun x => (hC x).cell 0 rfl
  have c1 : ∀ x : Later W0, x.w.cell? ⟨w.heap.size, 1, none⟩ = some (.int .i64 b) := fun x => (hC x).cell 1 rfl
  have c2 : ∀ x : Later W0, x.w.cell? ⟨w.heap.size, 2, none⟩ = some (.int .i64 c) := fun x => (hC x).cell 2 rfl
  have c3 : ∀ x : Later W0, x.w.cell? ⟨w.heap.size, 3, none⟩ = some (.bool t) := fun x => (hC x).cell 3 rfl
  obtain ⟨q0, q1, q2, q3, hq⟩ : ∃ q0 q1 q2 q3, dayOfRoman cc y ⟨a, b, c, t⟩ = (q0, q1, q2, q3) := ⟨_, _, _, _, rfl⟩
  have K1 : ∀ x : Later W0, Calls Tryz.prog 332 #[.int .i64 cc, .int .i64 y, .agg #[.int .i64 a, .int .i64 b, .int .i64 c, .bool t]] x.w fun e w' => e = .returned (.agg #[.int .i64 q0, .int .i64 q1, .int .i64 q2, .int .i64 q3]) ∧ Below x.w.heap.size x.w w' := fun x => by
    have k := implDayOfRoman cc y ⟨a, b, c, t⟩ x.w (hT.later (hBl x))
    rw [hq] at k
    exact k
  rw [hq]
  dsimp only
  have K : ∀ x : Later W0, Calls Tryz.prog 125 #[.agg #[.int .i64 q0, .int .i64 q1, .int .i64 q2, .int .i64 q3]] x.w fun e w' => e = .returned (.int .i64 (dayOf q0 q1 q2 q3)) ∧ Below x.w.heap.size x.w w' := fun x => implDayOf q0 q1 q2 q3 x.w (hT.later (hBl x))
  have HW0 := hideP hW0
  have HBl := hideP hBl
  clear hW0 hC hBl hT hq
  generalize dayOf q0 q1 q2 q3 = fd at *
  go_enter Tryz.func400, Tryz.ntmps400
  go_wp2_with fail
  rw [← HW0.out]
  refine (K1 ⟨W0, Below.refl _ _⟩).mono ?_
  rintro e w1 ⟨rfl, hb⟩
  obtain ⟨x1, rfl⟩ := Later.of hb
  clear hb
  go_wp2_with fail
  refine (K x1).mono ?_
  rintro e w2 ⟨rfl, hb⟩
  obtain ⟨x2, rfl⟩ := x1.next hb
  clear hb
  go_wp2
  go_ret
  exact ⟨rfl, HBl.out x2⟩
theorem dIn_b (wh : Whn) (c y : Int) (h1 : 0 ≤ wh.plus) (h2 : wh.plus ≤ 99) : -10000 ≤ dIn wh c y ∧ dIn wh c y ≤ 4000000 := by
  unfold dIn
  split
  · have := dayOf_bound c y wh.mon wh.day
    omega
  · split
    · have := dayOf_bound (dayOfRoman c y wh.rom).1 (dayOfRoman c y wh.rom).2.1 (dayOfRoman c y wh.rom).2.2.1 (dayOfRoman c y wh.rom).2.2.2
      omega
    · have := feaDay_b c y (feaOf wh.feast).name (feaOf wh.feast).mv (feaOf wh.feast).off (feaOf wh.feast).m (feaOf wh.feast).d
      omega
set_option maxRecDepth 100000 in
theorem idx3w (a b e : Int) (k : Nat) (h : k < 3) (w : World) : (Instr.index 134 (.agg #[.int .i64 a, .int .i64 b, .int .i64 e]) (.int .i64 (k : Int))).run Tryz.prog w = .ok (.int .i64 ([a, b, e].getD k 0)) w := by
  have : k = 0 ∨ k = 1 ∨ k = 2 := by omega
  rcases this with rfl | rfl | rfl <;> rfl
theorem three_at (y : Int) (k : Nat) (h : k < 3) : [y - 1, y, y + 1].getD k 0 = y - 1 + (k : Int) := by
  have : k = 0 ∨ k = 1 ∨ k = 2 := by omega
  rcases this with rfl | rfl | rfl
  · show y - 1 = _; omega
  · show y = _; omega
  · show y + 1 = _; omega
theorem own_ne1 {w : World} {base e size : Nat} {v : Value} {n : Nat} {xs : List Value} {b : Nat} {vs : Array Value} {t : TypeId} (h : w.ownsRow base e size v n xs) (hb : Blk w b vs t) (hte : t ≠ e) : some b ≠ v.ownBlock := by
  intro he
  rcases h.2 with ⟨rfl, _⟩ | ⟨g, cap, cur, rfl, _, hh, _⟩
  · cases he
  · have hg : b = g := by simpa [Value.ownBlock] using he
    subst hg
    unfold Blk at hb
    rw [hb] at hh
    simp at hh
    exact hte hh.2
theorem Blk.gr1 {w w' : World} {b : Nat} {vs : Array Value} {t : TypeId} {row : Option Nat} (h : Blk w b vs t) (g : w.grownBy w' row) (hn : some b ≠ row) : Blk w' b vs t := (g.block b h.lt hn).trans h
set_option maxRecDepth 100000 in
set_option maxHeartbeats 8000000 in
theorem whenDays0 (m d : Int) (y so ca : Int) (v : Value) (r : Rgm) (w : World) (h : GRow w v r) (hr : regimeB r = true) (y1 : 1 ≤ y) (y2 : y ≤ 3000) (hT : Tab w) : Calls Tryz.prog 89 #[v, .agg #[.int .i64 0, .int .i64 m, .int .i64 d, .int .i64 0, .int .i64 0, .int .i64 0, .bool false, .string ⟨#[]⟩, .int .i64 0, .int .i64 y, .int .i64 so, .int .i64 ca]] w fun e w' => ∃ o, e = .returned o ∧ ∃ xs, ISt w o xs w' ∧ WD r ⟨⟨0, m, d, ⟨0, 0, 0, false⟩, ⟨#[]⟩, 0⟩, y, so, ca⟩ r.segs.length 0 xs := by
  obtain ⟨i0, hi, hz0, hz1, hz2⟩ := info_parts info_int
  have hlen := right_segs hr
  obtain ⟨v1, v2, v3, rfl, _, x1, x2, x3⟩ := h
  obtain ⟨a1, c1, rfl, _, hc1, hcS⟩ := x1
  obtain ⟨gs, rfl, _⟩ := hcS 0 (by omega)
  obtain ⟨W0, hW0, hD, hR, hBl⟩ := two_box w #[.string r.name, .int .i64 r.fr, .int .i64 r.to, .slice (some ⟨gs, 0, none⟩) r.segs.length c1, v2, v3, .int .i64 r.rule] #[.int .i64 0, .int .i64 m, .int .i64 d, .int .i64 0, .int .i64 0, .int .i64 0, .bool false, .string ⟨#[]⟩, .int .i64 0, .int .i64 y, .int .i64 so, .int .i64 ca] 36 59
  have cr0 : ∀ x : Later W0, x.w.cell? ⟨w.heap.size, 0, none⟩ = some (.string r.name) := fun x => (hD x).cell 0 rfl
  have cr1 : ∀ x : Later W0, x.w.cell? ⟨w.heap.size, 1, none⟩ = some (.int .i64 r.fr) := fun x => (hD x).cell 1 rfl
  have cr2 : ∀ x : Later W0, x.w.cell? ⟨w.heap.size, 2, none⟩ = some (.int .i64 r.to) := fun x => (hD x).cell 2 rfl
  have cr3 : ∀ x : Later W0, x.w.cell? ⟨w.heap.size, 3, none⟩ = some (.slice (some ⟨gs, 0, none⟩) r.segs.length c1) := fun x => (hD x).cell 3 rfl
  have cr4 : ∀ x : Later W0, x.w.cell? ⟨w.heap.size, 4, none⟩ = some (v2) := fun x => (hD x).cell 4 rfl
  have cr5 : ∀ x : Later W0, x.w.cell? ⟨w.heap.size, 5, none⟩ = some (v3) := fun x => (hD x).cell 5 rfl
  have cr6 : ∀ x : Later W0, x.w.cell? ⟨w.heap.size, 6, none⟩ = some (.int .i64 r.rule) := fun x => (hD x).cell 6 rfl
  have cs0 : ∀ x : Later W0, x.w.cell? ⟨w.heap.size + 1, 0, none⟩ = some (.int .i64 0) := fun x => (hR x).cell 0 rfl
  have cs1 : ∀ x : Later W0, x.w.cell? ⟨w.heap.size + 1, 1, none⟩ = some (.int .i64 m) := fun x => (hR x).cell 1 rfl
  have cs2 : ∀ x : Later W0, x.w.cell? ⟨w.heap.size + 1, 2, none⟩ = some (.int .i64 d) := fun x => (hR x).cell 2 rfl
  have cs3 : ∀ x : Later W0, x.w.cell? ⟨w.heap.size + 1, 3, none⟩ = some (.int .i64 0) := fun x => (hR x).cell 3 rfl
  have cs4 : ∀ x : Later W0, x.w.cell? ⟨w.heap.size + 1, 4, none⟩ = some (.int .i64 0) := fun x => (hR x).cell 4 rfl
  have cs5 : ∀ x : Later W0, x.w.cell? ⟨w.heap.size + 1, 5, none⟩ = some (.int .i64 0) := fun x => (hR x).cell 5 rfl
  have cs6 : ∀ x : Later W0, x.w.cell? ⟨w.heap.size + 1, 6, none⟩ = some (.bool false) := fun x => (hR x).cell 6 rfl
  have cs7 : ∀ x : Later W0, x.w.cell? ⟨w.heap.size + 1, 7, none⟩ = some (.string ⟨#[]⟩) := fun x => (hR x).cell 7 rfl
  have cs8 : ∀ x : Later W0, x.w.cell? ⟨w.heap.size + 1, 8, none⟩ = some (.int .i64 0) := fun x => (hR x).cell 8 rfl
  have cs9 : ∀ x : Later W0, x.w.cell? ⟨w.heap.size + 1, 9, none⟩ = some (.int .i64 y) := fun x => (hR x).cell 9 rfl
  have cs10 : ∀ x : Later W0, x.w.cell? ⟨w.heap.size + 1, 10, none⟩ = some (.int .i64 so) := fun x => (hR x).cell 10 rfl
  have cs11 : ∀ x : Later W0, x.w.cell? ⟨w.heap.size + 1, 11, none⟩ = some (.int .i64 ca) := fun x => (hR x).cell 11 rfl
  have HS : Hid (∀ (V : World), Below W0.heap.size W0 V → ∀ k, k < r.segs.length → IAt segK V gs k (atK segK r.segs k)) := fun V hb k hk => by
    obtain ⟨g, e, hg, x⟩ := hcS k hk
    cases e
    exact x.below (hBl ⟨V, hb⟩) hg
  have KK : ∀ W, Calls Tryz.prog 145 #[.agg #[.int .i64 0, .int .i64 m, .int .i64 d, .int .i64 0, .int .i64 0, .int .i64 0, .bool false, .string ⟨#[]⟩, .int .i64 0]] W fun e w' => e = .returned (.iface 227 (.agg #[.int .i64 m, .int .i64 d])) ∧ Below W.heap.size W w' := fun W => kindDay m d W
  have KM : Hid (∀ cc y W, Below W0.heap.size W0 W → Calls Tryz.prog 397 #[.agg #[.int .i64 m, .int .i64 d], .int .i64 cc, .int .i64 y] W fun e w' => e = .returned (.int .i64 (dIn ⟨0, m, d, ⟨0, 0, 0, false⟩, ⟨#[]⟩, 0⟩ cc y)) ∧ Below W.heap.size W w') := fun cc y W hb => by
    have hT : Tab W := hT.later (hBl ⟨W, hb⟩)
    exact dayDayIn m d cc y W hT
  have HDB : Hid (∀ cc y, -10000 ≤ dIn ⟨0, m, d, ⟨0, 0, 0, false⟩, ⟨#[]⟩, 0⟩ cc y ∧ dIn ⟨0, m, d, ⟨0, 0, 0, false⟩, ⟨#[]⟩, 0⟩ cc y ≤ 4000000) := fun cc y => dIn_b _ cc y (by dsimp only; omega) (by dsimp only; omega)
  have HCA : Hid (∀ k i, candAt r ⟨⟨0, m, d, ⟨0, 0, 0, false⟩, ⟨#[]⟩, 0⟩, y, so, ca⟩ k i = dIn ⟨0, m, d, ⟨0, 0, 0, false⟩, ⟨#[]⟩, 0⟩ (atK segK r.segs k).cal (y - 1 + (i : Int)) - (atK segK r.segs k).off) := fun k i => rfl
  have HSO : Hid (∀ k, k < r.segs.length → 400 ≤ (atK segK r.segs k).fr ∧ (atK segK r.segs k).to ≤ 1090000 ∧ -3 ≤ (atK segK r.segs k).off ∧ (atK segK r.segs k).off ≤ 3) := fun k hk => by
    have := segOk_nums (right_seg hr hk).1
    omega
  have HHit : Hid (∀ j i xs, WD r ⟨⟨0, m, d, ⟨0, 0, 0, false⟩, ⟨#[]⟩, 0⟩, y, so, ca⟩ j i xs → j < r.segs.length → (atK segK r.segs j).fr ≤ candAt r ⟨⟨0, m, d, ⟨0, 0, 0, false⟩, ⟨#[]⟩, 0⟩, y, so, ca⟩ j i → candAt r ⟨⟨0, m, d, ⟨0, 0, 0, false⟩, ⟨#[]⟩, 0⟩, y, so, ca⟩ j i ≤ (atK segK r.segs j).to → WD r ⟨⟨0, m, d, ⟨0, 0, 0, false⟩, ⟨#[]⟩, 0⟩, y, so, ca⟩ j (i + 1) (xs ++ [candAt r ⟨⟨0, m, d, ⟨0, 0, 0, false⟩, ⟨#[]⟩, 0⟩, y, so, ca⟩ j i])) := fun j i xs q a b c => q.hit a b c
  have HMis : Hid (∀ j i xs, WD r ⟨⟨0, m, d, ⟨0, 0, 0, false⟩, ⟨#[]⟩, 0⟩, y, so, ca⟩ j i xs → ¬ ((atK segK r.segs j).fr ≤ candAt r ⟨⟨0, m, d, ⟨0, 0, 0, false⟩, ⟨#[]⟩, 0⟩, y, so, ca⟩ j i ∧ candAt r ⟨⟨0, m, d, ⟨0, 0, 0, false⟩, ⟨#[]⟩, 0⟩, y, so, ca⟩ j i ≤ (atK segK r.segs j).to) → WD r ⟨⟨0, m, d, ⟨0, 0, 0, false⟩, ⟨#[]⟩, 0⟩, y, so, ca⟩ j (i + 1) xs) := fun j i xs q a => q.miss a
  have HNx : Hid (∀ j xs, WD r ⟨⟨0, m, d, ⟨0, 0, 0, false⟩, ⟨#[]⟩, 0⟩, y, so, ca⟩ j 3 xs → WD r ⟨⟨0, m, d, ⟨0, 0, 0, false⟩, ⟨#[]⟩, 0⟩, y, so, ca⟩ (j + 1) 0 xs) := fun j xs q => q.next
  have HLn : Hid (∀ j i xs, WD r ⟨⟨0, m, d, ⟨0, 0, 0, false⟩, ⟨#[]⟩, 0⟩, y, so, ca⟩ j i xs → xs.length ≤ 3 * j + i) := fun j i xs q => q.2.2
  have HN0 : Hid (WD r ⟨⟨0, m, d, ⟨0, 0, 0, false⟩, ⟨#[]⟩, 0⟩, y, so, ca⟩ 0 0 []) := wd_nil
  have IX : ∀ (k : Nat), k < 3 → ∀ W, (Instr.index 134 (.agg #[.int .i64 (y - 1), .int .i64 y, .int .i64 (y + 1)]) (.int .i64 (k : Int))).run Tryz.prog W = .ok (.int .i64 (y - 1 + (k : Int))) W := fun k h W => by
    have q := idx3w (y - 1) y (y + 1) k h W
    rw [three_at y k h] at q
    exact q
  obtain ⟨AR, hAR⟩ : ∃ AR : Array Value, AR = #[.int .i64 (y - 1), .int .i64 y, .int .i64 (y + 1)] := ⟨_, rfl⟩
  rw [← hAR] at IX
  have HAR := hideP hAR
  have HIX := hideP IX
  have HW0 := hideP hW0
  have HB0 : Hid (Below w.heap.size w W0) := hBl ⟨W0, Below.refl _ _⟩
  clear hW0 hBl hD hR hcS hc1 hT x2 x3 IX hAR hr
  generalize WD r ⟨⟨0, m, d, ⟨0, 0, 0, false⟩, ⟨#[]⟩, 0⟩, y, so, ca⟩ = wd at *
  generalize dIn ⟨0, m, d, ⟨0, 0, 0, false⟩, ⟨#[]⟩, 0⟩ = dn at *
  generalize candAt r ⟨⟨0, m, d, ⟨0, 0, 0, false⟩, ⟨#[]⟩, 0⟩, y, so, ca⟩ = cd at *
  go_enter Tryz.func89, Tryz.ntmps89
  go_wp2_with fail
  rw [← HW0.out]
  refine (KK _).mono ?_
  rintro e w1 ⟨rfl, hb⟩
  have S1 : Hid (ISt W0 (.slice none 0 0) [] w1) := (ISt.nil W0).later hb
  have d3 := cr3 ⟨w1, hb⟩
  dsimp only at d3
  clear hb KK
  go_wp2_with fail
  clear d3
  go_loopw [6, 18] (fun o i wr => ∃ (j : Nat) (xs : List Int), j ≤ r.segs.length ∧ i = .int .i64 (j : Int) ∧ Hid (wd j 0 xs) ∧ ISt W0 o xs wr) (fun _ i _ => ((r.segs.length : Int) - intOf i).toNat)
  case atStart => exact ⟨0, [], Nat.zero_le _, rfl, HN0, S1.out⟩
  case round =>
    obtain ⟨j, xs, hj, rfl, hWD, hS⟩ := hrel
    have S := hideP hS
    clear hS S1 HN0
    by_cases hlt : (j : Int) < (r.segs.length : Int)
    case neg =>
      obtain rfl : j = r.segs.length := by omega
      go_wp2
      go_ret
      exact ⟨_, rfl, xs, ⟨own_mono1 S.out.row HB0.out.size, HB0.out.trans (S.out.below.mono HB0.out.size)⟩, hWD.out⟩
    have hjn : j < r.segs.length := by omega
    have hsg := (HS.out wr S.out.below j hjn).seg
    have hso := HSO.out j hjn
    have HC2 : Hid (∀ i : Nat, cd j i = dn (atK segK r.segs j).cal (y - 1 + (i : Int)) - (atK segK r.segs j).off) := HCA.out j
    have HH2 : Hid (∀ (i : Nat) (xs : List Int), wd j i xs → (atK segK r.segs j).fr ≤ cd j i → cd j i ≤ (atK segK r.segs j).to → wd j (i + 1) (xs ++ [cd j i])) := fun i xs q a b => HHit.out j i xs q hjn a b
    have HM2 : Hid (∀ (i : Nat) (xs : List Int), wd j i xs → ¬ ((atK segK r.segs j).fr ≤ cd j i ∧ cd j i ≤ (atK segK r.segs j).to) → wd j (i + 1) xs) := fun i xs q a => HMis.out j i xs q a
    generalize atK segK r.segs j = s at *
    obtain ⟨g0, g1, g2, g3, g4⟩ := hsg
    obtain ⟨V, hV⟩ : ∃ V, V = wr.alloc (.cells #[.int .i64 s.fr, .int .i64 s.to, .int .i64 s.cal, .int .i64 s.sty, .int .i64 s.off] 92) := ⟨_, rfl⟩
    have SV0 : ISt W0 u6 xs V := by rw [hV]; exact S.out.later ((Below.refl _ _).alloc (Nat.le_refl _) _)
    have bV : Blk V wr.heap.size #[.int .i64 s.fr, .int .i64 s.to, .int .i64 s.cal, .int .i64 s.sty, .int .i64 s.off] 92 := by rw [hV]; exact Blk.new _ _ _
    have HV := hideP hV
    have SV := hideP SV0
    have HBV := hideP bV
    have e9 := cs9 ⟨wr, S.out.below⟩
    have f9 := cs9 ⟨V, SV0.below⟩
    dsimp only at e9 f9
    clear hV SV0 bV
    go_upto_region 6 with fail
    rw [← HV.out]
    go_wp2_with fail
    rw [← HAR.out]
    clear g0 g1 g2 g3 g4 e9 f9 HV S
    generalize wr.heap.size = gb at *
    go_loopw [6, 31] (fun o i wr2 => ∃ (k : Nat) (zs : List Int), k ≤ 3 ∧ i = .int .i64 (k : Int) ∧ Hid (wd j k zs) ∧ ISt W0 o zs wr2 ∧ Hid (Blk wr2 gb #[.int .i64 s.fr, .int .i64 s.to, .int .i64 s.cal, .int .i64 s.sty, .int .i64 s.off] 92)) (fun _ i _ => 3 - (intOf i).toNat)
    case atStart => exact ⟨0, xs, Nat.zero_le _, rfl, hWD, SV.out, HBV⟩
    case round =>
      obtain ⟨k, zs, hk, rfl, hWZ, hS, HB⟩ := hrel
      have Z := hideP hS
      clear hS SV HBV
      by_cases hk3 : k < 3
      case neg =>
        obtain rfl : k = 3 := by omega
        have HN : Hid (wd (j + 1) 0 zs) := HNx.out j zs hWZ.out
        clear hWZ
        go_wp2
        exact ⟨⟨j + 1, zs, by omega, by apply congrArg (Value.int .i64); omega, HN, Z.out⟩, by simp [intOf]; omega⟩
      have hix := HIX.out k hk3
      have hDb := HDB.out s.cal (y - 1 + (k : Int))
      have KMx : ∀ x : Later wr, Calls Tryz.prog 397 #[.agg #[.int .i64 m, .int .i64 d], .int .i64 s.cal, .int .i64 (y - 1 + (k : Int))] x.w fun e w' => e = .returned (.int .i64 (dn s.cal (y - 1 + (k : Int)))) ∧ Below x.w.heap.size x.w w' := fun x => KM.out s.cal (y - 1 + (k : Int)) x.w (Z.out.later x.below).below
      have hck := HC2.out k
      have hzl := HLn.out j k zs hWZ.out
      have HHk : Hid (s.fr ≤ cd j k → cd j k ≤ s.to → wd j (k + 1) (zs ++ [cd j k])) := fun a b => HH2.out k zs hWZ.out a b
      have HMk : Hid (¬ (s.fr ≤ cd j k ∧ cd j k ≤ s.to) → wd j (k + 1) zs) := fun a => HM2.out k zs hWZ.out a
      rw [hck] at HHk HMk
      clear hck hWZ
      generalize dn s.cal (y - 1 + (k : Int)) = D at *
      have b2 := Later.at (HB.out.cell 2 rfl)
      have b4 := Later.at (HB.out.cell 4 rfl)
      go_wp2_with fail
      generalize y - 1 + (k : Int) = yk at *
      have TD : Below wr.heap.size wr wr.drew := (Below.refl _ _).drew
      have KE : Hid (∀ V', Below wr.heap.size wr V' → V'.cell? ⟨gb, 2, none⟩ = some (.int .i64 s.cal) ∧ V'.cell? ⟨gb, 4, none⟩ = some (.int .i64 s.off)) := fun V' hb => ⟨(HB.out.below hb HB.out.lt).cell 2 rfl, (HB.out.below hb HB.out.lt).cell 4 rfl⟩
      have KMd := KMx ⟨wr.drew, TD⟩
      dsimp only at KMd
      clear KMx b2 b4
      go_region_held (fun w' => w'.cell? ⟨gb, 2, none⟩ = some (.int .i64 s.cal) ∧ w'.cell? ⟨gb, 4, none⟩ = some (.int .i64 s.off)) (exact KE.out _ (by assumption)) ((go_at_call 397; refine KMd.mono ?_; rintro e w5 ⟨rfl, hb⟩; have TV : Below wr.heap.size wr w5 := TD.trans (hb.mono TD.size)))
      have Z5 := hideP (Z.out.later TV)
      have HB5 := hideP (HB.out.below TV HB.out.lt)
      clear Z HB KE TD TV hb KMd
      have b0 := HB5.out.cell 0 rfl
      have b1 := HB5.out.cell 1 rfl
      by_cases h1 : s.fr ≤ D - s.off
      case neg =>
        have HN := hideP (HMk.out (fun q => h1 q.1))
        clear HHk HMk
        go_wp2
        exact ⟨⟨k + 1, zs, by omega, by apply congrArg (Value.int .i64); omega, HN.out, Z5.out, HB5⟩, by simp [intOf]; omega⟩
      by_cases h2 : D - s.off ≤ s.to
      case neg =>
        have HN := hideP (HMk.out (fun q => h2 q.2))
        clear HHk HMk
        go_wp2
        exact ⟨⟨k + 1, zs, by omega, by apply congrArg (Value.int .i64); omega, HN.out, Z5.out, HB5⟩, by simp [intOf]; omega⟩
      have HN := hideP (HHk.out h1 h2)
      clear HHk HMk
      go_wp2_with (at_builtin; refine wpList_append_own _ rfl _ _ 30 rfl W0.heap.size 3 i0 (.int .i64 0) 1 8 Tryz.underlying30 hi hz0 hz1 hz2 rfl (by decide) _ _ _ rfl (Z5.out.row.alloc _) ⟨w5.heap.size, 0, none⟩ 1 1 [.int .i64 (D - s.off)] rfl rfl (cell_one_new _ _ _) (by simp [Value.oneCell']) (by unfold maxLen; omega) (by omega) (by have := Z5.out.below.size; rw [inew]; omega) ?_; intro v' w9 hown' hgrow _)
      refine ⟨⟨k + 1, zs ++ [D - s.off], by omega, by apply congrArg (Value.int .i64); omega, HN.out, Z5.out.app _ hown' hgrow, ?_⟩, by simp [intOf]; omega⟩
      exact (HB5.out.alloc _).gr1 hgrow (own_ne1 Z5.out.row HB5.out (by decide))
set_option maxRecDepth 100000 in
set_option maxHeartbeats 8000000 in
theorem whenDays1 (a b c : Int) (t : Bool) (y so ca : Int) (v : Value) (r : Rgm) (w : World) (h : GRow w v r) (hr : regimeB r = true) (y1 : 1 ≤ y) (y2 : y ≤ 3000) (hT : Tab w) : Calls Tryz.prog 89 #[v, .agg #[.int .i64 1, .int .i64 0, .int .i64 0, .int .i64 a, .int .i64 b, .int .i64 c, .bool t, .string ⟨#[]⟩, .int .i64 0, .int .i64 y, .int .i64 so, .int .i64 ca]] w fun e w' => ∃ o, e = .returned o ∧ ∃ xs, ISt w o xs w' ∧ WD r ⟨⟨1, 0, 0, ⟨a, b, c, t⟩, ⟨#[]⟩, 0⟩, y, so, ca⟩ r.segs.length 0 xs := by
  obtain ⟨i0, hi, hz0, hz1, hz2⟩ := info_parts info_int
  have hlen := right_segs hr
  obtain ⟨v1, v2, v3, rfl, _, x1, x2, x3⟩ := h
  obtain ⟨a1, c1, rfl, _, hc1, hcS⟩ := x1
  obtain ⟨gs, rfl, _⟩ := hcS 0 (by omega)
  obtain ⟨W0, hW0, hD, hR, hBl⟩ := two_box w #[.string r.name, .int .i64 r.fr, .int .i64 r.to, .slice (some ⟨gs, 0, none⟩) r.segs.length c1, v2, v3, .int .i64 r.rule] #[.int .i64 1, .int .i64 0, .int .i64 0, .int .i64 a, .int .i64 b, .int .i64 c, .bool t, .string ⟨#[]⟩, .int .i64 0, .int .i64 y, .int .i64 so, .int .i64 ca] 36 59
  have cr0 : ∀ x : Later W0, x.w.cell? ⟨w.heap.size, 0, none⟩ = some (.string r.name) := fun x => (hD x).cell 0 rfl
  have cr1 : ∀ x : Later W0, x.w.cell? ⟨w.heap.size, 1, none⟩ = some (.int .i64 r.fr) := fun x => (hD x).cell 1 rfl
  have cr2 : ∀ x : Later W0, x.w.cell? ⟨w.heap.size, 2, none⟩ = some (.int .i64 r.to) := fun x => (hD x).cell 2 rfl
  have cr3 : ∀ x : Later W0, x.w.cell? ⟨w.heap.size, 3, none⟩ = some (.slice (some ⟨gs, 0, none⟩) r.segs.length c1) := fun x => (hD x).cell 3 rfl
  have cr4 : ∀ x : Later W0, x.w.cell? ⟨w.heap.size, 4, none⟩ = some (v2) := fun x => (hD x).cell 4 rfl
  have cr5 : ∀ x : Later W0, x.w.cell? ⟨w.heap.size, 5, none⟩ = some (v3) := fun x => (hD x).cell 5 rfl
  have cr6 : ∀ x : Later W0, x.w.cell? ⟨w.heap.size, 6, none⟩ = some (.int .i64 r.rule) := fun x => (hD x).cell 6 rfl
  have cs0 : ∀ x : Later W0, x.w.cell? ⟨w.heap.size + 1, 0, none⟩ = some (.int .i64 1) := fun x => (hR x).cell 0 rfl
  have cs1 : ∀ x : Later W0, x.w.cell? ⟨w.heap.size + 1, 1, none⟩ = some (.int .i64 0) := fun x => (hR x).cell 1 rfl
  have cs2 : ∀ x : Later W0, x.w.cell? ⟨w.heap.size + 1, 2, none⟩ = some (.int .i64 0) := fun x => (hR x).cell 2 rfl
  have cs3 : ∀ x : Later W0, x.w.cell? ⟨w.heap.size + 1, 3, none⟩ = some (.int .i64 a) := fun x => (hR x).cell 3 rfl
  have cs4 : ∀ x : Later W0, x.w.cell? ⟨w.heap.size + 1, 4, none⟩ = some (.int .i64 b) := fun x => (hR x).cell 4 rfl
  have cs5 : ∀ x : Later W0, x.w.cell? ⟨w.heap.size + 1, 5, none⟩ = some (.int .i64 c) := fun x => (hR x).cell 5 rfl
  have cs6 : ∀ x : Later W0, x.w.cell? ⟨w.heap.size + 1, 6, none⟩ = some (.bool t) := fun x => (hR x).cell 6 rfl
  have cs7 : ∀ x : Later W0, x.w.cell? ⟨w.heap.size + 1, 7, none⟩ = some (.string ⟨#[]⟩) := fun x => (hR x).cell 7 rfl
  have cs8 : ∀ x : Later W0, x.w.cell? ⟨w.heap.size + 1, 8, none⟩ = some (.int .i64 0) := fun x => (hR x).cell 8 rfl
  have cs9 : ∀ x : Later W0, x.w.cell? ⟨w.heap.size + 1, 9, none⟩ = some (.int .i64 y) := fun x => (hR x).cell 9 rfl
  have cs10 : ∀ x : Later W0, x.w.cell? ⟨w.heap.size + 1, 10, none⟩ = some (.int .i64 so) := fun x => (hR x).cell 10 rfl
  have cs11 : ∀ x : Later W0, x.w.cell? ⟨w.heap.size + 1, 11, none⟩ = some (.int .i64 ca) := fun x => (hR x).cell 11 rfl
  have HS : Hid (∀ (V : World), Below W0.heap.size W0 V → ∀ k, k < r.segs.length → IAt segK V gs k (atK segK r.segs k)) := fun V hb k hk => by
    obtain ⟨g, e, hg, x⟩ := hcS k hk
    cases e
    exact x.below (hBl ⟨V, hb⟩) hg
  have KK : ∀ W, Calls Tryz.prog 145 #[.agg #[.int .i64 1, .int .i64 0, .int .i64 0, .int .i64 a, .int .i64 b, .int .i64 c, .bool t, .string ⟨#[]⟩, .int .i64 0]] W fun e w' => e = .returned (.iface 229 (.agg #[.int .i64 a, .int .i64 b, .int .i64 c, .bool t])) ∧ Below W.heap.size W w' := fun W => kindRom a b c t W
  have KM : Hid (∀ cc y W, Below W0.heap.size W0 W → Calls Tryz.prog 400 #[.agg #[.int .i64 a, .int .i64 b, .int .i64 c, .bool t], .int .i64 cc, .int .i64 y] W fun e w' => e = .returned (.int .i64 (dIn ⟨1, 0, 0, ⟨a, b, c, t⟩, ⟨#[]⟩, 0⟩ cc y)) ∧ Below W.heap.size W w') := fun cc y W hb => by
    have hT : Tab W := hT.later (hBl ⟨W, hb⟩)
    exact romDayIn a b c t cc y W hT
  have HDB : Hid (∀ cc y, -10000 ≤ dIn ⟨1, 0, 0, ⟨a, b, c, t⟩, ⟨#[]⟩, 0⟩ cc y ∧ dIn ⟨1, 0, 0, ⟨a, b, c, t⟩, ⟨#[]⟩, 0⟩ cc y ≤ 4000000) := fun cc y => dIn_b _ cc y (by dsimp only; omega) (by dsimp only; omega)
  have HCA : Hid (∀ k i, candAt r ⟨⟨1, 0, 0, ⟨a, b, c, t⟩, ⟨#[]⟩, 0⟩, y, so, ca⟩ k i = dIn ⟨1, 0, 0, ⟨a, b, c, t⟩, ⟨#[]⟩, 0⟩ (atK segK r.segs k).cal (y - 1 + (i : Int)) - (atK segK r.segs k).off) := fun k i => rfl
  have HSO : Hid (∀ k, k < r.segs.length → 400 ≤ (atK segK r.segs k).fr ∧ (atK segK r.segs k).to ≤ 1090000 ∧ -3 ≤ (atK segK r.segs k).off ∧ (atK segK r.segs k).off ≤ 3) := fun k hk => by
    have := segOk_nums (right_seg hr hk).1
    omega
  have HHit : Hid (∀ j i xs, WD r ⟨⟨1, 0, 0, ⟨a, b, c, t⟩, ⟨#[]⟩, 0⟩, y, so, ca⟩ j i xs → j < r.segs.length → (atK segK r.segs j).fr ≤ candAt r ⟨⟨1, 0, 0, ⟨a, b, c, t⟩, ⟨#[]⟩, 0⟩, y, so, ca⟩ j i → candAt r ⟨⟨1, 0, 0, ⟨a, b, c, t⟩, ⟨#[]⟩, 0⟩, y, so, ca⟩ j i ≤ (atK segK r.segs j).to → WD r ⟨⟨1, 0, 0, ⟨a, b, c, t⟩, ⟨#[]⟩, 0⟩, y, so, ca⟩ j (i + 1) (xs ++ [candAt r ⟨⟨1, 0, 0, ⟨a, b, c, t⟩, ⟨#[]⟩, 0⟩, y, so, ca⟩ j i])) := fun j i xs q a b c => q.hit a b c
  have HMis : Hid (∀ j i xs, WD r ⟨⟨1, 0, 0, ⟨a, b, c, t⟩, ⟨#[]⟩, 0⟩, y, so, ca⟩ j i xs → ¬ ((atK segK r.segs j).fr ≤ candAt r ⟨⟨1, 0, 0, ⟨a, b, c, t⟩, ⟨#[]⟩, 0⟩, y, so, ca⟩ j i ∧ candAt r ⟨⟨1, 0, 0, ⟨a, b, c, t⟩, ⟨#[]⟩, 0⟩, y, so, ca⟩ j i ≤ (atK segK r.segs j).to) → WD r ⟨⟨1, 0, 0, ⟨a, b, c, t⟩, ⟨#[]⟩, 0⟩, y, so, ca⟩ j (i + 1) xs) := fun j i xs q a => q.miss a
  have HNx : Hid (∀ j xs, WD r ⟨⟨1, 0, 0, ⟨a, b, c, t⟩, ⟨#[]⟩, 0⟩, y, so, ca⟩ j 3 xs → WD r ⟨⟨1, 0, 0, ⟨a, b, c, t⟩, ⟨#[]⟩, 0⟩, y, so, ca⟩ (j + 1) 0 xs) := fun j xs q => q.next
  have HLn : Hid (∀ j i xs, WD r ⟨⟨1, 0, 0, ⟨a, b, c, t⟩, ⟨#[]⟩, 0⟩, y, so, ca⟩ j i xs → xs.length ≤ 3 * j + i) := fun j i xs q => q.2.2
  have HN0 : Hid (WD r ⟨⟨1, 0, 0, ⟨a, b, c, t⟩, ⟨#[]⟩, 0⟩, y, so, ca⟩ 0 0 []) := wd_nil
  have IX : ∀ (k : Nat), k < 3 → ∀ W, (Instr.index 134 (.agg #[.int .i64 (y - 1), .int .i64 y, .int .i64 (y + 1)]) (.int .i64 (k : Int))).run Tryz.prog W = .ok (.int .i64 (y - 1 + (k : Int))) W := fun k h W => by
    have q := idx3w (y - 1) y (y + 1) k h W
    rw [three_at y k h] at q
    exact q
  obtain ⟨AR, hAR⟩ : ∃ AR : Array Value, AR = #[.int .i64 (y - 1), .int .i64 y, .int .i64 (y + 1)] := ⟨_, rfl⟩
  rw [← hAR] at IX
  have HAR := hideP hAR
  have HIX := hideP IX
  have HW0 := hideP hW0
  have HB0 : Hid (Below w.heap.size w W0) := hBl ⟨W0, Below.refl _ _⟩
  clear hW0 hBl hD hR hcS hc1 hT x2 x3 IX hAR hr
  generalize WD r ⟨⟨1, 0, 0, ⟨a, b, c, t⟩, ⟨#[]⟩, 0⟩, y, so, ca⟩ = wd at *
  generalize dIn ⟨1, 0, 0, ⟨a, b, c, t⟩, ⟨#[]⟩, 0⟩ = dn at *
  generalize candAt r ⟨⟨1, 0, 0, ⟨a, b, c, t⟩, ⟨#[]⟩, 0⟩, y, so, ca⟩ = cd at *
  go_enter Tryz.func89, Tryz.ntmps89
  go_wp2_with fail
  rw [← HW0.out]
  refine (KK _).mono ?_
  rintro e w1 ⟨rfl, hb⟩
  have S1 : Hid (ISt W0 (.slice none 0 0) [] w1) := (ISt.nil W0).later hb
  have d3 := cr3 ⟨w1, hb⟩
  dsimp only at d3
  clear hb KK
  go_wp2_with fail
  clear d3
  go_loopw [6, 18] (fun o i wr => ∃ (j : Nat) (xs : List Int), j ≤ r.segs.length ∧ i = .int .i64 (j : Int) ∧ Hid (wd j 0 xs) ∧ ISt W0 o xs wr) (fun _ i _ => ((r.segs.length : Int) - intOf i).toNat)
  case atStart => exact ⟨0, [], Nat.zero_le _, rfl, HN0, S1.out⟩
  case round =>
    obtain ⟨j, xs, hj, rfl, hWD, hS⟩ := hrel
    have S := hideP hS
    clear hS S1 HN0
    by_cases hlt : (j : Int) < (r.segs.length : Int)
    case neg =>
      obtain rfl : j = r.segs.length := by omega
      go_wp2
      go_ret
      exact ⟨_, rfl, xs, ⟨own_mono1 S.out.row HB0.out.size, HB0.out.trans (S.out.below.mono HB0.out.size)⟩, hWD.out⟩
    have hjn : j < r.segs.length := by omega
    have hsg := (HS.out wr S.out.below j hjn).seg
    have hso := HSO.out j hjn
    have HC2 : Hid (∀ i : Nat, cd j i = dn (atK segK r.segs j).cal (y - 1 + (i : Int)) - (atK segK r.segs j).off) := HCA.out j
    have HH2 : Hid (∀ (i : Nat) (xs : List Int), wd j i xs → (atK segK r.segs j).fr ≤ cd j i → cd j i ≤ (atK segK r.segs j).to → wd j (i + 1) (xs ++ [cd j i])) := fun i xs q a b => HHit.out j i xs q hjn a b
    have HM2 : Hid (∀ (i : Nat) (xs : List Int), wd j i xs → ¬ ((atK segK r.segs j).fr ≤ cd j i ∧ cd j i ≤ (atK segK r.segs j).to) → wd j (i + 1) xs) := fun i xs q a => HMis.out j i xs q a
    generalize atK segK r.segs j = s at *
    obtain ⟨g0, g1, g2, g3, g4⟩ := hsg
    obtain ⟨V, hV⟩ : ∃ V, V = wr.alloc (.cells #[.int .i64 s.fr, .int .i64 s.to, .int .i64 s.cal, .int .i64 s.sty, .int .i64 s.off] 92) := ⟨_, rfl⟩
    have SV0 : ISt W0 u6 xs V := by rw [hV]; exact S.out.later ((Below.refl _ _).alloc (Nat.le_refl _) _)
    have bV : Blk V wr.heap.size #[.int .i64 s.fr, .int .i64 s.to, .int .i64 s.cal, .int .i64 s.sty, .int .i64 s.off] 92 := by rw [hV]; exact Blk.new _ _ _
    have HV := hideP hV
    have SV := hideP SV0
    have HBV := hideP bV
    have e9 := cs9 ⟨wr, S.out.below⟩
    have f9 := cs9 ⟨V, SV0.below⟩
    dsimp only at e9 f9
    clear hV SV0 bV
    go_upto_region 6 with fail
    rw [← HV.out]
    go_wp2_with fail
    rw [← HAR.out]
    clear g0 g1 g2 g3 g4 e9 f9 HV S
    generalize wr.heap.size = gb at *
    go_loopw [6, 31] (fun o i wr2 => ∃ (k : Nat) (zs : List Int), k ≤ 3 ∧ i = .int .i64 (k : Int) ∧ Hid (wd j k zs) ∧ ISt W0 o zs wr2 ∧ Hid (Blk wr2 gb #[.int .i64 s.fr, .int .i64 s.to, .int .i64 s.cal, .int .i64 s.sty, .int .i64 s.off] 92)) (fun _ i _ => 3 - (intOf i).toNat)
    case atStart => exact ⟨0, xs, Nat.zero_le _, rfl, hWD, SV.out, HBV⟩
    case round =>
      obtain ⟨k, zs, hk, rfl, hWZ, hS, HB⟩ := hrel
      have Z := hideP hS
      clear hS SV HBV
      by_cases hk3 : k < 3
      case neg =>
        obtain rfl : k = 3 := by omega
        have HN : Hid (wd (j + 1) 0 zs) := HNx.out j zs hWZ.out
        clear hWZ
        go_wp2
        exact ⟨⟨j + 1, zs, by omega, by apply congrArg (Value.int .i64); omega, HN, Z.out⟩, by simp [intOf]; omega⟩
      have hix := HIX.out k hk3
      have hDb := HDB.out s.cal (y - 1 + (k : Int))
      have KMx : ∀ x : Later wr, Calls Tryz.prog 400 #[.agg #[.int .i64 a, .int .i64 b, .int .i64 c, .bool t], .int .i64 s.cal, .int .i64 (y - 1 + (k : Int))] x.w fun e w' => e = .returned (.int .i64 (dn s.cal (y - 1 + (k : Int)))) ∧ Below x.w.heap.size x.w w' := fun x => KM.out s.cal (y - 1 + (k : Int)) x.w (Z.out.later x.below).below
      have hck := HC2.out k
      have hzl := HLn.out j k zs hWZ.out
      have HHk : Hid (s.fr ≤ cd j k → cd j k ≤ s.to → wd j (k + 1) (zs ++ [cd j k])) := fun a b => HH2.out k zs hWZ.out a b
      have HMk : Hid (¬ (s.fr ≤ cd j k ∧ cd j k ≤ s.to) → wd j (k + 1) zs) := fun a => HM2.out k zs hWZ.out a
      rw [hck] at HHk HMk
      clear hck hWZ
      generalize dn s.cal (y - 1 + (k : Int)) = D at *
      have b2 := Later.at (HB.out.cell 2 rfl)
      have b4 := Later.at (HB.out.cell 4 rfl)
      go_wp2_with fail
      generalize y - 1 + (k : Int) = yk at *
      have TD : Below wr.heap.size wr wr.drew := (Below.refl _ _).drew
      have KE : Hid (∀ V', Below wr.heap.size wr V' → V'.cell? ⟨gb, 2, none⟩ = some (.int .i64 s.cal) ∧ V'.cell? ⟨gb, 4, none⟩ = some (.int .i64 s.off)) := fun V' hb => ⟨(HB.out.below hb HB.out.lt).cell 2 rfl, (HB.out.below hb HB.out.lt).cell 4 rfl⟩
      have KMd := KMx ⟨wr.drew, TD⟩
      dsimp only at KMd
      clear KMx b2 b4
      go_region_held (fun w' => w'.cell? ⟨gb, 2, none⟩ = some (.int .i64 s.cal) ∧ w'.cell? ⟨gb, 4, none⟩ = some (.int .i64 s.off)) (exact KE.out _ (by assumption)) ((go_at_call 400; refine KMd.mono ?_; rintro e w5 ⟨rfl, hb⟩; have TV : Below wr.heap.size wr w5 := TD.trans (hb.mono TD.size)))
      have Z5 := hideP (Z.out.later TV)
      have HB5 := hideP (HB.out.below TV HB.out.lt)
      clear Z HB KE TD TV hb KMd
      have b0 := HB5.out.cell 0 rfl
      have b1 := HB5.out.cell 1 rfl
      by_cases h1 : s.fr ≤ D - s.off
      case neg =>
        have HN := hideP (HMk.out (fun q => h1 q.1))
        clear HHk HMk
        go_wp2
        exact ⟨⟨k + 1, zs, by omega, by apply congrArg (Value.int .i64); omega, HN.out, Z5.out, HB5⟩, by simp [intOf]; omega⟩
      by_cases h2 : D - s.off ≤ s.to
      case neg =>
        have HN := hideP (HMk.out (fun q => h2 q.2))
        clear HHk HMk
        go_wp2
        exact ⟨⟨k + 1, zs, by omega, by apply congrArg (Value.int .i64); omega, HN.out, Z5.out, HB5⟩, by simp [intOf]; omega⟩
      have HN := hideP (HHk.out h1 h2)
      clear HHk HMk
      go_wp2_with (at_builtin; refine wpList_append_own _ rfl _ _ 30 rfl W0.heap.size 3 i0 (.int .i64 0) 1 8 Tryz.underlying30 hi hz0 hz1 hz2 rfl (by decide) _ _ _ rfl (Z5.out.row.alloc _) ⟨w5.heap.size, 0, none⟩ 1 1 [.int .i64 (D - s.off)] rfl rfl (cell_one_new _ _ _) (by simp [Value.oneCell']) (by unfold maxLen; omega) (by omega) (by have := Z5.out.below.size; rw [inew]; omega) ?_; intro v' w9 hown' hgrow _)
      refine ⟨⟨k + 1, zs ++ [D - s.off], by omega, by apply congrArg (Value.int .i64); omega, HN.out, Z5.out.app _ hown' hgrow, ?_⟩, by simp [intOf]; omega⟩
      exact (HB5.out.alloc _).gr1 hgrow (own_ne1 Z5.out.row HB5.out (by decide))
set_option maxRecDepth 100000 in
set_option maxHeartbeats 8000000 in
theorem whenDays2 (f : ByteArray) (p : Int) (y so ca : Int) (v : Value) (r : Rgm) (w : World) (h : GRow w v r) (hr : regimeB r = true) (y1 : 1 ≤ y) (y2 : y ≤ 3000) (p1 : 0 ≤ p) (p2 : p ≤ 99) (hT : Tab w) : Calls Tryz.prog 89 #[v, .agg #[.int .i64 2, .int .i64 0, .int .i64 0, .int .i64 0, .int .i64 0, .int .i64 0, .bool false, .string f, .int .i64 p, .int .i64 y, .int .i64 so, .int .i64 ca]] w fun e w' => ∃ o, e = .returned o ∧ ∃ xs, ISt w o xs w' ∧ WD r ⟨⟨2, 0, 0, ⟨0, 0, 0, false⟩, f, p⟩, y, so, ca⟩ r.segs.length 0 xs := by
  obtain ⟨i0, hi, hz0, hz1, hz2⟩ := info_parts info_int
  have hlen := right_segs hr
  obtain ⟨v1, v2, v3, rfl, _, x1, x2, x3⟩ := h
  obtain ⟨a1, c1, rfl, _, hc1, hcS⟩ := x1
  obtain ⟨gs, rfl, _⟩ := hcS 0 (by omega)
  obtain ⟨W0, hW0, hD, hR, hBl⟩ := two_box w #[.string r.name, .int .i64 r.fr, .int .i64 r.to, .slice (some ⟨gs, 0, none⟩) r.segs.length c1, v2, v3, .int .i64 r.rule] #[.int .i64 2, .int .i64 0, .int .i64 0, .int .i64 0, .int .i64 0, .int .i64 0, .bool false, .string f, .int .i64 p, .int .i64 y, .int .i64 so, .int .i64 ca] 36 59
  have cr0 : ∀ x : Later W0, x.w.cell? ⟨w.heap.size, 0, none⟩ = some (.string r.name) := fun x => (hD x).cell 0 rfl
  have cr1 : ∀ x : Later W0, x.w.cell? ⟨w.heap.size, 1, none⟩ = some (.int .i64 r.fr) := fun x => (hD x).cell 1 rfl
  have cr2 : ∀ x : Later W0, x.w.cell? ⟨w.heap.size, 2, none⟩ = some (.int .i64 r.to) := fun x => (hD x).cell 2 rfl
  have cr3 : ∀ x : Later W0, x.w.cell? ⟨w.heap.size, 3, none⟩ = some (.slice (some ⟨gs, 0, none⟩) r.segs.length c1) := fun x => (hD x).cell 3 rfl
  have cr4 : ∀ x : Later W0, x.w.cell? ⟨w.heap.size, 4, none⟩ = some (v2) := fun x => (hD x).cell 4 rfl
  have cr5 : ∀ x : Later W0, x.w.cell? ⟨w.heap.size, 5, none⟩ = some (v3) := fun x => (hD x).cell 5 rfl
  have cr6 : ∀ x : Later W0, x.w.cell? ⟨w.heap.size, 6, none⟩ = some (.int .i64 r.rule) := fun x => (hD x).cell 6 rfl
  have cs0 : ∀ x : Later W0, x.w.cell? ⟨w.heap.size + 1, 0, none⟩ = some (.int .i64 2) := fun x => (hR x).cell 0 rfl
  have cs1 : ∀ x : Later W0, x.w.cell? ⟨w.heap.size + 1, 1, none⟩ = some (.int .i64 0) := fun x => (hR x).cell 1 rfl
  have cs2 : ∀ x : Later W0, x.w.cell? ⟨w.heap.size + 1, 2, none⟩ = some (.int .i64 0) := fun x => (hR x).cell 2 rfl
  have cs3 : ∀ x : Later W0, x.w.cell? ⟨w.heap.size + 1, 3, none⟩ = some (.int .i64 0) := fun x => (hR x).cell 3 rfl
  have cs4 : ∀ x : Later W0, x.w.cell? ⟨w.heap.size + 1, 4, none⟩ = some (.int .i64 0) := fun x => (hR x).cell 4 rfl
  have cs5 : ∀ x : Later W0, x.w.cell? ⟨w.heap.size + 1, 5, none⟩ = some (.int .i64 0) := fun x => (hR x).cell 5 rfl
  have cs6 : ∀ x : Later W0, x.w.cell? ⟨w.heap.size + 1, 6, none⟩ = some (.bool false) := fun x => (hR x).cell 6 rfl
  have cs7 : ∀ x : Later W0, x.w.cell? ⟨w.heap.size + 1, 7, none⟩ = some (.string f) := fun x => (hR x).cell 7 rfl
  have cs8 : ∀ x : Later W0, x.w.cell? ⟨w.heap.size + 1, 8, none⟩ = some (.int .i64 p) := fun x => (hR x).cell 8 rfl
  have cs9 : ∀ x : Later W0, x.w.cell? ⟨w.heap.size + 1, 9, none⟩ = some (.int .i64 y) := fun x => (hR x).cell 9 rfl
  have cs10 : ∀ x : Later W0, x.w.cell? ⟨w.heap.size + 1, 10, none⟩ = some (.int .i64 so) := fun x => (hR x).cell 10 rfl
  have cs11 : ∀ x : Later W0, x.w.cell? ⟨w.heap.size + 1, 11, none⟩ = some (.int .i64 ca) := fun x => (hR x).cell 11 rfl
  have HS : Hid (∀ (V : World), Below W0.heap.size W0 V → ∀ k, k < r.segs.length → IAt segK V gs k (atK segK r.segs k)) := fun V hb k hk => by
    obtain ⟨g, e, hg, x⟩ := hcS k hk
    cases e
    exact x.below (hBl ⟨V, hb⟩) hg
  have KK : ∀ W, Calls Tryz.prog 145 #[.agg #[.int .i64 2, .int .i64 0, .int .i64 0, .int .i64 0, .int .i64 0, .int .i64 0, .bool false, .string f, .int .i64 p]] W fun e w' => e = .returned (.iface 232 (.agg #[.string (feaOf f).name, .bool (feaOf f).mv, .int .i64 (feaOf f).off, .int .i64 (feaOf f).m, .int .i64 (feaOf f).d, .int .i64 p])) ∧ Below W.heap.size W w' := fun W => kindFea f p W
  have KM : Hid (∀ cc y W, Below W0.heap.size W0 W → Calls Tryz.prog 403 #[.agg #[.string (feaOf f).name, .bool (feaOf f).mv, .int .i64 (feaOf f).off, .int .i64 (feaOf f).m, .int .i64 (feaOf f).d, .int .i64 p], .int .i64 cc, .int .i64 y] W fun e w' => e = .returned (.int .i64 (dIn ⟨2, 0, 0, ⟨0, 0, 0, false⟩, f, p⟩ cc y)) ∧ Below W.heap.size W w') := fun cc y W hb => by
    have hT : Tab W := hT.later (hBl ⟨W, hb⟩)
    exact feaDayIn (feaOf f).name (feaOf f).mv (feaOf f).off (feaOf f).m (feaOf f).d p cc y W (Nat.le_trans (feaOf_len f) (by decide)) hT (by have := feaDay_b cc y (feaOf f).name (feaOf f).mv (feaOf f).off (feaOf f).m (feaOf f).d; omega) (by have := feaDay_b cc y (feaOf f).name (feaOf f).mv (feaOf f).off (feaOf f).m (feaOf f).d; omega) p1 p2
  have HDB : Hid (∀ cc y, -10000 ≤ dIn ⟨2, 0, 0, ⟨0, 0, 0, false⟩, f, p⟩ cc y ∧ dIn ⟨2, 0, 0, ⟨0, 0, 0, false⟩, f, p⟩ cc y ≤ 4000000) := fun cc y => dIn_b _ cc y (by dsimp only; omega) (by dsimp only; omega)
  have HCA : Hid (∀ k i, candAt r ⟨⟨2, 0, 0, ⟨0, 0, 0, false⟩, f, p⟩, y, so, ca⟩ k i = dIn ⟨2, 0, 0, ⟨0, 0, 0, false⟩, f, p⟩ (atK segK r.segs k).cal (y - 1 + (i : Int)) - (atK segK r.segs k).off) := fun k i => rfl
  have HSO : Hid (∀ k, k < r.segs.length → 400 ≤ (atK segK r.segs k).fr ∧ (atK segK r.segs k).to ≤ 1090000 ∧ -3 ≤ (atK segK r.segs k).off ∧ (atK segK r.segs k).off ≤ 3) := fun k hk => by
    have := segOk_nums (right_seg hr hk).1
    omega
  have HHit : Hid (∀ j i xs, WD r ⟨⟨2, 0, 0, ⟨0, 0, 0, false⟩, f, p⟩, y, so, ca⟩ j i xs → j < r.segs.length → (atK segK r.segs j).fr ≤ candAt r ⟨⟨2, 0, 0, ⟨0, 0, 0, false⟩, f, p⟩, y, so, ca⟩ j i → candAt r ⟨⟨2, 0, 0, ⟨0, 0, 0, false⟩, f, p⟩, y, so, ca⟩ j i ≤ (atK segK r.segs j).to → WD r ⟨⟨2, 0, 0, ⟨0, 0, 0, false⟩, f, p⟩, y, so, ca⟩ j (i + 1) (xs ++ [candAt r ⟨⟨2, 0, 0, ⟨0, 0, 0, false⟩, f, p⟩, y, so, ca⟩ j i])) := fun j i xs q a b c => q.hit a b c
  have HMis : Hid (∀ j i xs, WD r ⟨⟨2, 0, 0, ⟨0, 0, 0, false⟩, f, p⟩, y, so, ca⟩ j i xs → ¬ ((atK segK r.segs j).fr ≤ candAt r ⟨⟨2, 0, 0, ⟨0, 0, 0, false⟩, f, p⟩, y, so, ca⟩ j i ∧ candAt r ⟨⟨2, 0, 0, ⟨0, 0, 0, false⟩, f, p⟩, y, so, ca⟩ j i ≤ (atK segK r.segs j).to) → WD r ⟨⟨2, 0, 0, ⟨0, 0, 0, false⟩, f, p⟩, y, so, ca⟩ j (i + 1) xs) := fun j i xs q a => q.miss a
  have HNx : Hid (∀ j xs, WD r ⟨⟨2, 0, 0, ⟨0, 0, 0, false⟩, f, p⟩, y, so, ca⟩ j 3 xs → WD r ⟨⟨2, 0, 0, ⟨0, 0, 0, false⟩, f, p⟩, y, so, ca⟩ (j + 1) 0 xs) := fun j xs q => q.next
  have HLn : Hid (∀ j i xs, WD r ⟨⟨2, 0, 0, ⟨0, 0, 0, false⟩, f, p⟩, y, so, ca⟩ j i xs → xs.length ≤ 3 * j + i) := fun j i xs q => q.2.2
  have HN0 : Hid (WD r ⟨⟨2, 0, 0, ⟨0, 0, 0, false⟩, f, p⟩, y, so, ca⟩ 0 0 []) := wd_nil
  have IX : ∀ (k : Nat), k < 3 → ∀ W, (Instr.index 134 (.agg #[.int .i64 (y - 1), .int .i64 y, .int .i64 (y + 1)]) (.int .i64 (k : Int))).run Tryz.prog W = .ok (.int .i64 (y - 1 + (k : Int))) W := fun k h W => by
    have q := idx3w (y - 1) y (y + 1) k h W
    rw [three_at y k h] at q
    exact q
  obtain ⟨AR, hAR⟩ : ∃ AR : Array Value, AR = #[.int .i64 (y - 1), .int .i64 y, .int .i64 (y + 1)] := ⟨_, rfl⟩
  rw [← hAR] at IX
  have HAR := hideP hAR
  have HIX := hideP IX
  have HW0 := hideP hW0
  have HB0 : Hid (Below w.heap.size w W0) := hBl ⟨W0, Below.refl _ _⟩
  clear hW0 hBl hD hR hcS hc1 hT x2 x3 IX hAR hr
  generalize WD r ⟨⟨2, 0, 0, ⟨0, 0, 0, false⟩, f, p⟩, y, so, ca⟩ = wd at *
  generalize dIn ⟨2, 0, 0, ⟨0, 0, 0, false⟩, f, p⟩ = dn at *
  generalize candAt r ⟨⟨2, 0, 0, ⟨0, 0, 0, false⟩, f, p⟩, y, so, ca⟩ = cd at *
  go_enter Tryz.func89, Tryz.ntmps89
  go_wp2_with fail
  rw [← HW0.out]
  refine (KK _).mono ?_
  rintro e w1 ⟨rfl, hb⟩
  have S1 : Hid (ISt W0 (.slice none 0 0) [] w1) := (ISt.nil W0).later hb
  have d3 := cr3 ⟨w1, hb⟩
  dsimp only at d3
  clear hb KK
  go_wp2_with fail
  clear d3
  go_loopw [6, 18] (fun o i wr => ∃ (j : Nat) (xs : List Int), j ≤ r.segs.length ∧ i = .int .i64 (j : Int) ∧ Hid (wd j 0 xs) ∧ ISt W0 o xs wr) (fun _ i _ => ((r.segs.length : Int) - intOf i).toNat)
  case atStart => exact ⟨0, [], Nat.zero_le _, rfl, HN0, S1.out⟩
  case round =>
    obtain ⟨j, xs, hj, rfl, hWD, hS⟩ := hrel
    have S := hideP hS
    clear hS S1 HN0
    by_cases hlt : (j : Int) < (r.segs.length : Int)
    case neg =>
      obtain rfl : j = r.segs.length := by omega
      go_wp2
      go_ret
      exact ⟨_, rfl, xs, ⟨own_mono1 S.out.row HB0.out.size, HB0.out.trans (S.out.below.mono HB0.out.size)⟩, hWD.out⟩
    have hjn : j < r.segs.length := by omega
    have hsg := (HS.out wr S.out.below j hjn).seg
    have hso := HSO.out j hjn
    have HC2 : Hid (∀ i : Nat, cd j i = dn (atK segK r.segs j).cal (y - 1 + (i : Int)) - (atK segK r.segs j).off) := HCA.out j
    have HH2 : Hid (∀ (i : Nat) (xs : List Int), wd j i xs → (atK segK r.segs j).fr ≤ cd j i → cd j i ≤ (atK segK r.segs j).to → wd j (i + 1) (xs ++ [cd j i])) := fun i xs q a b => HHit.out j i xs q hjn a b
    have HM2 : Hid (∀ (i : Nat) (xs : List Int), wd j i xs → ¬ ((atK segK r.segs j).fr ≤ cd j i ∧ cd j i ≤ (atK segK r.segs j).to) → wd j (i + 1) xs) := fun i xs q a => HMis.out j i xs q a
    generalize atK segK r.segs j = s at *
    obtain ⟨g0, g1, g2, g3, g4⟩ := hsg
    obtain ⟨V, hV⟩ : ∃ V, V = wr.alloc (.cells #[.int .i64 s.fr, .int .i64 s.to, .int .i64 s.cal, .int .i64 s.sty, .int .i64 s.off] 92) := ⟨_, rfl⟩
    have SV0 : ISt W0 u6 xs V := by rw [hV]; exact S.out.later ((Below.refl _ _).alloc (Nat.le_refl _) _)
    have bV : Blk V wr.heap.size #[.int .i64 s.fr, .int .i64 s.to, .int .i64 s.cal, .int .i64 s.sty, .int .i64 s.off] 92 := by rw [hV]; exact Blk.new _ _ _
    have HV := hideP hV
    have SV := hideP SV0
    have HBV := hideP bV
    have e9 := cs9 ⟨wr, S.out.below⟩
    have f9 := cs9 ⟨V, SV0.below⟩
    dsimp only at e9 f9
    clear hV SV0 bV
    go_upto_region 6 with fail
    rw [← HV.out]
    go_wp2_with fail
    rw [← HAR.out]
    clear g0 g1 g2 g3 g4 e9 f9 HV S
    generalize wr.heap.size = gb at *
    go_loopw [6, 31] (fun o i wr2 => ∃ (k : Nat) (zs : List Int), k ≤ 3 ∧ i = .int .i64 (k : Int) ∧ Hid (wd j k zs) ∧ ISt W0 o zs wr2 ∧ Hid (Blk wr2 gb #[.int .i64 s.fr, .int .i64 s.to, .int .i64 s.cal, .int .i64 s.sty, .int .i64 s.off] 92)) (fun _ i _ => 3 - (intOf i).toNat)
    case atStart => exact ⟨0, xs, Nat.zero_le _, rfl, hWD, SV.out, HBV⟩
    case round =>
      obtain ⟨k, zs, hk, rfl, hWZ, hS, HB⟩ := hrel
      have Z := hideP hS
      clear hS SV HBV
      by_cases hk3 : k < 3
      case neg =>
        obtain rfl : k = 3 := by omega
        have HN : Hid (wd (j + 1) 0 zs) := HNx.out j zs hWZ.out
        clear hWZ
        go_wp2
        exact ⟨⟨j + 1, zs, by omega, by apply congrArg (Value.int .i64); omega, HN, Z.out⟩, by simp [intOf]; omega⟩
      have hix := HIX.out k hk3
      have hDb := HDB.out s.cal (y - 1 + (k : Int))
      have KMx : ∀ x : Later wr, Calls Tryz.prog 403 #[.agg #[.string (feaOf f).name, .bool (feaOf f).mv, .int .i64 (feaOf f).off, .int .i64 (feaOf f).m, .int .i64 (feaOf f).d, .int .i64 p], .int .i64 s.cal, .int .i64 (y - 1 + (k : Int))] x.w fun e w' => e = .returned (.int .i64 (dn s.cal (y - 1 + (k : Int)))) ∧ Below x.w.heap.size x.w w' := fun x => KM.out s.cal (y - 1 + (k : Int)) x.w (Z.out.later x.below).below
      have hck := HC2.out k
      have hzl := HLn.out j k zs hWZ.out
      have HHk : Hid (s.fr ≤ cd j k → cd j k ≤ s.to → wd j (k + 1) (zs ++ [cd j k])) := fun a b => HH2.out k zs hWZ.out a b
      have HMk : Hid (¬ (s.fr ≤ cd j k ∧ cd j k ≤ s.to) → wd j (k + 1) zs) := fun a => HM2.out k zs hWZ.out a
      rw [hck] at HHk HMk
      clear hck hWZ
      generalize dn s.cal (y - 1 + (k : Int)) = D at *
      have b2 := Later.at (HB.out.cell 2 rfl)
      have b4 := Later.at (HB.out.cell 4 rfl)
      go_wp2_with fail
      generalize y - 1 + (k : Int) = yk at *
      have TD : Below wr.heap.size wr wr.drew := (Below.refl _ _).drew
      have KE : Hid (∀ V', Below wr.heap.size wr V' → V'.cell? ⟨gb, 2, none⟩ = some (.int .i64 s.cal) ∧ V'.cell? ⟨gb, 4, none⟩ = some (.int .i64 s.off)) := fun V' hb => ⟨(HB.out.below hb HB.out.lt).cell 2 rfl, (HB.out.below hb HB.out.lt).cell 4 rfl⟩
      have KMd := KMx ⟨wr.drew, TD⟩
      dsimp only at KMd
      clear KMx b2 b4
      go_region_held (fun w' => w'.cell? ⟨gb, 2, none⟩ = some (.int .i64 s.cal) ∧ w'.cell? ⟨gb, 4, none⟩ = some (.int .i64 s.off)) (exact KE.out _ (by assumption)) ((go_at_call 403; refine KMd.mono ?_; rintro e w5 ⟨rfl, hb⟩; have TV : Below wr.heap.size wr w5 := TD.trans (hb.mono TD.size)))
      have Z5 := hideP (Z.out.later TV)
      have HB5 := hideP (HB.out.below TV HB.out.lt)
      clear Z HB KE TD TV hb KMd
      have b0 := HB5.out.cell 0 rfl
      have b1 := HB5.out.cell 1 rfl
      by_cases h1 : s.fr ≤ D - s.off
      case neg =>
        have HN := hideP (HMk.out (fun q => h1 q.1))
        clear HHk HMk
        go_wp2
        exact ⟨⟨k + 1, zs, by omega, by apply congrArg (Value.int .i64); omega, HN.out, Z5.out, HB5⟩, by simp [intOf]; omega⟩
      by_cases h2 : D - s.off ≤ s.to
      case neg =>
        have HN := hideP (HMk.out (fun q => h2 q.2))
        clear HHk HMk
        go_wp2
        exact ⟨⟨k + 1, zs, by omega, by apply congrArg (Value.int .i64); omega, HN.out, Z5.out, HB5⟩, by simp [intOf]; omega⟩
      have HN := hideP (HHk.out h1 h2)
      clear HHk HMk
      go_wp2_with (at_builtin; refine wpList_append_own _ rfl _ _ 30 rfl W0.heap.size 3 i0 (.int .i64 0) 1 8 Tryz.underlying30 hi hz0 hz1 hz2 rfl (by decide) _ _ _ rfl (Z5.out.row.alloc _) ⟨w5.heap.size, 0, none⟩ 1 1 [.int .i64 (D - s.off)] rfl rfl (cell_one_new _ _ _) (by simp [Value.oneCell']) (by unfold maxLen; omega) (by omega) (by have := Z5.out.below.size; rw [inew]; omega) ?_; intro v' w9 hown' hgrow _)
      refine ⟨⟨k + 1, zs ++ [D - s.off], by omega, by apply congrArg (Value.int .i64); omega, HN.out, Z5.out.app _ hown' hgrow, ?_⟩, by simp [intOf]; omega⟩
      exact (HB5.out.alloc _).gr1 hgrow (own_ne1 Z5.out.row HB5.out (by decide))
set_option maxRecDepth 100000 in
set_option maxHeartbeats 8000000 in
theorem implWhenDays (v : Value) (r : Rgm) (s : Say) (w : World) (h : GRow w v r) (hr : regimeB r = true) (hs : sayB s = true) (hT : Tab w) : Calls Tryz.prog 89 #[v, sayV s] w fun e w' => ∃ o, e = .returned o ∧ ∃ xs, ISt w o xs w' ∧ WD r s r.segs.length 0 xs := by
  obtain ⟨y1, y2⟩ := say_year hs
  obtain ⟨⟨k, m, d, ⟨a, b, c, t⟩, f, p⟩, y, so, ca⟩ := s
  have hw : whnB ⟨k, m, d, ⟨a, b, c, t⟩, f, p⟩ = true := by unfold sayB at hs; simp only [Bool.and_eq_true] at hs; exact hs.1
  rcases whn_cases hw with ⟨rfl, rfl, rfl, rfl, rfl, rfl, rfl, _⟩ | ⟨rfl, rfl, rfl, rfl, rfl, _⟩ | ⟨rfl, rfl, rfl, rfl, rfl, rfl, rfl, _, p1, p2⟩
  · exact whenDays0 m d y so ca v r w h hr y1 y2 hT
  · exact whenDays1 a b c t y so ca v r w h hr y1 y2 hT
  · exact whenDays2 f p y so ca v r w h hr y1 y2 p1 p2 hT
def patTo (l : List Pat) (k : Nat) : List Int := (l.take k).map Pat.day
theorem patTo_next {l : List Pat} {k : Nat} (h : k < l.length) : patTo l (k + 1) = patTo l k ++ [(atK patK l k).day] := by
  unfold patTo
  rw [List.take_succ_eq_append_getElem h, List.map_append, atK_eq h]
  rfl
theorem patTo_len (l : List Pat) (k : Nat) : (patTo l k).length ≤ k := by
  unfold patTo
  rw [List.length_map, List.length_take]
  omega
set_option maxRecDepth 100000 in
set_option maxHeartbeats 4000000 in
theorem implPatched (v : Value) (r : Rgm) (w : World) (h : GRow w v r) (hl : r.pats.length ≤ 8) : Calls Tryz.prog 67 #[v] w fun e w' => ∃ o, e = .returned o ∧ ISt w o (r.pats.map Pat.day) w' := by
  obtain ⟨i0, hi, hz0, hz1, hz2⟩ := info_parts info_int
  obtain ⟨v1, v2, v3, rfl, _, x1, x2, x3⟩ := h
  obtain ⟨a1, c1, rfl, _⟩ := x1
  obtain ⟨a2, c2, rfl, _, _, hcP⟩ := x2
  obtain ⟨a3, c3, rfl, _⟩ := x3
  obtain ⟨W0, hW0, d0, d1, d2, d3, d4, d5, d6, hBl⟩ := seven_box w (.string r.name) (.int .i64 r.fr) (.int .i64 r.to) (.slice a1 r.segs.length c1) (.slice a2 r.pats.length c2) (.slice a3 r.rgns.length c3) (.int .i64 r.rule) 36
  have HK : Hid (∀ (V : World), Below W0.heap.size W0 V → ∀ k, k < r.pats.length → ∃ g, a2 = some ⟨g, 0, none⟩ ∧ IAt patK V g k (atK patK r.pats k)) := fun V hb k hk => by
    obtain ⟨g, e, hg, x⟩ := hcP k hk
    exact ⟨g, e, x.below (hBl ⟨V, hb⟩) hg⟩
  have HW0 := hideP hW0
  have HB0 : Hid (Below w.heap.size w W0) := hBl ⟨W0, Below.refl _ _⟩
  have k4 := d4 ⟨W0, Below.refl _ _⟩
  dsimp only at k4
  rw [show r.pats.map Pat.day = patTo r.pats r.pats.length by unfold patTo; rw [List.take_length]]
  clear hW0 hBl hcP d0 d1 d2 d3 d4 d5 d6
  have S0 : Hid (ISt W0 (.slice none 0 0) [] W0) := ISt.nil W0
  go_enter Tryz.func67, Tryz.ntmps67
  go_upto_region 2 with fail
  rw [← HW0.out]
  go_wp2_with fail
  clear k4
  go_loopw [3, 9] (fun o i wr => ∃ k : Nat, k ≤ r.pats.length ∧ i = .int .i64 (k : Int) ∧ ISt W0 o (patTo r.pats k) wr) (fun _ i _ => ((r.pats.length : Int) - intOf i).toNat)
  case atStart => exact ⟨0, Nat.zero_le _, rfl, S0.out⟩
  case round =>
    obtain ⟨k, hk, rfl, hS⟩ := hrel
    have S := hideP hS
    clear hS S0
    by_cases hlt : (k : Int) < (r.pats.length : Int)
    case neg =>
      obtain rfl : k = r.pats.length := by omega
      go_wp2
      go_ret
      exact ⟨_, rfl, own_mono1 S.out.row HB0.out.size, HB0.out.trans (S.out.below.mono HB0.out.size)⟩
    have hkn : k < r.pats.length := by omega
    obtain ⟨g, rfl, x⟩ := HK.out wr S.out.below k hkn
    have g0 : wr.cell? ⟨g, k * 3, none⟩ = some (.int .i64 (atK patK r.pats k).day) := x 0 _ rfl
    have g1 : wr.cell? ⟨g, k * 3 + 1, none⟩ = some (.int .i64 (atK patK r.pats k).mon) := x 1 _ rfl
    have g2 : wr.cell? ⟨g, k * 3 + 2, none⟩ = some (.int .i64 (atK patK r.pats k).dom) := x 2 _ rfl
    have hln := patTo_len r.pats k
    have HN := hideP (patTo_next (l := r.pats) hkn)
    clear x
    generalize patTo r.pats k = xs at *
    generalize atK patK r.pats k = q at *
    obtain ⟨V, hV⟩ : ∃ V, V = wr.alloc (.cells #[.int .i64 q.day, .int .i64 q.mon, .int .i64 q.dom] 98) := ⟨_, rfl⟩
    have SV0 : ISt W0 u3 xs V := by rw [hV]; exact S.out.later ((Below.refl _ _).alloc (Nat.le_refl _) _)
    have bV : Blk V wr.heap.size #[.int .i64 q.day, .int .i64 q.mon, .int .i64 q.dom] 98 := by rw [hV]; exact Blk.new _ _ _
    have HV := hideP hV
    have SV := hideP SV0
    have b0 := bV.cell 0 rfl
    clear hV SV0 bV
    go_upto_region 5 with fail
    rw [← HV.out]
    clear HV S g0 g1 g2
    generalize wr.heap.size = gb at *
    go_wp2_with (at_builtin; refine wpList_append_own _ rfl _ _ 30 rfl W0.heap.size 3 i0 (.int .i64 0) 1 8 Tryz.underlying30 hi hz0 hz1 hz2 rfl (by decide) _ _ _ rfl (SV.out.row.alloc _) ⟨V.heap.size, 0, none⟩ 1 1 [.int .i64 q.day] rfl rfl (cell_one_new _ _ _) (by simp [Value.oneCell']) (by unfold maxLen; omega) (by omega) (by have := SV.out.below.size; rw [inew]; omega) ?_; intro v' w9 hown' hgrow _)
    refine ⟨⟨k + 1, by omega, by apply congrArg (Value.int .i64); omega, ?_⟩, by simp [intOf]; omega⟩
    rw [HN.out]
    exact SV.out.app q.day hown' hgrow
end Go.Proofs.YtjojgfdfbkmlkaaGreatDoor.ctr
namespace Go.Proofs.YtjojgfdfbkmlkaaGreatDoor.ctr
open Go.RowKit
theorem compact_set (zs : List Int) (h : zs.Pairwise (· ≤ ·)) : DSet (Lib.compact zs) (fun z => z ∈ zs) := by
  have hat : ∀ j, j < zs.length → (zs.toArray)[j]! = zs.getD j 0 := fun j hj => by simp [List.getD, hj, getElem!_pos]
  have hle : ∀ i j, i ≤ j → j < zs.length → zs.getD i 0 ≤ zs.getD j 0 := fun i j hij hj => by
    by_cases e : i = j
    · rw [e]; exact Int.le_refl _
    · have := List.pairwise_iff_getElem.1 h i j (by omega) hj (by omega)
      simpa [List.getD, hj, show i < zs.length by omega] using this
  unfold Lib.compact Lib.compactUpTo
  refine ⟨List.pairwise_map.2 ?_, fun z => ?_⟩
  · have hp : ((List.range zs.length).filter (Lib.keeps zs.toArray)).Pairwise (fun i j => i < j ∧ j < zs.length ∧ Lib.keeps zs.toArray j = true) := by
      have h1 : ((List.range zs.length).filter (Lib.keeps zs.toArray)).Pairwise (· < ·) := List.Pairwise.filter _ List.pairwise_lt_range
      refine List.Pairwise.imp_of_mem ?_ h1
      intro a b ha hb hab
      have := List.mem_filter.1 hb
      exact ⟨hab, List.mem_range.1 this.1, this.2⟩
    refine hp.imp ?_
    rintro i j ⟨hij, hj, hk⟩
    unfold Lib.keeps at hk
    have hk := of_decide_eq_true hk
    rcases hk with hk | hk
    · omega
    · rw [hat j hj, hat (j - 1) (by omega)] at hk
      rw [hat i (by omega), hat j hj]
      have a := hle i (j - 1) (by omega) (by omega)
      have b := hle (j - 1) j (by omega) hj
      omega
  · rw [List.mem_map]
    constructor
    · rintro ⟨j, hj, rfl⟩
      have hj := List.mem_range.1 (List.mem_filter.1 hj).1
      rw [hat j hj]
      simp [List.getD, hj]
    · intro hz
      obtain ⟨j0, hj0, e0⟩ := List.getElem_of_mem hz
      have hex : ∃ j, j < zs.length ∧ zs.getD j 0 = z := ⟨j0, hj0, by simpa [List.getD, hj0] using e0⟩
      have hmin : ∀ m, (∃ j, j < zs.length ∧ zs.getD j 0 = z ∧ j ≤ m) → ∃ j, j < zs.length ∧ zs.getD j 0 = z ∧ ∀ i, i < j → zs.getD i 0 ≠ z := by
        intro m
        induction m with
        | zero => rintro ⟨j, a, b, c⟩; exact ⟨j, a, b, fun i hi => by omega⟩
        | succ m ih =>
          rintro ⟨j, a, b, c⟩
          by_cases e : ∃ i, i < j ∧ zs.getD i 0 = z
          · obtain ⟨i, hi, q⟩ := e
            exact ih ⟨i, by omega, q, by omega⟩
          · exact ⟨j, a, b, fun i hi q => e ⟨i, hi, q⟩⟩
      obtain ⟨j, a, b⟩ := hex
      obtain ⟨j, a, b, c⟩ := hmin j ⟨j, a, b, Nat.le_refl _⟩
      refine ⟨j, List.mem_filter.2 ⟨List.mem_range.2 a, ?_⟩, by rw [hat j a]; exact b⟩
      unfold Lib.keeps
      refine decide_eq_true ?_
      by_cases e : j = 0
      · exact .inl e
      · refine .inr ?_
        rw [hat j a, hat (j - 1) (by omega), b]
        exact fun q => c (j - 1) (by omega) q.symm
theorem sort_set {xs : List Int} : (xs.mergeSort (fun x y => decide (x ≤ y))).Pairwise (· ≤ ·) ∧ ∀ z, z ∈ xs.mergeSort (fun x y => decide (x ≤ y)) ↔ z ∈ xs := by
  refine ⟨?_, fun z => (List.mergeSort_perm xs _).mem_iff⟩
  have := List.pairwise_mergeSort (le := fun x y : Int => decide (x ≤ y)) (fun a b c h1 h2 => by simp at *; omega) (fun a b => by simp; omega) xs
  exact this.imp (fun h => of_decide_eq_true h)
theorem tidy_set (xs : List Int) : DSet (Lib.compact (xs.mergeSort (fun x y => decide (x ≤ y)))) (fun z => z ∈ xs) := (compact_set _ sort_set.1).imp sort_set.2
theorem pat_days {r : Rgm} (hr : regimeB r = true) {z : Int} (hz : z ∈ r.pats.map Pat.day) : r.fr ≤ z ∧ z ≤ r.to := by
  obtain ⟨p, hp, rfl⟩ := List.mem_map.1 hz
  obtain ⟨k, hk, rfl⟩ := List.getElem_of_mem hp
  unfold regimeB patsB at hr
  simp only [Bool.and_eq_true] at hr
  have := allTo_at hr.2.2.2.2.1.2 hk
  unfold patFit at this
  simp only [Bool.and_eq_true] at this
  rw [atK_eq hk] at this
  exact of_inB this.2.1
theorem pat_mem {l : List Pat} {n : Int} (h : 0 ≤ patAt l n) : n ∈ l.map Pat.day := by
  unfold patAt ifind at h
  rcases ifc_cases patK (patIs n) l 0 with ⟨a, _⟩ | ⟨k, hk, a, b⟩
  · omega
  · unfold patIs at b
    have b := of_decide_eq_true b
    rw [atK_eq hk] at b
    rw [← b]
    exact List.mem_map.2 ⟨_, List.getElem_mem hk, rfl⟩
theorem wd_in {r : Rgm} {s : Say} (hr : regimeB r = true) {j i : Nat} {xs : List Int} (h : WD r s j i xs) {z : Int} (hz : z ∈ xs) : r.fr ≤ z ∧ z ≤ r.to := by
  obtain ⟨k, hk, k1, k2⟩ := h.1 z hz
  have := right_seg hr hk
  omega
theorem days_final {r : Rgm} {s : Say} (hr : regimeB r = true) (hs : sayB s = true) {xs : List Int} (h : WD r s r.segs.length 0 xs) : Lib.compact (((xs ++ r.pats.map Pat.day).filter (saidB r s)).mergeSort (fun x y => decide (x ≤ y))) = daysSaid r s := by
  unfold daysSaid
  rw [if_pos ⟨hr, hs⟩]
  refine DSet.eq (tidy_set _) ((daysWhere_set r.fr r.to (saidB r s)).imp (fun z => ⟨fun k => ?_, fun k => ?_⟩))
  · refine List.mem_filter.2 ⟨List.mem_append.2 ?_, k.2.2⟩
    rcases said_all hr hs h k.1 k.2.1 k.2.2 with q | q
    · exact .inl q
    · exact .inr (pat_mem q)
  · obtain ⟨k1, k2⟩ := List.mem_filter.1 k
    rcases List.mem_append.1 k1 with q | q
    · have := wd_in hr h q
      exact ⟨this.1, this.2, k2⟩
    · have := pat_days hr q
      exact ⟨this.1, this.2, k2⟩
end Go.Proofs.YtjojgfdfbkmlkaaGreatDoor.ctr
namespace Go.Proofs.YtjojgfdfbkmlkaaGreatDoor.ctr
open Go.RowKit
set_option maxHeartbeats 4000000 in
theorem idxSaid (g cap : Nat) (xs : List Int) (a1 a2 : Value) (p : Int → Bool) (W : World) (hR : RowI W g xs) (hl : xs.length ≤ 2000000) (KC : ∀ V x, Below W.heap.size W V → x ∈ xs → Calls Tryz.prog 90 #[.int .i64 x, a1, a2] V fun e w' => e = .returned (.bool (!p x)) ∧ Below V.heap.size V w') :
    Calls Tryz.prog 126 #[.slice (some ⟨g, 0, none⟩) xs.length cap, .func (.func 90) #[] #[a1, a2]] W fun e w' => ∃ z : Int, e = .returned (.int .i64 z) ∧ ((z = -1 ∧ ∀ x ∈ xs, p x = true) ∨ ∃ k : Nat, k < xs.length ∧ z = (k : Int) ∧ p (xs.getD k 0) = false ∧ ∀ j, j < k → p (xs.getD j 0) = true) ∧ Below W.heap.size W w' := by
  have HR := hideP hR
  have HK := hideP KC
  clear hR KC
  go_enter Tryz.func126, Tryz.ntmps126
  go_wp2_with fail
  go_loopw [5, 8] (fun _ i wr => ∃ k : Nat, k ≤ xs.length ∧ i = .int .i64 (k : Int) ∧ Hid (∀ j, j < k → p (xs.getD j 0) = true) ∧ Below W.heap.size W wr) (fun _ i _ => ((xs.length : Int) - intOf i).toNat)
  case atStart => exact ⟨0, Nat.zero_le _, rfl, fun j hj => absurd hj (Nat.not_lt_zero _), Below.refl _ _⟩
  case round =>
    obtain ⟨k, hk, rfl, hA, hB⟩ := hrel
    have B := hideP hB
    clear hB
    by_cases hlt : (k : Int) < (xs.length : Int)
    · have hkn : k < xs.length := by omega
      have hc : wr.cell? ⟨g, k, none⟩ = some (.int .i64 (xs.getD k 0)) := (HR.out.below B.out).cell hkn
      have hm : xs.getD k 0 ∈ xs := by simp only [List.getD, List.getElem?_eq_getElem hkn, Option.getD_some]; exact List.getElem_mem hkn
      have K := HK.out wr (xs.getD k 0) B.out hm
      cases hp : p (xs.getD k 0)
      · rw [hp] at K
        have HP := hideP hp
        clear hp hm
        generalize xs.getD k 0 = x at hc K
        go_wp2_with fail
        refine K.mono ?_
        rintro e w1 ⟨rfl, hb⟩
        go_wp2
        go_ret
        exact ⟨_, rfl, .inr ⟨k, hkn, rfl, HP.out, hA.out⟩, B.out.trans (hb.mono B.out.size)⟩
      · rw [hp] at K
        have HA2 : Hid (∀ j, j < k + 1 → p (xs.getD j 0) = true) := fun j hj => by
          by_cases e : j = k
          · rw [e]; exact hp
          · exact hA.out j (by omega)
        clear hp hm hA
        generalize xs.getD k 0 = x at hc K
        go_wp2_with fail
        refine K.mono ?_
        rintro e w1 ⟨rfl, hb⟩
        go_wp2
        exact ⟨⟨k + 1, hkn, by apply congrArg (Value.int .i64); omega, HA2, B.out.trans (hb.mono B.out.size)⟩, by simp [intOf]; omega⟩
    · obtain rfl : k = xs.length := by omega
      go_wp2
      go_ret
      exact ⟨_, rfl, .inl ⟨rfl, fun x hx => by
        obtain ⟨j, hj, rfl⟩ := List.getElem_of_mem hx
        have := hA.out j hj
        simpa [List.getD, hj] using this⟩, B.out⟩
set_option maxHeartbeats 4000000 in
theorem delSaid (g cap : Nat) (xs : List Int) (a1 a2 : Value) (p : Int → Bool) (W0 W : World) (hg : W0.heap.size ≤ g) (hB : Below W0.heap.size W0 W) (hR : RowI W g xs) (hl : xs.length ≤ 2000000) (hcap : xs.length ≤ cap) (KC : ∀ V x, Below W0.heap.size W0 V → x ∈ xs → Calls Tryz.prog 90 #[.int .i64 x, a1, a2] V fun e w' => e = .returned (.bool (!p x)) ∧ Below V.heap.size V w') :
    Calls Tryz.prog 68 #[.slice (some ⟨g, 0, none⟩) xs.length cap, .func (.func 90) #[] #[a1, a2]] W fun e w' => e = .returned (.slice (some ⟨g, 0, none⟩) (xs.filter p).length cap) ∧ RowI w' g (xs.filter p) ∧ Below W0.heap.size W0 w' := by
  have KX := idxSaid g cap xs a1 a2 p W hR hl (fun V x hb hx => KC V x (hB.trans (hb.mono hB.size)) hx)
  have HR := hideP hR
  have HB := hideP hB
  have HK := hideP KC
  have HG := hideP hg
  clear hR KC hB
  go_enter Tryz.func68, Tryz.ntmps68
  go_wp2_with fail
  refine KX.mono ?_
  rintro e w1 ⟨z, rfl, hz, hb⟩
  have B1 := hideP hb
  clear hb KX
  rcases hz with ⟨rfl, hall⟩ | ⟨k, hk, rfl, hp0, hbe⟩
  · have e : xs.filter p = xs := List.filter_eq_self.2 hall
    have He := hideP e
    clear e hall
    go_wp2
    go_ret
    exact ⟨(by rw [He.out]; rfl), by rw [He.out]; exact HR.out.below B1.out, HB.out.trans (B1.out.mono HB.out.size)⟩
  have KS : Hid (Kpt p xs xs k (k + 1)) := Kpt.start hk hp0 hbe
  have R1 : Hid (RowI w1 g xs) := HR.out.below B1.out
  have B2 : Hid (Below W0.heap.size W0 w1) := HB.out.trans (B1.out.mono HB.out.size)
  clear hp0 hbe HR HB B1
  have hne1 : ((k : Int) == -1) = false := beq_eq_false_iff_ne.2 (by omega)
  go_wp2_with fail
  go_loopw [5, 6, 7] (fun i j _ wr => ∃ (a b : Nat) (L : List Int), i = .int .i64 (a : Int) ∧ j = .int .i64 (b : Int) ∧ Hid (Kpt p xs L a b) ∧ Hid (RowI wr g L) ∧ Hid (Below W0.heap.size W0 wr)) (fun _ j _ _ => ((xs.length : Int) - intOf j).toNat)
  case atStart => exact ⟨k, k + 1, xs, rfl, by apply congrArg (Value.int .i64); omega, KS, R1, B2⟩
  case round =>
    obtain ⟨a, b, L, rfl, rfl, KP, R, B⟩ := hrel
    have hbl := KP.out.le
    have hab := KP.out.lt
    have hLl := KP.out.len
    clear KS R1 B2
    by_cases hlt : (b : Int) < (xs.length : Int)
    · have hbn : b < xs.length := by omega
      have hc : wr.cell? ⟨g, b, none⟩ = some (.int .i64 (xs.getD b 0)) := by rw [R.out.cell (by omega), KP.out.at]
      have hm : xs.getD b 0 ∈ xs := by simp only [List.getD, List.getElem?_eq_getElem hbn, Option.getD_some]; exact List.getElem_mem hbn
      have K := HK.out wr (xs.getD b 0) B.out hm
      have hac : wr.cell? ⟨g, a, none⟩ = some (.int .i64 (L.getD a 0)) := R.out.cell (by omega)
      have HL := hideP hLl
      clear hLl
      cases hp : p (xs.getD b 0)
      · rw [hp] at K
        have KN : Hid (Kpt p xs L a (b + 1)) := KP.out.skip hbn hp
        clear hp hm KP
        generalize xs.getD b 0 = x at hc K
        go_wp2_with fail
        refine K.mono ?_
        rintro e w2 ⟨rfl, hb⟩
        go_wp2
        exact ⟨⟨a, b + 1, L, rfl, by apply congrArg (Value.int .i64); omega, KN, R.out.below hb, B.out.trans (hb.mono B.out.size)⟩, by simp [intOf]; omega⟩
      · rw [hp] at K
        have KN : Hid (Kpt p xs (L.set a (xs.getD b 0)) (a + 1) (b + 1)) := KP.out.keep hbn hp
        clear hp hm KP
        generalize xs.getD b 0 = x at hc K KN
        generalize L.getD a 0 = y at hac
        go_wp2_with fail
        refine K.mono ?_
        rintro e w2 ⟨rfl, hb⟩
        have R2 := hideP (R.out.below hb)
        have B2 := hideP (B.out.trans (hb.mono B.out.size))
        have c2 : w2.cell? ⟨g, a, none⟩ = some (.int .i64 (L.getD a 0)) := R2.out.cell (Nat.lt_of_lt_of_eq (Nat.lt_of_lt_of_le hab hbl) HL.out.symm)
        have f2 : w2.frozen? ⟨g, a, none⟩ = false := R2.out.thaw a
        clear hb
        go_wp2
        exact ⟨⟨a + 1, b + 1, L.set a x, by apply congrArg (Value.int .i64); omega, by apply congrArg (Value.int .i64); omega, KN, R2.out.set (by have := HL.out; omega) x, below_store B2.out _ HG.out⟩, by simp [intOf]; omega⟩
    · obtain rfl : b = xs.length := by omega
      obtain ⟨e1, e2⟩ := KP.out.done
      have RF : Hid (RowI (wr.setCells g a (List.replicate (xs.length - a) (.int .i64 0))) g (xs.filter p)) := by
        have q := R.out.clear (k := a) (List.replicate (xs.length - a) (.int .i64 0))
        rw [e1] at q
        exact q
      have BF : Hid (Below W0.heap.size W0 (wr.setCells g a (List.replicate (xs.length - a) (.int .i64 0)))) := below_setCells HG.out _ _ _ B.out
      have hcl : ∀ ty, (Builtin.clear_ #[30] ty #[.slice (some ⟨g, a, none⟩) (xs.length - a) (cap - a)]).run Tryz.prog wr = .ok (.tuple #[]) (wr.setCells g a (List.replicate (xs.length - a) (.int .i64 0))) :=
        fun ty => Lib.run_clear_slice wr _ _ ty _ Tryz.underlying30 Tryz.zeroValue3 rfl rfl g a _ _ (by omega) (fun t ht => by rw [R.out.cell (by omega)]; rfl) (fun t ht => R.out.thaw _)
      have HE2 := hideP e2
      clear e1 e2 KP hLl
      go_wp2
      go_ret
      exact ⟨(by rw [← HE2.out]; rfl), RF.out, BF.out⟩
end Go.Proofs.YtjojgfdfbkmlkaaGreatDoor.ctr
namespace Go.Proofs.YtjojgfdfbkmlkaaGreatDoor.kit
end Go.Proofs.YtjojgfdfbkmlkaaGreatDoor.kit
namespace Go.Proofs.YtjojgfdfbkmlkaaGreatDoor.ctr
open Go.RowKit
theorem lawToRoman (a b c : Int) (d : Bool) (w : World) : Calls Tryz.prog 141 #[.agg #[.int .i64 a, .int .i64 b, .int .i64 c, .bool d]] w fun e w' => e = .returned (.agg #[.int .i64 a, .int .i64 b, .int .i64 c, .bool d]) ∧ Below w.heap.size w w' := by
  go_enter Tryz.func141, Tryz.ntmps141
  go_wp2
  go_returns
  refine ⟨rfl, ?_⟩
  go_grown
end Go.Proofs.YtjojgfdfbkmlkaaGreatDoor.ctr
