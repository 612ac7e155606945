/- Contracts of both FeastsOn: each answers, in a row of its own, the names of the feasts that the day is; nothing that was there turns. -/
import Derived.Test.YtdmlhiailjnhcaaGreatDoorJnVam
import Derived.Test.YtdmlhiailjnhcaaGreatDoorJnVag
import Derived.Test.YtdmlhiailjnhcaaGreatDoorJnVan
import Derived.Test.YtdmlhiailjnhcaaGreatDoorJnVaf
namespace Go.Proofs.YtdmlhiailjnhcaaGreatDoor.ctr
open Go.RowKit
def FeaBlk (W : World) (g : Nat) (cur : Array Value) : Prop := Blk W g cur 107 ∧ ∀ k, k < 20 → ∀ j, j < 5 → cur[k * 5 + j]? = (feaAt k).cs[j]?
theorem FeaOwn.blk {w W : World} {v : Value} (h : FeaOwn w W v) : ∃ g cap cur, v = .slice (some ⟨g, 0, none⟩) 20 cap ∧ w.heap.size ≤ g ∧ FeaBlk W g cur := by
  rcases h.2 with ⟨_, h0⟩ | ⟨g, cap, cur, hv, hb, hh, hcap, _, hsz, htake⟩
  · simp at h0
  · refine ⟨g, cap, cur, hv, hb, hh, fun k hk j hj => ?_⟩
    rw [← feaCell hk hj, ← htake, List.getElem?_take, if_pos (by omega)]
    simp
theorem FeaBlk.at {W : World} {g : Nat} {cur : Array Value} (h : FeaBlk W g cur) {k : Nat} (hk : k < 20) : W.cell? ⟨g, k * 5, none⟩ = some (.string (feaAt k).name) ∧ W.cell? ⟨g, k * 5 + 1, none⟩ = some (.bool (feaAt k).mv) ∧ W.cell? ⟨g, k * 5 + 2, none⟩ = some (.int .i64 (feaAt k).off) ∧ W.cell? ⟨g, k * 5 + 3, none⟩ = some (.int .i64 (feaAt k).m) ∧ W.cell? ⟨g, k * 5 + 4, none⟩ = some (.int .i64 (feaAt k).d) := by
  have e := fun j hj => h.2 k hk j hj
  exact ⟨h.1.cell _ (e 0 (by omega)), h.1.cell _ (e 1 (by omega)), h.1.cell _ (e 2 (by omega)), h.1.cell _ (e 3 (by omega)), h.1.cell _ (e 4 (by omega))⟩
theorem FeaBlk.below {W W' : World} {g : Nat} {cur : Array Value} (h : FeaBlk W g cur) (hb : Below W.heap.size W W') : FeaBlk W' g cur := ⟨h.1.below hb h.1.lt, h.2⟩
theorem own_ne {w : World} {base e size : Nat} {v : Value} {n : Nat} {xs : List Value} {b : Nat} {vs : Array Value} {t : TypeId} (h : w.ownsRow base e size v n xs) (hb : Blk w b vs t) (hte : t ≠ e) : some b ≠ v.ownBlock := by
  intro he
  rcases h.2 with ⟨rfl, _⟩ | ⟨g, cap, cur, rfl, _, hh, _⟩
  · cases he
  · have hg : b = g := by simpa [Value.ownBlock] using he
    subst hg
    unfold Blk at hb
    rw [hb] at hh
    simp at hh
    exact hte hh.2
theorem Blk.gr {w w' : World} {b : Nat} {vs : Array Value} {t : TypeId} {row : Option Nat} (h : Blk w b vs t) (g : w.grownBy w' row) (hn : some b ≠ row) : Blk w' b vs t := (g.block b h.lt hn).trans h
theorem own_later {w w' : World} {base e size : Nat} {v : Value} {n : Nat} {xs : List Value} (h : w.ownsRow base e size v n xs) (hb : Below w.heap.size w w') : w'.ownsRow base e size v n xs :=
  h.kept (row := none) ⟨hb.os, hb.tape, hb.output, hb.size, fun k hk _ => hb.block k hk⟩ (Classical.em _)
structure OnSt (w : World) (db g : Nat) (dv cur : Array Value) (o : Value) (xs : List ByteArray) (W : World) : Prop where
  row : W.ownsRow w.heap.size 9 1 o xs.length (xs.map Value.string)
  below : Below w.heap.size w W
  date : Blk W db dv 99
  fea : FeaBlk W g cur
theorem OnSt.later {w : World} {db g : Nat} {dv cur : Array Value} {o : Value} {xs : List ByteArray} {W W' : World} (h : OnSt w db g dv cur o xs W) (hb : Below W.heap.size W W') : OnSt w db g dv cur o xs W' :=
  ⟨own_later h.row hb, h.below.trans (hb.mono h.below.size), h.date.below hb h.date.lt, h.fea.below hb⟩
theorem OnSt.app {w : World} {db g : Nat} {dv cur : Array Value} {o o' : Value} {xs : List ByteArray} {W W' : World} {ob : Obj} (h : OnSt w db g dv cur o xs W) (s : ByteArray) (hr : W'.ownsRow w.heap.size 9 1 o' (xs.length + 1) (xs.map Value.string ++ [.string s])) (hg : (W.alloc ob).grownBy W' o.ownBlock) : OnSt w db g dv cur o' (xs ++ [s]) W' := by
  have hr' : W'.ownsRow w.heap.size 9 1 o' (xs ++ [s]).length ((xs ++ [s]).map Value.string) := by
    rw [List.length_append, List.map_append]
    exact hr
  have hd := h.date.alloc ob
  have hf := h.fea.1.alloc ob
  exact ⟨hr', (h.below.alloc h.below.size ob).grown hg (by have := h.below.size; rw [sz_new]; omega) (own_base5 h.row), hd.gr hg (own_ne h.row h.date (by decide)), hf.gr hg (own_ne h.row h.fea.1 (by decide)), h.fea.2⟩
theorem dateR_parts (c n : Int) : ∃ a y m d ok, dateOf c n = (a, y, m, d, ok) ∧ dateR c n = .tuple #[.agg #[.int .i64 a, .int .i64 y, .int .i64 m, .int .i64 d], .bool ok] := ⟨_, _, _, _, _, rfl, rfl⟩
theorem date_blk (W : World) (a y m d : Int) : Blk (W.alloc (.cells #[.int .i64 a, .int .i64 y, .int .i64 m, .int .i64 d] 99)) W.heap.size #[.int .i64 a, .int .i64 y, .int .i64 m, .int .i64 d] 99 := Blk.new W _ _
end Go.Proofs.YtdmlhiailjnhcaaGreatDoor.ctr
