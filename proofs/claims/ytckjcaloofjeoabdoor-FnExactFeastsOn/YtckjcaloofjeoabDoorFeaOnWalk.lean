/- The walk of the law FnExactFeastsOn: at every two ints it returns true, and nothing that was there turns, where the table of months holds its numbers. -/
import Derived.Test.YtckjcaloofjeoabDoorFeaOnImpl
import Derived.Test.YtckjcaloofjeoabDoorRowKit
namespace Go.Proofs.YtckjcaloofjeoabDoor.ctr
open Go.RowKit

theorem row_any {W : World} {base : Nat} {v : Value} {xs : List ByteArray} (h : W.ownsRow base 9 1 v xs.length (xs.map Value.string)) : StrRow W v xs := by
  by_cases hx : xs = []
  · subst hx
    rcases h.2 with ⟨rfl, _⟩ | ⟨g, cap, cur, rfl, _⟩
    · exact ⟨none, 0, rfl, .inl rfl⟩
    · exact ⟨_, cap, rfl, .inl rfl⟩
  · obtain ⟨g, cap, rfl, _, _, hs, _⟩ := own_row h hx
    exact hs.row
theorem StrRow.below {W W' : World} {base : Nat} {v : Value} {xs : List ByteArray} (h : W.ownsRow base 9 1 v xs.length (xs.map Value.string)) (hb : Below W.heap.size W W') : StrRow W' v xs := row_any (own_later h hb)
set_option maxHeartbeats 1000000 in
theorem markNoneS (a : Option Addr) (cap : Nat) (w : World) : Calls Tryd.prog 23 #[.slice a 0 cap, .int .i64 1] w fun e w' => e = .returned (.int .i64 1) ∧ w' = w := by
  go_enter Tryd.func23, Tryd.ntmps23
  go_wp2
  go_loopw [1, 5] (fun u i wr => i = .int .i64 0 ∧ u = .int .i64 1 ∧ wr = w) (fun _ _ _ => 0)
  case atStart => exact ⟨rfl, rfl, rfl⟩
  case round =>
    obtain ⟨rfl, rfl, rfl⟩ := hrel
    go_wp2
    go_ret
    exact ⟨rfl, rfl⟩
/-- Marks that are written into a row stand there, whatever comes later. -/
theorem markAny (W1 W3 : World) (v : Value) (xs : List ByteArray) (hn : xs.length ≤ 20) (h : W3.ownsRow W1.heap.size 9 1 v xs.length (xs.map Value.string)) (hb : Below W1.heap.size W1 W3) :
    Calls Tryd.prog 23 #[v, .int .i64 1] W3 fun e W4 => e = .returned (.int .i64 ((1 + xs.length : Nat) : Int)) ∧ Below W1.heap.size W1 W4 ∧ ∃ a cap, v = .slice a xs.length cap ∧ ∀ j, j < xs.length → ∃ g, a = some ⟨g, 0, none⟩ ∧ g < W4.heap.size ∧ W4.cell? ⟨g, j, none⟩ = some (.string (mk (1 + j))) := by
  by_cases hx : xs = []
  · subst hx
    obtain ⟨a, cap, rfl, _⟩ := row_any h
    exact (markNoneS a cap W3).mono fun e w' ⟨he, hw⟩ => ⟨he, by rw [hw]; exact hb, a, cap, rfl, fun j hj => by simp at hj⟩
  · obtain ⟨g, cap, rfl, hg, hl, _, ho⟩ := own_row h hx
    refine (markStrings g xs.length cap 1 W3 (by omega) (by omega) (by omega) hl ho).mono ?_
    rintro e W4 ⟨he, hG, hM⟩
    exact ⟨he, hb.grown hG hb.size (fun k e => by cases e; exact hg), _, cap, rfl, fun j hj => ⟨g, rfl, Nat.lt_of_lt_of_le hl hG.size, hM j hj⟩⟩
/-- The marks, as what holds of a world and of all later ones. -/
def MarksAt (W : World) (a : Option Addr) (n : Nat) : Prop := ∀ j, j < n → ∃ g, a = some ⟨g, 0, none⟩ ∧ g < W.heap.size ∧ W.cell? ⟨g, j, none⟩ = some (.string (mk (1 + j)))
theorem MarksAt.below {W W' : World} {a : Option Addr} {n : Nat} (h : MarksAt W a n) (hb : Below W.heap.size W W') : MarksAt W' a n := fun j hj => by
  obtain ⟨g, ha, hg, hc⟩ := h j hj
  exact ⟨g, ha, Nat.lt_of_lt_of_le hg hb.size, (hb.cell (p := ⟨g, j, none⟩) hg).trans hc⟩
theorem on_len (c n : Int) : (feastsOn c n).length ≤ 20 := by
  unfold feastsOn
  split
  · exact onTo_len _ _ _ 20 (Nat.le_refl _)
  · simp

set_option maxHeartbeats 2000000 in
theorem feastsOnLaw (c n : Int) (w : World) (hT : Tab w) : Calls Tryd.prog 6 #[.int .i64 c, .int .i64 n] w fun e w' => e = .returned (.bool true) ∧ Below w.heap.size w w' := by
  have HT := hideP hT
  clear hT
  have hl := on_len c n
  go_enter Tryd.func6, Tryd.ntmps6
  go_wp2_with fail
  refine (specFeastsOn c n _).mono ?_
  rintro e W1 ⟨v0, rfl, hr0, hb1⟩
  have R0 := hideP hr0
  have B1 := hideP hb1
  clear hr0 hb1
  go_wp2_with fail
  refine (implFeastsOn c n _ (HT.out.later B1.out)).mono ?_
  rintro e W2 ⟨v1, rfl, hr1, hb2⟩
  have R1 := hideP hr1
  have B2 := hideP hb2
  clear hr1 hb2
  generalize hxs : feastsOn c n = xs at *
  have HX := hideP hxs
  clear hxs
  go_wp2_with fail
  refine (eqStrings v1 v0 xs _ (by omega) (row_any R1.out) (StrRow.below R0.out B2.out)).mono ?_
  rintro e W3 ⟨rfl, hb3⟩
  have R3 := hideP (own_later R1.out hb3)
  have B3 : Hid (Below W1.heap.size W1 W3) := B2.out.trans (hb3.mono B2.out.size)
  clear hb3
  go_wp2_with fail
  refine (markAny W1 W3 v1 xs hl R3.out B3.out).mono ?_
  rintro e W4 ⟨rfl, hb4, a1, c1, rfl, hM⟩
  have B4 := hideP hb4
  have M4 : Hid (MarksAt W4 a1 xs.length) := hM
  clear hb4 hM
  go_wp2_with fail
  refine (heldStrings a1 xs.length c1 1 _ (by omega) (by omega) (by omega) M4.out).mono ?_
  rintro e W5 ⟨rfl, hb5⟩
  have B5 : Hid (Below W1.heap.size W1 W5) := B4.out.trans (hb5.mono B4.out.size)
  have M5 := hideP (M4.out.below hb5)
  clear hb5
  go_wp2_with fail
  refine (implFeastsOn c n _ (HT.out.later (B1.out.trans (B5.out.mono B1.out.size)))).mono ?_
  rintro e W6 ⟨v2, rfl, hr6, hb6⟩
  rw [HX.out] at hr6
  have R6 := hideP hr6
  have B6 : Hid (Below W1.heap.size W1 W6) := B5.out.trans (hb6.mono B5.out.size)
  have M6 := hideP (M5.out.below hb6)
  clear hr6 hb6
  go_wp2_with fail
  refine (eqStrings v2 v0 xs _ (by omega) (row_any R6.out) (StrRow.below R0.out B6.out)).mono ?_
  rintro e W7 ⟨rfl, hb7⟩
  have B7 : Hid (Below W1.heap.size W1 W7) := B6.out.trans (hb7.mono B6.out.size)
  have M7 := hideP (M6.out.below hb7)
  clear hb7
  go_wp2_with fail
  refine (heldStrings a1 xs.length c1 1 _ (by omega) (by omega) (by omega) M7.out).mono ?_
  rintro e W8 ⟨rfl, hb8⟩
  have B8 : Hid (Below W1.heap.size W1 W8) := B7.out.trans (hb8.mono B7.out.size)
  clear hb8
  go_wp2_with fail
  go_ret
  exact ⟨rfl, B1.out.trans (B8.out.mono B1.out.size)⟩
end Go.Proofs.YtckjcaloofjeoabDoor.ctr
