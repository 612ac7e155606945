/- The walk of the law FnExactEras: it returns true, and nothing that was there turns. -/
import Derived.Test.YtifekkehbaegiaaEraMark
namespace Go.Proofs.Ytifekkehbaegiaa.ctr
open Go.RowKit

theorem EraOwn.own {w W : World} {v : Value} (h : EraOwn w W v) : ∃ g cap, v = .slice (some ⟨g, 0, none⟩) 9 cap ∧ w.heap.size ≤ g ∧ g < W.heap.size ∧ OwnRow W g 36 := by
  rcases h.2 with ⟨_, h0⟩ | ⟨g, cap, cur, hv, hb, hh, hcap, _, hsz, htake⟩
  · simp at h0
  · refine ⟨g, cap, hv, hb, (Array.getElem?_eq_some_iff.1 hh).1, fun j hj => ⟨?_, by simp [World.frozen?, hh]⟩⟩
    have hj' : j < cur.size := by omega
    exact ⟨cur[j], by simp [World.cell?, hh, hj']⟩

set_option maxHeartbeats 2000000 in
theorem erasLaw (w : World) : Calls Try.prog 4 #[] w fun e w' => e = .returned (.bool true) ∧ Below w.heap.size w w' := by
  go_enter Try.func4, Try.ntmps4
  go_wp2_with fail
  refine (specEras _).mono ?_
  rintro e W1 ⟨v0, rfl, hr0, hb1⟩
  have R0 := hideP hr0.row
  have B1 := hideP hb1
  clear hr0 hb1
  go_wp2_with fail
  refine (implEras _).mono ?_
  rintro e W2 ⟨v1, rfl, hr1, hb2⟩
  have R1 := hideP hr1.row
  obtain ⟨g1, c1, rfl, hg1, hl1, ho1⟩ := hr1.own
  have HO1 := hideP ho1
  have R02 := hideP (R0.out.below hb2)
  have B2 := hideP hb2
  clear hr1 hb2 ho1
  go_wp2_with fail
  refine (eqEras _ _ _ R1.out R02.out).mono ?_
  rintro e W3 ⟨rfl, hb3⟩
  have HO3 := hideP (own_bel HO1.out hb3 hl1)
  have B3 : Hid (Below W1.heap.size W1 W3) := B2.out.trans (hb3.mono B2.out.size)
  have hl3 : g1 < W3.heap.size := Nat.lt_of_lt_of_le hl1 hb3.size
  clear hb3
  go_wp2_with fail
  refine (markEras g1 c1 _ hl3 HO3.out).mono ?_
  rintro e W4 ⟨rfl, hG4, hM4⟩
  have B4 : Hid (Below W1.heap.size W1 W4) := B3.out.grown hG4 B3.out.size (fun k e => by cases e; exact hg1)
  have HM4 := hideP hM4
  have hl4 : g1 < W4.heap.size := Nat.lt_of_lt_of_le hl3 hG4.size
  clear hG4 hM4
  go_wp2_with fail
  refine (heldEras g1 c1 _ hl4 HM4.out).mono ?_
  rintro e W5 ⟨rfl, hb5⟩
  have B5 : Hid (Below W1.heap.size W1 W5) := B4.out.trans (hb5.mono B4.out.size)
  have HM5 := hideP (HM4.out.below hb5 hl4)
  have hl5 : g1 < W5.heap.size := Nat.lt_of_lt_of_le hl4 hb5.size
  clear hb5
  go_wp2_with fail
  refine (implEras _).mono ?_
  rintro e W6 ⟨v2, rfl, hr6, hb6⟩
  have R6 := hideP hr6.row
  have B6 : Hid (Below W1.heap.size W1 W6) := B5.out.trans (hb6.mono B5.out.size)
  have HM6 := hideP (HM5.out.below hb6 hl5)
  have hl6 : g1 < W6.heap.size := Nat.lt_of_lt_of_le hl5 hb6.size
  clear hr6 hb6
  go_wp2_with fail
  refine (eqEras _ _ _ R6.out (R0.out.below B6.out)).mono ?_
  rintro e W7 ⟨rfl, hb7⟩
  have B7 : Hid (Below W1.heap.size W1 W7) := B6.out.trans (hb7.mono B6.out.size)
  have HM7 := hideP (HM6.out.below hb7 hl6)
  have hl7 : g1 < W7.heap.size := Nat.lt_of_lt_of_le hl6 hb7.size
  clear hb7
  go_wp2_with fail
  refine (heldEras g1 c1 _ hl7 HM7.out).mono ?_
  rintro e W8 ⟨rfl, hb8⟩
  have B8 : Hid (Below W1.heap.size W1 W8) := B7.out.trans (hb8.mono B7.out.size)
  clear hb8
  go_wp2_with fail
  go_ret
  exact ⟨rfl, B1.out.trans (B8.out.mono B1.out.size)⟩
end Go.Proofs.Ytifekkehbaegiaa.ctr
