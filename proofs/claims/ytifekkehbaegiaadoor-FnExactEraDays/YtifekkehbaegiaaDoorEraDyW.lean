/- The walk of the law FnExactEraDays: at every input it returns true, and nothing that was there turns, where the table of months holds its numbers. -/
import Derived.Test.YtifekkehbaegiaaDoorEraDy
namespace Go.Proofs.YtifekkehbaegiaaDoor.ctr
open Go.RowKit

set_option maxHeartbeats 2000000 in
theorem eraDaysLaw (a : Int) (s : ByteArray) (b c d : Int) (w : World) (hT : Tab w) (hc : -9223372036854775808 ≤ c) (hd : d ≤ 9223372036854775807) :
    Calls Tryd.prog 5 #[.int .i64 a, .string s, .int .i64 b, .int .i64 c, .int .i64 d] w fun e w' => e = .returned (.bool true) ∧ Below w.heap.size w w' := by
  have HT := hideP hT
  clear hT
  have hl : (eraDays a s b c d).length ≤ 800 := eraDays_len a s b c d
  by_cases hbig : (1048576 : Int) < s.size
  · go_enter Tryd.func5, Tryd.ntmps5
    go_wp2
    go_ret
    exact ⟨rfl, Below.refl _ _⟩
  go_enter Tryd.func5, Tryd.ntmps5
  go_wp2_with fail
  refine (specEraDays a s b c d _).mono ?_
  rintro e W1 ⟨v0, rfl, hr0, hb1⟩
  have R0 := hideP hr0.row
  have B1 := hideP hb1
  clear hr0 hb1
  go_wp2_with fail
  refine (implEraDays a s b c d _ (HT.out.later B1.out) hc hd).mono ?_
  rintro e W2 ⟨v1, rfl, hr1, hb2⟩
  have R1 := hideP hr1
  have B2 := hideP hb2
  clear hr1 hb2
  go_wp2_with fail
  refine (eqInts v1 v0 _ _ (by omega) R1.out.row (R0.out.below B2.out)).mono ?_
  rintro e W3 ⟨rfl, hb3⟩
  have R13 : Hid (MovRow W1 W3 v1 (eraDays a s b c d)) := R1.out.below hb3
  have B3 : Hid (Below W1.heap.size W1 W3) := B2.out.trans (hb3.mono B2.out.size)
  clear hb3
  go_wp2_with fail
  refine (markRow W1 W3 v1 _ (by omega) R13.out B3.out).mono ?_
  rintro e W4 ⟨rfl, hb4, hr4⟩
  have B4 := hideP hb4
  have R4 := hideP hr4
  clear hb4 hr4
  generalize hN : (eraDays a s b c d).length = N at *
  have HN := hideP hN
  clear hN
  go_wp2_with fail
  refine (heldInts v1 1 N _ (by omega) (by omega) R4.out).mono ?_
  rintro e W5 ⟨rfl, hb5⟩
  have B5 : Hid (Below W1.heap.size W1 W5) := B4.out.trans (hb5.mono B4.out.size)
  have R5 := hideP (R4.out.below hb5)
  clear hb5
  go_wp2_with fail
  refine (implEraDays a s b c d _ (HT.out.later (B1.out.trans (B5.out.mono B1.out.size))) hc hd).mono ?_
  rintro e W6 ⟨v2, rfl, hr6, hb6⟩
  have R6 := hideP hr6
  have B6 : Hid (Below W1.heap.size W1 W6) := B5.out.trans (hb6.mono B5.out.size)
  have R56 := hideP (R5.out.below hb6)
  clear hr6 hb6
  go_wp2_with fail
  refine (eqInts v2 v0 _ _ (by rw [HN.out]; omega) R6.out.row (R0.out.below B6.out)).mono ?_
  rintro e W7 ⟨rfl, hb7⟩
  have B7 : Hid (Below W1.heap.size W1 W7) := B6.out.trans (hb7.mono B6.out.size)
  have R7 := hideP (R56.out.below hb7)
  clear hb7
  go_wp2_with fail
  refine (heldInts v1 1 N _ (by omega) (by omega) R7.out).mono ?_
  rintro e W8 ⟨rfl, hb8⟩
  have B8 : Hid (Below W1.heap.size W1 W8) := B7.out.trans (hb8.mono B7.out.size)
  clear hb8
  go_wp2_with fail
  go_ret
  exact ⟨rfl, B1.out.trans (B8.out.mono B1.out.size)⟩
end Go.Proofs.YtifekkehbaegiaaDoor.ctr
