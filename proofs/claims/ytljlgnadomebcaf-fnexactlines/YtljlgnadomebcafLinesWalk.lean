/- The walk of the law FnExactLines: at every text of at most 1048576 bytes it returns true, and nothing that was there turns. -/
import Derived.Test.YtljlgnadomebcafLinesImpl
namespace Go.Proofs.Ytljlgnadomebcaf.ctr
open Go.RowKit

theorem implLines (s : ByteArray) (w : World) (hs : s.size ≤ 1048576) :
    Calls Try.prog 12 #[.string s] w fun e W' => ∃ v, e = .returned v ∧ NewRow w.heap.size W' v (lines s) ∧ Below w.heap.size w W' :=
  (callsIn_wide (n := 6)).1 (lines_in 6 (Nat.le_refl _) s hs w)

set_option maxHeartbeats 2000000 in
theorem linesLaw (s : ByteArray) (hs : s.size ≤ 1048576) (w : World) :
    Calls Try.prog 4 #[.string s] w fun e w' => e = .returned (.bool true) ∧ Below w.heap.size w w' := by
  have hcl := lines_len s
  go_enter Try.func4, Try.ntmps4
  go_wp2_with fail
  refine (specLines s _ hs).mono ?_
  rintro e W1 ⟨v0, rfl, hr0, hb1⟩
  obtain ⟨g0, c0, rfl, hg0, hl0, hs0, _⟩ := hr0
  have HB1 : Hid (Below w.heap.size w W1) := hb1
  have HS0 : Hid (StrAt W1 g0 (lines s)) := hs0
  clear hb1 hs0
  go_wp2_with fail
  refine (implLines s _ hs).mono ?_
  rintro e W2 ⟨v1, rfl, hr1, hb2⟩
  obtain ⟨g1, c1, rfl, hg1, hl1, hs1, ho1⟩ := hr1
  have HB2 : Hid (Below w.heap.size w W2) := HB1.out.trans (hb2.mono HB1.out.size)
  have HS0' : Hid (StrAt W2 g0 (lines s)) := HS0.out.below hb2 hl0
  have HS1 : Hid (StrAt W2 g1 (lines s)) := hs1
  have HO1 : Hid (OwnRow W2 g1 (lines s).length) := ho1
  have hl02 : g0 < W2.heap.size := Nat.lt_of_lt_of_le hl0 hb2.size
  have hne01 : g0 ≠ g1 := by omega
  have hw1 : w.heap.size ≤ g1 := Nat.le_trans HB1.out.size hg1
  clear hb2 hs1 ho1
  generalize hxs : lines s = xs at *
  have HXS : Hid (lines s = xs) := hxs
  clear hxs
  go_wp2_with fail
  refine (eqStrings _ _ xs _ (by omega) HS1.out.row HS0'.out.row).mono ?_
  rintro e W3 ⟨rfl, hb3⟩
  have HB3 : Hid (Below w.heap.size w W3) := HB2.out.trans (hb3.mono HB2.out.size)
  have HS03 : Hid (StrAt W3 g0 xs) := HS0'.out.below hb3 hl02
  have HO3 : Hid (OwnRow W3 g1 xs.length) := fun j hj => by
    obtain ⟨⟨u, hu⟩, hf⟩ := HO1.out j hj
    exact ⟨⟨u, (hb3.cell (p := ⟨g1, j, none⟩) hl1).trans hu⟩, (hb3.frozen (p := ⟨g1, j, none⟩) hl1).trans hf⟩
  have hl13 : g1 < W3.heap.size := Nat.lt_of_lt_of_le hl1 hb3.size
  have hl03 : g0 < W3.heap.size := Nat.lt_of_lt_of_le hl02 hb3.size
  clear hb3
  go_wp2_with fail
  refine (markStrings g1 xs.length c1 1 _ (by omega) (by omega) (by omega) hl13 HO3.out).mono ?_
  rintro e W4 ⟨rfl, hG4, hM4⟩
  have HB4 : Hid (Below w.heap.size w W4) := HB3.out.grown hG4 HB3.out.size (fun k e => by cases e; exact hw1)
  have HS04 : Hid (StrAt W4 g0 xs) := HS03.out.grown hG4 hl03 hne01
  have HM4 : Hid (∀ j, j < xs.length → W4.cell? ⟨g1, j, none⟩ = some (.string (mk (1 + j)))) := hM4
  have hl14 : g1 < W4.heap.size := Nat.lt_of_lt_of_le hl13 hG4.size
  have hl04 : g0 < W4.heap.size := Nat.lt_of_lt_of_le hl03 hG4.size
  clear hG4 hM4
  go_wp2_with fail
  refine (heldStrings _ xs.length c1 1 _ (by omega) (by omega) (by omega) (fun j hj => ⟨g1, rfl, hl14, HM4.out j hj⟩)).mono ?_
  rintro e W5 ⟨rfl, hb5⟩
  have HB5 : Hid (Below w.heap.size w W5) := HB4.out.trans (hb5.mono HB4.out.size)
  have HS05 : Hid (StrAt W5 g0 xs) := HS04.out.below hb5 hl04
  have HM5 : Hid (∀ j, j < xs.length → W5.cell? ⟨g1, j, none⟩ = some (.string (mk (1 + j)))) := marks_below HM4.out hb5 hl14
  have hl15 : g1 < W5.heap.size := Nat.lt_of_lt_of_le hl14 hb5.size
  have hl05 : g0 < W5.heap.size := Nat.lt_of_lt_of_le hl04 hb5.size
  clear hb5
  go_wp2_with fail
  refine (implLines s _ hs).mono ?_
  rintro e W6 ⟨v2, rfl, hr2, hb6⟩
  rw [HXS.out] at hr2
  obtain ⟨g2, c2, rfl, hg2, hl2, hs2, _⟩ := hr2
  have HB6 : Hid (Below w.heap.size w W6) := HB5.out.trans (hb6.mono HB5.out.size)
  have HS06 : Hid (StrAt W6 g0 xs) := HS05.out.below hb6 hl05
  have HS26 : Hid (StrAt W6 g2 xs) := hs2
  have HM6 : Hid (∀ j, j < xs.length → W6.cell? ⟨g1, j, none⟩ = some (.string (mk (1 + j)))) := marks_below HM5.out hb6 hl15
  have hl16 : g1 < W6.heap.size := Nat.lt_of_lt_of_le hl15 hb6.size
  clear hb6 hs2
  go_wp2_with fail
  refine (eqStrings _ _ xs _ (by omega) HS26.out.row HS06.out.row).mono ?_
  rintro e W7 ⟨rfl, hb7⟩
  have HB7 : Hid (Below w.heap.size w W7) := HB6.out.trans (hb7.mono HB6.out.size)
  have HM7 : Hid (∀ j, j < xs.length → W7.cell? ⟨g1, j, none⟩ = some (.string (mk (1 + j)))) := marks_below HM6.out hb7 hl16
  have hl17 : g1 < W7.heap.size := Nat.lt_of_lt_of_le hl16 hb7.size
  clear hb7
  go_wp2_with fail
  refine (heldStrings _ xs.length c1 1 _ (by omega) (by omega) (by omega) (fun j hj => ⟨g1, rfl, hl17, HM7.out j hj⟩)).mono ?_
  rintro e W8 ⟨rfl, hb8⟩
  have HB8 : Hid (Below w.heap.size w W8) := HB7.out.trans (hb8.mono HB7.out.size)
  clear hb8
  go_wp2
  go_ret
  exact ⟨rfl, HB8.out⟩
end Go.Proofs.Ytljlgnadomebcaf.ctr
