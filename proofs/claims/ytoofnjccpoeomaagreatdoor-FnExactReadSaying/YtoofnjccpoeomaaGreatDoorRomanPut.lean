/- Contract of the program's PutRoman: it answers the plain function putRoman at every int, where the program's table of shapes holds its texts; nothing that was there turns. -/
import Derived.Test.YtoofnjccpoeomaaGreatDoorRomanImpl
namespace Go.Proofs.YtoofnjccpoeomaaGreatDoor.ctr
open Go.RowKit

theorem repeatM (n : Int) (w : World) (h0 : 0 ≤ n) (h3 : n ≤ 3) :
    Calls Tryz.prog 107 #[.string ⟨#[77]⟩, .int .i64 n] w fun e w' => e = .returned (.string ⟨(manyL 77 n.toNat).toArray⟩) ∧ Below w.heap.size w w' := by
  obtain ⟨k, rfl⟩ := Int.eq_ofNat_of_zero_le h0
  refine (Tryz.strings_Repeat ⟨#[77]⟩ k w (by omega) (by show 1 * k ≤ _; omega)).mono ?_
  rintro e w' ⟨rfl, hb⟩
  refine ⟨ret_str ?_, hb⟩
  have : k = 0 ∨ k = 1 ∨ k = 2 ∨ k = 3 := by omega
  rcases this with rfl | rfl | rfl | rfl <;> rfl

set_option maxHeartbeats 1000000 in
theorem implPutRoman (n : Int) (w : World) (hT : kit.StrIs Tryz.prog w "loop.example/g00638/impl.digitShapes" shapes) :
    Calls Tryz.prog 92 #[.int .i64 n] w fun e w' => e = .returned (.string (putRoman n)) ∧ Below w.heap.size w w' := by
  have HT : Hid (kit.StrIs Tryz.prog w "loop.example/g00638/impl.digitShapes" shapes) := hT
  clear hT
  by_cases h1 : n < 1
  · rw [putRoman_no (.inl h1)]
    go_enter Tryz.func92, Tryz.ntmps92
    go_wp2
    go_ret
    exact ⟨rfl, Below.refl _ _⟩
  by_cases h2 : 3999 < n
  · rw [putRoman_no (.inr h2)]
    go_enter Tryz.func92, Tryz.ntmps92
    go_wp2
    go_ret
    exact ⟨rfl, Below.refl _ _⟩
  have HP : Hid (putRoman n = ⟨(roman n.toNat).toArray⟩) := by unfold Hid putRoman; rw [if_pos ⟨by omega, by omega⟩]
  by_cases k1 : 1000 ≤ n
  · go_enter Tryz.func92, Tryz.ntmps92
    go_wp2_with fail
    refine (repeatM _ _ (by omega) (by omega)).mono ?_
    rintro e w1 ⟨rfl, hb1⟩
    have HB1 : Hid (Below w.heap.size w w1) := hb1
    clear hb1
    have l1 := manyL_len 77 (n / 1000).toNat
    generalize hx1 : manyL 77 (n / 1000).toNat = x1 at *
    have hl1 : x1.length ≤ 3 := by omega
    have H1 : Hid (manyL 77 (n / 1000).toNat = x1) := hx1
    clear hx1 l1
    go_wp2_with fail
    refine (digitSigns _ _ _ _ _ (by omega) (by omega) (HT.out.below HB1.out (g := 4) (by kernel_rfl))).mono ?_
    rintro e w2 ⟨rfl, hb2⟩
    have HB2 : Hid (Below w.heap.size w w2) := HB1.out.trans (hb2.mono HB1.out.size)
    clear hb2
    have hl2 := digL_len (n / 100 % 10).toNat 67 68 77
    generalize hx2 : digL (n / 100 % 10).toNat 67 68 77 = x2 at *
    have H2 : Hid (digL (n / 100 % 10).toNat 67 68 77 = x2) := hx2
    clear hx2
    go_wp2_with fail
    refine (digitSigns _ _ _ _ _ (by omega) (by omega) (HT.out.below HB2.out (g := 4) (by kernel_rfl))).mono ?_
    rintro e w3 ⟨rfl, hb3⟩
    have HB3 : Hid (Below w.heap.size w w3) := HB2.out.trans (hb3.mono HB2.out.size)
    clear hb3
    have hl3 := digL_len (n / 10 % 10).toNat 88 76 67
    generalize hx3 : digL (n / 10 % 10).toNat 88 76 67 = x3 at *
    have H3 : Hid (digL (n / 10 % 10).toNat 88 76 67 = x3) := hx3
    clear hx3
    go_wp2_with fail
    refine (digitSigns _ _ _ _ _ (by omega) (by omega) (HT.out.below HB3.out (g := 4) (by kernel_rfl))).mono ?_
    rintro e w4 ⟨rfl, hb4⟩
    have HB4 : Hid (Below w.heap.size w w4) := HB3.out.trans (hb4.mono HB3.out.size)
    clear hb4
    have hl4 := digL_len (n % 10).toNat 73 86 88
    generalize hx4 : digL (n % 10).toNat 73 86 88 = x4 at *
    have H4 : Hid (digL (n % 10).toNat 73 86 88 = x4) := hx4
    clear hx4
    go_wp2
    go_ret
    refine ⟨ret_str ?_, HB4.out⟩
    rw [HP.out, roman_int n (by omega), H1.out, H2.out, H3.out, H4.out]
    apply WideShapes.bytes_inj
    simp
  by_cases k2 : 100 ≤ n
  · go_enter Tryz.func92, Tryz.ntmps92
    go_wp2_with fail
    refine (digitSigns _ _ _ _ _ (by omega) (by omega) (HT.out.below (Below.refl _ _) (g := 4) (by kernel_rfl))).mono ?_
    rintro e w2 ⟨rfl, hb2⟩
    have HB2 : Hid (Below w.heap.size w w2) := hb2
    clear hb2
    have hl2 := digL_len (n / 100 % 10).toNat 67 68 77
    generalize hx2 : digL (n / 100 % 10).toNat 67 68 77 = x2 at *
    have H2 : Hid (digL (n / 100 % 10).toNat 67 68 77 = x2) := hx2
    clear hx2
    go_wp2_with fail
    refine (digitSigns _ _ _ _ _ (by omega) (by omega) (HT.out.below HB2.out (g := 4) (by kernel_rfl))).mono ?_
    rintro e w3 ⟨rfl, hb3⟩
    have HB3 : Hid (Below w.heap.size w w3) := HB2.out.trans (hb3.mono HB2.out.size)
    clear hb3
    have hl3 := digL_len (n / 10 % 10).toNat 88 76 67
    generalize hx3 : digL (n / 10 % 10).toNat 88 76 67 = x3 at *
    have H3 : Hid (digL (n / 10 % 10).toNat 88 76 67 = x3) := hx3
    clear hx3
    go_wp2_with fail
    refine (digitSigns _ _ _ _ _ (by omega) (by omega) (HT.out.below HB3.out (g := 4) (by kernel_rfl))).mono ?_
    rintro e w4 ⟨rfl, hb4⟩
    have HB4 : Hid (Below w.heap.size w w4) := HB3.out.trans (hb4.mono HB3.out.size)
    clear hb4
    have hl4 := digL_len (n % 10).toNat 73 86 88
    generalize hx4 : digL (n % 10).toNat 73 86 88 = x4 at *
    have H4 : Hid (digL (n % 10).toNat 73 86 88 = x4) := hx4
    clear hx4
    go_wp2
    go_ret
    refine ⟨ret_str ?_, HB4.out⟩
    rw [HP.out, roman_int n (by omega), show manyL 77 (n / 1000).toNat = [] from by rw [show (n / 1000).toNat = 0 from by omega]; rfl, H2.out, H3.out, H4.out]
    apply WideShapes.bytes_inj
    simp
  by_cases k3 : 10 ≤ n
  · go_enter Tryz.func92, Tryz.ntmps92
    go_wp2_with fail
    refine (digitSigns _ _ _ _ _ (by omega) (by omega) (HT.out.below (Below.refl _ _) (g := 4) (by kernel_rfl))).mono ?_
    rintro e w3 ⟨rfl, hb3⟩
    have HB3 : Hid (Below w.heap.size w w3) := hb3
    clear hb3
    have hl3 := digL_len (n / 10 % 10).toNat 88 76 67
    generalize hx3 : digL (n / 10 % 10).toNat 88 76 67 = x3 at *
    have H3 : Hid (digL (n / 10 % 10).toNat 88 76 67 = x3) := hx3
    clear hx3
    go_wp2_with fail
    refine (digitSigns _ _ _ _ _ (by omega) (by omega) (HT.out.below HB3.out (g := 4) (by kernel_rfl))).mono ?_
    rintro e w4 ⟨rfl, hb4⟩
    have HB4 : Hid (Below w.heap.size w w4) := HB3.out.trans (hb4.mono HB3.out.size)
    clear hb4
    have hl4 := digL_len (n % 10).toNat 73 86 88
    generalize hx4 : digL (n % 10).toNat 73 86 88 = x4 at *
    have H4 : Hid (digL (n % 10).toNat 73 86 88 = x4) := hx4
    clear hx4
    go_wp2
    go_ret
    refine ⟨ret_str ?_, HB4.out⟩
    rw [HP.out, roman_int n (by omega), show manyL 77 (n / 1000).toNat = [] from by rw [show (n / 1000).toNat = 0 from by omega]; rfl, show digL (n / 100 % 10).toNat 67 68 77 = [] from by rw [show (n / 100 % 10).toNat = 0 from by omega]; rfl, H3.out, H4.out]
    apply WideShapes.bytes_inj
    simp
  · go_enter Tryz.func92, Tryz.ntmps92
    go_wp2_with fail
    refine (digitSigns _ _ _ _ _ (by omega) (by omega) (HT.out.below (Below.refl _ _) (g := 4) (by kernel_rfl))).mono ?_
    rintro e w4 ⟨rfl, hb4⟩
    have HB4 : Hid (Below w.heap.size w w4) := hb4
    clear hb4
    have hl4 := digL_len (n % 10).toNat 73 86 88
    generalize hx4 : digL (n % 10).toNat 73 86 88 = x4 at *
    have H4 : Hid (digL (n % 10).toNat 73 86 88 = x4) := hx4
    clear hx4
    go_wp2
    go_ret
    refine ⟨ret_str ?_, HB4.out⟩
    rw [HP.out, roman_int n (by omega), show manyL 77 (n / 1000).toNat = [] from by rw [show (n / 1000).toNat = 0 from by omega]; rfl, show digL (n / 100 % 10).toNat 67 68 77 = [] from by rw [show (n / 100 % 10).toNat = 0 from by omega]; rfl, show digL (n / 10 % 10).toNat 88 76 67 = [] from by rw [show (n / 10 % 10).toNat = 0 from by omega]; rfl, H4.out]
    apply WideShapes.bytes_inj
    simp
end Go.Proofs.YtoofnjccpoeomaaGreatDoor.ctr
