/- Contracts of the model's draws for FnStyle: l06Style, l06Three and the seven draws of chapter 6: each call returns numbers or a text, and nothing that was there turns. -/
import Derived.Test.YtghmlaflbopolaaDoorEasDraw
import Derived.Test.YtghmlaflbopolaaDoorLawBase
import Derived.Test.YtghmlaflbopolaaDoorBentDraw
import Derived.Test.YtghmlaflbopolaaDoorWeekDraw2
import Derived.Test.YtghmlaflbopolaaDoorStySpec
import Derived.Test.YtghmlaflbopolaaDoorCutCtr
import Derived.Test.YtghmlaflbopolaaDoorRowBase
namespace Go.Proofs.YtghmlaflbopolaaDoor.ctr
open Go.RowKit

theorem cell_two_new (w : World) (x y : Value) (t : TypeId) : ∀ j u, [x, y][j]? = some u → (w.alloc (.cells #[x, y] t)).cell? ((⟨w.heap.size, 0, none⟩ : Addr).add j) = some u := by
  intro j u hj
  have ha : (⟨w.heap.size, 0, none⟩ : Addr).add j = ⟨w.heap.size, j, none⟩ := by unfold Addr.add; split <;> simp_all
  rw [ha, cell_new]
  simpa using hj
def styOdd : List Int := [-1, 7]
set_option maxHeartbeats 1000000 in
theorem l06Style (n0 : Nat) (W : World) (a : Option Addr) (len cap B : Nat) (hlen : len ≤ maxLen) (hC : Cur n0 W a len cap B) :
    Calls Tryd.prog 50 #[.pointer (some ⟨B, 0, none⟩)] W fun e W' => ∃ n : Int, e = .returned (.int .i64 n) ∧ Cur n0 W' a len cap B ∧ W.grownBy W' (some B) := by
  have HK : Hid (Cur n0 W a len cap B) := hC
  clear hC
  go_enter Tryd.func50, Tryd.ntmps50
  go_wp2_with fail
  refine (l01Once n0 _ a len cap B 20 hlen (by omega) HK.out).mono ?_
  rintro e W1 ⟨o, rfl, hC1, hG1⟩
  have HK1 : Hid (Cur n0 W1 a len cap B) := hC1
  have HG1 : Hid (W.grownBy W1 (some B)) := hG1
  clear hC1 hG1
  cases o
  · go_wp2_with fail
    refine (l01Below n0 _ a len cap B 7 hlen (by omega) HK1.out).mono ?_
    rintro e W2 ⟨x, rfl, _, _, hC2, hG2⟩
    have HK2 := hideP hC2
    have HG2 := hideP (grown_trans HG1.out hG2)
    clear hC2 hG2
    go_wp2
    go_ret
    exact ⟨_, rfl, HK2.out, HG2.out⟩
  · go_wp2_with fail
    refine (l01PickInt _ _ a len cap B W1.heap.size 2 2 (fun j => styOdd.getD j 0) hlen (by omega) (by omega) (by rw [size_new]; omega) (Nat.ne_of_gt HK1.out.hi) (fun j hj => alloc_ints W1 styOdd _ j hj) (HK1.out.alloc _)).mono ?_
    rintro e W2 ⟨j, hj, rfl, hC2, hG2⟩
    have HK2 := hideP hC2
    have HG2 := hideP (grown_trans (grown_alloc HG1.out _) hG2)
    clear hC2 hG2
    generalize styOdd.getD j 0 = z at *
    go_wp2
    go_ret
    exact ⟨_, rfl, HK2.out, HG2.out⟩

set_option maxHeartbeats 1000000 in
theorem l06Three (W : World) (a : Option Addr) (len cap : Nat) (hlen : len ≤ maxLen) (hcode : CodeAt W.heap.size W a len) :
    Calls Tryd.prog 44 #[.slice a len cap] W fun e W' => ∃ x y z : Int, e = .returned (.tuple #[.int .i64 x, .int .i64 y, .int .i64 z]) ∧ Below W.heap.size W W' := by
  have HC := hideP hcode
  clear hcode
  go_enter Tryd.func44, Tryd.ntmps44
  go_wp2_with fail
  refine (l03Two W a len cap hlen HC.out).mono ?_
  rintro e W1 ⟨x, y, rfl, hb1⟩
  have HB1 := hideP hb1
  have HC1 : Hid (CodeAt W1.heap.size W1 a len) := CodeAt.up HC.out hb1
  clear hb1
  go_wp2_with fail
  refine (l01New W1 a len cap hlen HC1.out).mono ?_
  rintro e W2 ⟨B, rfl, hC2, hb2⟩
  have HK2 := hideP hC2
  have HB2 := hideP hb2
  clear hC2 hb2
  go_wp2_with fail
  refine (l06Style _ _ a len cap B hlen HK2.out).mono ?_
  rintro e W3 ⟨z, rfl, hC3, hG3⟩
  have HB3 : Hid (Below W1.heap.size W1 W3) := below_grownBy HB2.out hG3 HB2.out.size HK2.out.lo
  clear hC3 hG3
  go_wp2
  go_ret3
  exact ⟨_, _, _, rfl, HB1.out.trans (HB3.out.mono HB1.out.size)⟩

theorem drawYearStart (W : World) (a : Option Addr) (len cap : Nat) (hlen : len ≤ maxLen) (hcode : CodeAt W.heap.size W a len) :
    Calls Tryd.prog 14 #[.slice a len cap] W fun e W' => ∃ x y z : Int, e = .returned (.tuple #[.int .i64 x, .int .i64 y, .int .i64 z]) ∧ Below W.heap.size W W' := by
  have HC := hideP hcode
  clear hcode
  go_enter Tryd.func14, Tryd.ntmps14
  go_wp2_with fail
  refine (l06Three W a len cap hlen HC.out).mono ?_
  rintro e W1 ⟨x, y, z, rfl, hb⟩
  go_wp2
  go_ret3
  exact ⟨x, y, z, rfl, hb⟩

theorem drawYearDays (W : World) (a : Option Addr) (len cap : Nat) (hlen : len ≤ maxLen) (hcode : CodeAt W.heap.size W a len) :
    Calls Tryd.prog 15 #[.slice a len cap] W fun e W' => ∃ x y z : Int, e = .returned (.tuple #[.int .i64 x, .int .i64 y, .int .i64 z]) ∧ Below W.heap.size W W' := by
  have HC := hideP hcode
  clear hcode
  go_enter Tryd.func15, Tryd.ntmps15
  go_wp2_with fail
  refine (l06Three W a len cap hlen HC.out).mono ?_
  rintro e W1 ⟨x, y, z, rfl, hb⟩
  go_wp2
  go_ret3
  exact ⟨x, y, z, rfl, hb⟩

theorem drawTwins (W : World) (a : Option Addr) (len cap : Nat) (hlen : len ≤ maxLen) (hcode : CodeAt W.heap.size W a len) :
    Calls Tryd.prog 20 #[.slice a len cap] W fun e W' => ∃ x y z : Int, e = .returned (.tuple #[.int .i64 x, .int .i64 y, .int .i64 z]) ∧ Below W.heap.size W W' := by
  have HC := hideP hcode
  clear hcode
  have hl : (len : Int) ≤ 9223372036854775807 := by unfold maxLen at hlen; omega
  cases hq : ((len : Int) % 2 == 0)
  · go_enter Tryd.func20, Tryd.ntmps20
    go_wp2_with fail
    refine (l06Three W a len cap hlen HC.out).mono ?_
    rintro e W1 ⟨x, y, z, rfl, hb⟩
    go_wp2
    go_ret3
    exact ⟨_, _, _, rfl, hb⟩
  · go_enter Tryd.func20, Tryd.ntmps20
    go_wp2_with fail
    refine (l06Three W a len cap hlen HC.out).mono ?_
    rintro e W1 ⟨x, y, z, rfl, hb⟩
    go_wp2
    go_ret3
    exact ⟨_, _, _, rfl, hb⟩
theorem drawStyleName (W : World) (a : Option Addr) (len cap : Nat) (hlen : len ≤ maxLen) (hcode : CodeAt W.heap.size W a len) :
    Calls Tryd.prog 23 #[.slice a len cap] W fun e W' => ∃ x : Int, e = .returned (.int .i64 x) ∧ Below W.heap.size W W' := by
  have HC := hideP hcode
  clear hcode
  go_enter Tryd.func23, Tryd.ntmps23
  go_wp2_with fail
  refine (l01New W a len cap hlen HC.out).mono ?_
  rintro e W1 ⟨B, rfl, hC1, hb1⟩
  have HK1 := hideP hC1
  have HB1 := hideP hb1
  clear hC1 hb1
  go_wp2_with fail
  refine (l01Below _ _ a len cap B 10 hlen (by omega) HK1.out).mono ?_
  rintro e W2 ⟨x, rfl, x0, x1, hC2, hG2⟩
  have HB2 : Hid (Below W.heap.size W W2) := below_grownBy HB1.out hG2 HB1.out.size HK1.out.lo
  clear hC2 hG2
  go_wp2
  go_ret
  exact ⟨_, rfl, HB2.out⟩

def styCals : List Int := [0, 1, 0, 1, 0, 1, 2]
set_option maxHeartbeats 2000000 in
theorem drawStyleYear (W : World) (a : Option Addr) (len cap : Nat) (hlen : len ≤ maxLen) (hcode : CodeAt W.heap.size W a len) :
    Calls Tryd.prog 17 #[.slice a len cap] W fun e W' => ∃ x y z : Int, e = .returned (.tuple #[.int .i64 x, .int .i64 y, .int .i64 z]) ∧ Below W.heap.size W W' := by
  have HC := hideP hcode
  clear hcode
  go_enter Tryd.func17, Tryd.ntmps17
  go_wp2_with fail
  refine (l01New W a len cap hlen HC.out).mono ?_
  rintro e W1 ⟨B, rfl, hC1, hb1⟩
  have HK1 := hideP hC1
  have HB1 := hideP hb1
  clear hC1 hb1
  go_wp2_with fail
  refine (l01PickInt _ _ a len cap B W1.heap.size 7 7 (fun j => styCals.getD j 0) hlen (by omega) (by omega) (by rw [size_new]; omega) (Nat.ne_of_gt HK1.out.hi) (fun j hj => alloc_ints W1 styCals _ j hj) (HK1.out.alloc _)).mono ?_
  rintro e W2 ⟨j, hj, rfl, hC2, hG2⟩
  have HK2 := hideP hC2
  have HB2 : Hid (Below W.heap.size W W2) := below_grownBy (HB1.out.alloc HB1.out.size _) hG2 (by rw [size_new]; have := HB1.out.size; omega) HK1.out.lo
  clear hC2 hG2
  generalize styCals.getD j 0 = c at *
  go_wp2_with fail
  refine (l06Style _ _ a len cap B hlen HK2.out).mono ?_
  rintro e W3 ⟨s, rfl, hC3, hG3⟩
  have HK3 := hideP hC3
  have HB3 : Hid (Below W.heap.size W W3) := below_grownBy HB2.out hG3 HB2.out.size HK2.out.lo
  clear hC3 hG3
  go_wp2_with fail
  refine (l01Once _ _ a len cap B 3 hlen (by omega) HK3.out).mono ?_
  rintro e W4 ⟨b, rfl, hC4, hG4⟩
  have HK4 := hideP hC4
  have HB4 : Hid (Below W.heap.size W W4) := below_grownBy HB3.out hG4 HB3.out.size HK3.out.lo
  clear hC4 hG4
  cases b
  · go_wp2_with fail
    refine (l02Some _ _ a len cap B hlen HK4.out).mono ?_
    rintro e W5 ⟨z, rfl, hz, hC5, hG5⟩
    have HB5 : Hid (Below W.heap.size W W5) := below_grownBy HB4.out hG5 HB4.out.size HK4.out.lo
    clear hC5 hG5 hz
    go_wp2
    go_ret3
    exact ⟨_, _, _, rfl, HB5.out⟩
  · go_wp2_with fail
    refine (l02AnyYear _ _ a len cap B hlen HK4.out).mono ?_
    rintro e W5 ⟨y, rfl, hC5, hG5⟩
    have HK5 := hideP hC5
    have HB5 : Hid (Below W.heap.size W W5) := below_grownBy HB4.out hG5 HB4.out.size HK4.out.lo
    clear hC5 hG5
    go_wp2_with fail
    refine (specYearStart c s y _).mono ?_
    rintro e W6 ⟨rfl, hb6⟩
    have HK6 := hideP (HK5.out.below hb6)
    have HB6 : Hid (Below W.heap.size W W6) := HB5.out.trans (hb6.mono HB5.out.size)
    clear hb6
    generalize yearStart c s y = t at *
    go_wp2_with fail
    refine (l01Below _ _ a len cap B 2 hlen (by omega) HK6.out).mono ?_
    rintro e W7 ⟨x, rfl, x0, x1, hC7, hG7⟩
    have HB7 : Hid (Below W.heap.size W W7) := below_grownBy HB6.out hG7 HB6.out.size HK6.out.lo
    clear hC7 hG7
    go_wp2
    go_ret3
    exact ⟨_, _, _, rfl, HB7.out⟩

set_option maxHeartbeats 2000000 in
theorem drawSolarYears (W : World) (a : Option Addr) (len cap : Nat) (hlen : len ≤ maxLen) (hcode : CodeAt W.heap.size W a len) :
    Calls Tryd.prog 21 #[.slice a len cap] W fun e W' => ∃ x y z u v : Int, e = .returned (.tuple #[.int .i64 x, .int .i64 y, .int .i64 z, .int .i64 u, .int .i64 v]) ∧ Below W.heap.size W W' := by
  have HC := hideP hcode
  clear hcode
  go_enter Tryd.func21, Tryd.ntmps21
  go_wp2_with fail
  refine (l01New W a len cap hlen HC.out).mono ?_
  rintro e W1 ⟨B, rfl, hC1, hb1⟩
  have HK1 := hideP hC1
  have HB1 := hideP hb1
  have HC1 : Hid (CodeAt W1.heap.size W1 a len) := CodeAt.up HC.out hb1
  clear hC1 hb1
  go_wp2_with fail
  refine (l06Three W1 a len cap hlen HC1.out).mono ?_
  rintro e W2 ⟨x, y, z, rfl, hb2⟩
  have HK2 := hideP (HK1.out.below hb2)
  have HB2 : Hid (Below W.heap.size W W2) := HB1.out.trans (hb2.mono HB1.out.size)
  clear hb2
  go_wp2_with fail
  refine (l02Date _ _ a len cap B hlen HK2.out).mono ?_
  rintro e W3 ⟨c, y', m, d, rfl, hC3, hG3⟩
  have HK3 := hideP hC3
  have HB3 : Hid (Below W.heap.size W W3) := below_grownBy HB2.out hG3 HB2.out.size HK2.out.lo
  clear hC3 hG3
  go_wp2_with fail
  refine (l01Once _ _ a len cap B 2 hlen (by omega) (HK3.out.alloc _)).mono ?_
  rintro e W4 ⟨b, rfl, hC4, hG4⟩
  have HK4 := hideP hC4
  have HB4 : Hid (Below W.heap.size W W4) := below_grownBy (HB3.out.alloc HB3.out.size _) hG4 (by rw [size_new]; have := HB3.out.size; omega) HK3.out.lo
  have h3 := HK3.out.hi
  have HD : Hid (Blk W4 W3.heap.size #[.int .i64 c, .int .i64 y', .int .i64 m, .int .i64 d] 40) := (Blk.new W3 _ _).grown hG4 (by omega)
  clear hC4 hG4
  cases b
  · have c2 : W4.cell? ⟨W3.heap.size, 2, none⟩ = some (.int .i64 m) := HD.out.cell 2 rfl
    have c3 : W4.cell? ⟨W3.heap.size, 3, none⟩ = some (.int .i64 d) := HD.out.cell 3 rfl
    clear h3
    go_wp2_with fail
    go_quiet (fail)
    go_wp2
    go_returns
    exact ⟨_, _, _, _, _, rfl, Below_drewN HB4.out _⟩
  · go_wp2_with fail
    refine (l01Below _ _ a len cap B 2 hlen (by omega) HK4.out).mono ?_
    rintro e W5 ⟨p, rfl, p0, p1, hC5, hG5⟩
    have HK5 := hideP hC5
    have HB5 : Hid (Below W.heap.size W W5) := below_grownBy HB4.out hG5 HB4.out.size HK4.out.lo
    clear hC5 hG5
    go_wp2_with fail
    refine (l01Below _ _ a len cap B 31 hlen (by omega) HK5.out).mono ?_
    rintro e W6 ⟨q, rfl, q0, q1, hC6, hG6⟩
    have HB6 : Hid (Below W.heap.size W W6) := below_grownBy HB5.out hG6 HB5.out.size HK5.out.lo
    clear hC6 hG6
    go_wp2
    go_returns
    exact ⟨_, _, _, _, _, rfl, HB6.out⟩

/-- The texts that are drawn from. -/
def styTexts : List ByteArray := (stys.map fun s => (⟨s.toArray⟩ : ByteArray)) ++ [⟨#[]⟩, ⟨#[74, 97, 110]⟩]
theorem styTexts_short : ∀ j : Fin 9, (styTexts.getD j.val ⟨#[]⟩).size ≤ 6 := by decide
theorem own_names (w : World) : (w.alloc (.cells styVals 9)).ownsRow w.heap.size 9 1 (.slice (some ⟨w.heap.size, 0, none⟩) 7 7) 7 styVals.toList :=
  ⟨rfl, .inr ⟨w.heap.size, 7, styVals, rfl, Nat.le_refl _, by simp [World.alloc, -World.alloc_eq], Nat.le_refl _, by unfold maxLen; omega, rfl, rfl⟩⟩
theorem styVals_app : styVals.toList ++ [.string ⟨#[]⟩, .string ⟨#[74, 97, 110]⟩] = styTexts.map Value.string := rfl
set_option maxRecDepth 100000 in
set_option maxHeartbeats 2000000 in
theorem drawStyleOf (W : World) (a : Option Addr) (len cap : Nat) (hlen : len ≤ maxLen) (hcode : CodeAt W.heap.size W a len) :
    Calls Tryd.prog 24 #[.slice a len cap] W fun e W' => ∃ s : ByteArray, e = .returned (.string s) ∧ Below W.heap.size W W' := by
  obtain ⟨i0, hi, hz0, hz1, hz2⟩ := info_parts info_str
  have HC := hideP hcode
  clear hcode
  go_enter Tryd.func24, Tryd.ntmps24
  go_wp2_with fail
  refine (l01New W a len cap hlen HC.out).mono ?_
  rintro e W1 ⟨B, rfl, hC1, hb1⟩
  have HK1 := hideP hC1
  have HB1 := hideP hb1
  clear hC1 hb1
  go_wp2_with fail
  refine (specNames _).mono ?_
  rintro e W2 ⟨rfl, hw2⟩
  have HO : Hid (W2.ownsRow W1.heap.size 9 1 (.slice (some ⟨W1.heap.size, 0, none⟩) 7 7) 7 styVals.toList) := by unfold Hid; rw [hw2]; exact own_names W1
  have HB12 : Hid (Below W1.heap.size W1 W2) := by unfold Hid; rw [hw2]; exact (Below.refl _ _).alloc (Nat.le_refl _) _
  have hs2 : W2.heap.size = W1.heap.size + 1 := by rw [hw2, size_new]
  have HS2 := hideP hs2
  clear hw2 hs2
  go_wp2_with (at_builtin; refine wpList_append_own _ rfl _ _ 64 rfl W1.heap.size 9 i0 (.string ⟨#[]⟩) 1 16 Tryd.underlying64 hi hz0 hz1 hz2 rfl (by decide) _ _ _ rfl (HO.out.alloc _) ⟨W2.heap.size, 0, none⟩ 2 2 [.string ⟨#[]⟩, .string ⟨#[74, 97, 110]⟩] rfl rfl (cell_two_new _ _ _ _) (by simp [Value.oneCell']) (by unfold maxLen; omega) (by omega) (by rw [size_new]; have := HS2.out; omega) ?_; intro v' w9 hown' hgrow _)
  have hb9 : Below W1.heap.size W1 w9 := (HB12.out.alloc HB12.out.size _).grown hgrow (by rw [size_new]; have := HS2.out; omega) (own_base HO.out)
  have hown2 : w9.ownsRow W1.heap.size 9 1 v' styTexts.length (styTexts.map Value.string) := by rw [← styVals_app]; exact hown'
  obtain ⟨g, cp, hv', hg, hgl, hst, _⟩ := own_row hown2 (by decide)
  have HK9 := hideP (HK1.out.below hb9)
  have HB9 : Hid (Below W.heap.size W w9) := HB1.out.trans (hb9.mono HB1.out.size)
  have HST := hideP hst
  have hBg : g ≠ B := by have := HK1.out.hi; omega
  clear hown' hown2 hgrow hb9 hst
  rw [hv']
  refine (l01Pick _ _ a len cap B g 9 cp (fun j => styTexts.getD j ⟨#[]⟩) hlen (by omega) (by omega) hgl hBg (fun j hj => HST.out j hj) HK9.out).mono ?_
  rintro e W3 ⟨j, hj, rfl, hC3, hG3⟩
  have hsz := styTexts_short ⟨j, hj⟩
  dsimp only at hsz
  have HK3 := hideP hC3
  have HB3 : Hid (Below W.heap.size W W3) := below_grownBy HB9.out hG3 HB9.out.size HK9.out.lo
  clear hC3 hG3
  generalize styTexts.getD j ⟨#[]⟩ = t at *
  go_wp2_with fail
  refine (l01Bent _ _ a len cap B t hlen (by omega) HK3.out).mono ?_
  rintro e W4 ⟨r, rfl, _, hC4, hG4⟩
  have HB4 : Hid (Below W.heap.size W W4) := below_grownBy HB3.out hG4 HB3.out.size HK3.out.lo
  clear hC4 hG4
  go_wp2
  go_ret
  exact ⟨_, rfl, HB4.out⟩
end Go.Proofs.YtghmlaflbopolaaDoor.ctr
