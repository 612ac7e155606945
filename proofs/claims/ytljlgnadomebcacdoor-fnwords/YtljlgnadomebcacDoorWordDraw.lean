/- Contracts of the model's draws for words (l01Line, DrawWords, DrawLines, DrawNameOk, DrawMonthName, l01Months, DrawMonthOf): each call returns a text of at most 100 bytes or a number, and nothing that was there turns. -/
import Derived.Test.YtljlgnadomebcacDoorBentDraw
import Derived.Test.YtljlgnadomebcacDoorMonthOfCtr
import Derived.Test.YtljlgnadomebcacDoorRowBase
import Derived.OwnWalk
import Derived.Maps.AppendAt
namespace Go.Proofs.YtljlgnadomebcacDoor.ctr
open Go.RowKit

theorem Cur.grown {n0 : Nat} {W W' : World} {a : Option Addr} {len cap B r : Nat} (h : Cur n0 W a len cap B) (g : W.grownBy W' (some r)) (hr : n0 ≤ r) (hrB : r ≠ B) : Cur n0 W' a len cap B := by
  have hb : Below n0 W W' := (Below.refl n0 W).grown g (Nat.le_trans h.lo (Nat.le_of_lt h.hi)) (fun k e => by cases e; exact hr)
  have hB : W'.heap[B]? = W.heap[B]? := g.block B h.hi (by intro e; exact hrB (Option.some.inj e).symm)
  obtain ⟨y0, hy0⟩ := h.c2
  obtain ⟨i, hi, h1⟩ := h.c1
  exact ⟨h.lo, Nat.lt_of_lt_of_le h.hi g.size, h.code.below hb, (World.cell?_of_block (a := ⟨B, 0, none⟩) hB).trans h.c0, ⟨i, hi, (World.cell?_of_block (a := ⟨B, 1, none⟩) hB).trans h1⟩, ⟨y0, (World.cell?_of_block (a := ⟨B, 2, none⟩) hB).trans hy0⟩,
    (World.frozen?_of_block (a := ⟨B, 1, none⟩) hB).trans h.f1, (World.frozen?_of_block (a := ⟨B, 2, none⟩) hB).trans h.f2⟩

def lineTexts : List ByteArray := [⟨#[97]⟩, ⟨#[32]⟩, ⟨#[98, 99]⟩, ⟨#[10]⟩, ⟨#[]⟩]
theorem lineTexts_len : ∀ j : Fin 5, (lineTexts.getD j.val ⟨#[]⟩).size ≤ 2 := by decide

set_option maxHeartbeats 1000000 in
theorem l01Line (n0 : Nat) (W : World) (a : Option Addr) (len cap B : Nat) (hlen : len ≤ maxLen) (hC : Cur n0 W a len cap B) :
    Calls Tryd.prog 55 #[.pointer (some ⟨B, 0, none⟩)] W fun e W' => ∃ s : ByteArray, e = .returned (.string s) ∧ s.size ≤ 100 ∧ Cur n0 W' a len cap B ∧ W.grownBy W' (some B) := by
  have HK : Hid (Cur n0 W a len cap B) := hC
  clear hC
  go_enter Tryd.func55, Tryd.ntmps55
  go_wp2_with fail
  refine (l01Below n0 _ a len cap B 6 hlen (by omega) HK.out).mono ?_
  rintro e W1 ⟨x, rfl, x0, x1, hC1, hG1⟩
  have HK1 : Hid (Cur n0 W1 a len cap B) := hC1
  have HG1 : Hid (W.grownBy W1 (some B)) := hG1
  clear hC1 hG1
  go_wp2
  go_loopw [3, 5] (fun o i wr => ∃ (k : Nat) (s : ByteArray), (k : Int) ≤ x ∧ i = .int .i64 (k : Int) ∧ o = .string s ∧ s.size ≤ 2 * k ∧ Cur n0 wr a len cap B ∧ W.grownBy wr (some B)) (fun _ i _ => 6 - (intOf i).toNat)
  case atStart => exact ⟨0, ⟨#[]⟩, by omega, rfl, rfl, Nat.le_refl _, HK1.out, HG1.out⟩
  case round =>
    obtain ⟨k, s, hk, rfl, rfl, hsz, hC, hG⟩ := hrel
    have HKr : Hid (Cur n0 wr a len cap B) := hC
    have HGr : Hid (W.grownBy wr (some B)) := hG
    clear hC hG
    by_cases hlt : (k : Int) < x
    · go_wp2_with fail
      refine (l01Pick n0 _ a len cap B wr.heap.size 5 5 (fun j => lineTexts.getD j ⟨#[]⟩) hlen (by omega) (by omega) (by rw [size_new]; omega) (Nat.ne_of_gt HKr.out.hi) (fun j hj => alloc_strs wr lineTexts _ j hj) (HKr.out.alloc _)).mono ?_
      rintro e W2 ⟨j, hj, rfl, hC2, hG2⟩
      have hr := lineTexts_len ⟨j, hj⟩
      dsimp only at hr
      have HK2 : Hid (Cur n0 W2 a len cap B) := hC2
      have HG2 : Hid (W.grownBy W2 (some B)) := grown_trans (grown_alloc HGr.out _) hG2
      clear hC2 hG2
      generalize lineTexts.getD j ⟨#[]⟩ = r at *
      have hs10 : s.size ≤ 10 := by omega
      go_wp2
      exact ⟨⟨k + 1, s ++ r, by omega, by go_num, rfl, by rw [ByteArray.size_append]; omega, HK2.out, HG2.out⟩, by simp [intOf]; omega⟩
    · go_wp2
      go_ret
      exact ⟨s, rfl, by omega, HKr.out, HGr.out⟩

set_option maxHeartbeats 1000000 in
theorem drawWords (W : World) (a : Option Addr) (len cap : Nat) (hlen : len ≤ maxLen) (hcode : CodeAt W.heap.size W a len) :
    Calls Tryd.prog 24 #[.slice a len cap] W fun e W' => ∃ s : ByteArray, e = .returned (.string s) ∧ s.size ≤ 100 ∧ Below W.heap.size W W' := by
  have HC : Hid (CodeAt W.heap.size W a len) := hcode
  clear hcode
  go_enter Tryd.func24, Tryd.ntmps24
  go_wp2_with fail
  refine (l01New W a len cap hlen HC.out).mono ?_
  rintro e W1 ⟨B, rfl, hC1, hb1⟩
  have HK1 : Hid (Cur W.heap.size W1 a len cap B) := hC1
  have HB1 : Hid (Below W.heap.size W W1) := hb1
  clear hC1 hb1
  go_wp2_with fail
  refine (l01Line _ _ a len cap B hlen HK1.out).mono ?_
  rintro e W2 ⟨x, rfl, hx, hC2, hG2⟩
  have HB2 : Hid (Below W.heap.size W W2) := below_grownBy HB1.out hG2 HB1.out.size HK1.out.lo
  clear hC2 hG2
  go_wp2
  go_ret
  exact ⟨x, rfl, hx, HB2.out⟩
set_option maxHeartbeats 1000000 in
theorem drawLines (W : World) (a : Option Addr) (len cap : Nat) (hlen : len ≤ maxLen) (hcode : CodeAt W.heap.size W a len) :
    Calls Tryd.prog 26 #[.slice a len cap] W fun e W' => ∃ s : ByteArray, e = .returned (.string s) ∧ s.size ≤ 100 ∧ Below W.heap.size W W' := by
  have HC : Hid (CodeAt W.heap.size W a len) := hcode
  clear hcode
  go_enter Tryd.func26, Tryd.ntmps26
  go_wp2_with fail
  refine (l01New W a len cap hlen HC.out).mono ?_
  rintro e W1 ⟨B, rfl, hC1, hb1⟩
  have HK1 : Hid (Cur W.heap.size W1 a len cap B) := hC1
  have HB1 : Hid (Below W.heap.size W W1) := hb1
  clear hC1 hb1
  go_wp2_with fail
  refine (l01Line _ _ a len cap B hlen HK1.out).mono ?_
  rintro e W2 ⟨x, rfl, hx, hC2, hG2⟩
  have HB2 : Hid (Below W.heap.size W W2) := below_grownBy HB1.out hG2 HB1.out.size HK1.out.lo
  clear hC2 hG2
  go_wp2
  go_ret
  exact ⟨x, rfl, hx, HB2.out⟩

def nameTexts : List ByteArray := [⟨#[97]⟩, ⟨#[107, 97, 108, 101, 110, 100, 115]⟩, ⟨#[97, 98, 99, 100, 101, 102, 103, 104, 105, 106, 107, 108, 109, 110, 111, 112]⟩, ⟨#[97, 98, 99, 100, 101, 102, 103, 104, 105, 106, 107, 108, 109, 110, 111, 112, 113]⟩, ⟨#[]⟩, ⟨#[97, 49]⟩, ⟨#[65]⟩]
theorem nameTexts_len : ∀ j : Fin 7, (nameTexts.getD j.val ⟨#[]⟩).size ≤ 20 := by decide

set_option maxHeartbeats 1000000 in
theorem drawNameOk (W : World) (a : Option Addr) (len cap : Nat) (hlen : len ≤ maxLen) (hcode : CodeAt W.heap.size W a len) :
    Calls Tryd.prog 28 #[.slice a len cap] W fun e W' => ∃ s : ByteArray, e = .returned (.string s) ∧ s.size ≤ 100 ∧ Below W.heap.size W W' := by
  have HC : Hid (CodeAt W.heap.size W a len) := hcode
  clear hcode
  go_enter Tryd.func28, Tryd.ntmps28
  go_wp2_with fail
  refine (l01New W a len cap hlen HC.out).mono ?_
  rintro e W1 ⟨B, rfl, hC1, hb1⟩
  have HK1 : Hid (Cur W.heap.size W1 a len cap B) := hC1
  have HB1 : Hid (Below W.heap.size W W1) := hb1
  clear hC1 hb1
  go_wp2_with fail
  refine (l01Pick _ _ a len cap B W1.heap.size 7 7 (fun j => nameTexts.getD j ⟨#[]⟩) hlen (by omega) (by omega) (by rw [size_new]; omega) (Nat.ne_of_gt HK1.out.hi) (fun j hj => alloc_strs W1 nameTexts _ j hj) (HK1.out.alloc _)).mono ?_
  rintro e W2 ⟨j, hj, rfl, hC2, hG2⟩
  have hr := nameTexts_len ⟨j, hj⟩
  dsimp only at hr
  have HK2 : Hid (Cur W.heap.size W2 a len cap B) := hC2
  have HB2 : Hid (Below W.heap.size W W2) := below_grownBy (HB1.out.alloc HB1.out.size _) hG2 (by rw [size_new]; have := HB1.out.size; omega) HK1.out.lo
  clear hC2 hG2
  generalize nameTexts.getD j ⟨#[]⟩ = r at *
  go_wp2_with fail
  refine (l01Bent _ _ a len cap B r hlen (by omega) HK2.out).mono ?_
  rintro e W3 ⟨q, rfl, hq, hC3, hG3⟩
  have HB3 : Hid (Below W.heap.size W W3) := below_grownBy HB2.out hG3 HB2.out.size HK2.out.lo
  clear hC3 hG3
  go_wp2
  go_ret
  exact ⟨q, rfl, by omega, HB3.out⟩

set_option maxHeartbeats 1000000 in
theorem drawMonthName (W : World) (a : Option Addr) (len cap : Nat) (hlen : len ≤ maxLen) (hcode : CodeAt W.heap.size W a len) :
    Calls Tryd.prog 29 #[.slice a len cap] W fun e W' => ∃ x : Int, e = .returned (.int .i64 x) ∧ Below W.heap.size W W' := by
  have HC : Hid (CodeAt W.heap.size W a len) := hcode
  clear hcode
  go_enter Tryd.func29, Tryd.ntmps29
  go_wp2_with fail
  refine (l01New W a len cap hlen HC.out).mono ?_
  rintro e W1 ⟨B, rfl, hC1, hb1⟩
  have HK1 : Hid (Cur W.heap.size W1 a len cap B) := hC1
  have HB1 : Hid (Below W.heap.size W W1) := hb1
  clear hC1 hb1
  go_wp2_with fail
  refine (l01Below _ _ a len cap B 14 hlen (by omega) HK1.out).mono ?_
  rintro e W2 ⟨x, rfl, x0, x1, hC2, hG2⟩
  have HK2 : Hid (Cur W.heap.size W2 a len cap B) := hC2
  have HB2 : Hid (Below W.heap.size W W2) := below_grownBy HB1.out hG2 HB1.out.size HK1.out.lo
  clear hC2 hG2
  go_wp2_with fail
  refine (l01PickInt _ _ a len cap B W2.heap.size 7 7 (fun j => ([1, 2, 12, 13, 0, -1, x] : List Int).getD j 0) hlen (by omega) (by omega) (by rw [size_new]; omega) (Nat.ne_of_gt HK2.out.hi) (fun j hj => alloc_ints W2 [1, 2, 12, 13, 0, -1, x] _ j hj) (HK2.out.alloc _)).mono ?_
  rintro e W3 ⟨j, hj, rfl, hC3, hG3⟩
  have HB3 : Hid (Below W.heap.size W W3) := below_grownBy (HB2.out.alloc HB2.out.size _) hG3 (by rw [size_new]; have := HB2.out.size; omega) HK2.out.lo
  clear hC3 hG3
  generalize ([1, 2, 12, 13, 0, -1, x] : List Int).getD j 0 = y at *
  go_wp2
  go_ret
  exact ⟨y, rfl, HB3.out⟩

set_option maxHeartbeats 1000000 in
theorem l01Months (w : World) : Calls Tryd.prog 57 #[] w fun e w' => e = .returned (.slice (some ⟨w.heap.size, 0, none⟩) 12 12) ∧ w' = w.alloc (.cells monVals 9) := by
  go_enter Tryd.func57, Tryd.ntmps57
  go_wp2
  go_ret
  exact ⟨rfl, rfl⟩
def monthTexts : List ByteArray := (mons.map fun l => (⟨l.toArray⟩ : ByteArray)) ++ [⟨#[]⟩, ⟨#[106, 97, 110, 117, 97, 114, 121]⟩]
theorem monthTexts_len : ∀ j : Fin 14, (monthTexts.getD j.val ⟨#[]⟩).size ≤ 20 := by decide
theorem months_own (w : World) : (w.alloc (.cells monVals 9)).ownsRow w.heap.size 9 1 (.slice (some ⟨w.heap.size, 0, none⟩) 12 12) 12 (mons.map fun s => Value.string ⟨s.toArray⟩) :=
  ⟨rfl, .inr ⟨w.heap.size, 12, monVals, rfl, Nat.le_refl _, by simp [World.alloc, -World.alloc_eq], Nat.le_refl _, by unfold maxLen; omega, rfl, rfl⟩⟩

set_option maxHeartbeats 1000000 in
theorem drawMonthOf (W : World) (a : Option Addr) (len cap : Nat) (hlen : len ≤ maxLen) (hcode : CodeAt W.heap.size W a len) :
    Calls Tryd.prog 30 #[.slice a len cap] W fun e W' => ∃ s : ByteArray, e = .returned (.string s) ∧ s.size ≤ 100 ∧ Below W.heap.size W W' := by
  obtain ⟨i0, hi, hz0, hz1, hz2⟩ := info_parts info_str
  have HC : Hid (CodeAt W.heap.size W a len) := hcode
  clear hcode
  go_enter Tryd.func30, Tryd.ntmps30
  go_wp2_with fail
  refine (l01New W a len cap hlen HC.out).mono ?_
  rintro e W1 ⟨B, rfl, hC1, hb1⟩
  have HK1 : Hid (Cur W.heap.size W1 a len cap B) := hC1
  have HB1 : Hid (Below W.heap.size W W1) := hb1
  clear hC1 hb1
  go_wp2_with fail
  refine (l01Months _).mono ?_
  rintro e W2 ⟨rfl, rfl⟩
  have hrow := months_own W1
  go_wp2_with (at_builtin; refine wpList_append_own _ rfl _ _ 31 rfl W1.heap.size 9 i0 (.string ⟨#[]⟩) 1 16 Tryd.underlying31 hi hz0 hz1 hz2 rfl (by decide) _ _ _ rfl (hrow.alloc _) ⟨W1.heap.size + 1, 0, none⟩ 2 2 [.string ⟨#[]⟩, .string ⟨#[106, 97, 110, 117, 97, 114, 121]⟩] rfl rfl ?_ (by simp [Value.oneCell']) (by unfold maxLen; omega) (by omega) (by rw [size_new, size_new]; omega) ?_; rotate_left; intro v' w1 hown' hgrow _)
  · have h2 : w1.ownsRow W1.heap.size 9 1 v' monthTexts.length (monthTexts.map Value.string) := hown'
    obtain ⟨g, c, rfl, hg, hgl, hst, _⟩ := own_row h2 (by decide)
    have hK2 : Cur W.heap.size w1 a len cap B := ((HK1.out.alloc _).alloc _).grown hgrow (Nat.le_trans HK1.out.lo (Nat.le_of_lt HK1.out.hi)) (Nat.ne_of_gt HK1.out.hi)
    have HB2 : Hid (Below W.heap.size W w1) := ((HB1.out.alloc HB1.out.size _).alloc (by rw [size_new]; have := HB1.out.size; omega) _).grown hgrow (by rw [size_new, size_new]; have := HB1.out.size; omega) (fun k e => by cases e; exact HB1.out.size)
    have HK2 : Hid (Cur W.heap.size w1 a len cap B) := hK2
    have HST : Hid (StrAt w1 g monthTexts) := hst
    have hgB : g ≠ B := by have := HK1.out.hi; omega
    clear hrow hown' h2 hgrow hK2 hst
    refine (l01Pick _ _ a len cap B g 14 c (fun j => monthTexts.getD j ⟨#[]⟩) hlen (by omega) (by omega) hgl hgB (fun j hj => HST.out j hj) HK2.out).mono ?_
    rintro e W3 ⟨j, hj, rfl, hC3, hG3⟩
    have hr := monthTexts_len ⟨j, hj⟩
    dsimp only at hr
    have HK3 : Hid (Cur W.heap.size W3 a len cap B) := hC3
    have HB3 : Hid (Below W.heap.size W W3) := below_grownBy HB2.out hG3 HB2.out.size HK2.out.lo
    clear hC3 hG3
    generalize monthTexts.getD j ⟨#[]⟩ = r at *
    go_wp2_with fail
    refine (l01Bent _ _ a len cap B r hlen (by omega) HK3.out).mono ?_
    rintro e W4 ⟨q, rfl, hq, hC4, hG4⟩
    have HB4 : Hid (Below W.heap.size W W4) := below_grownBy HB3.out hG4 HB3.out.size HK3.out.lo
    clear hC4 hG4
    go_wp2
    go_ret
    exact ⟨q, rfl, by omega, HB4.out⟩
  · intro j u hu
    have hadd : (⟨W1.heap.size + 1, 0, none⟩ : Addr).add j = ⟨W1.heap.size + 1, j, none⟩ := by unfold Addr.add; split <;> simp_all
    have hz : W1.heap.size + 1 = (W1.alloc (.cells monVals 9)).heap.size := (size_new _ _).symm
    rw [hadd, hz, cell_new]
    simpa using hu
end Go.Proofs.YtljlgnadomebcacDoor.ctr
