/- Contracts of the model's draws for FnStyle: l06Style, l06Three and the seven draws of chapter 6: each call returns numbers or a text, and nothing that was there turns. -/
import Derived.Test.YtifekkehbaegiaaGreatDoorDrwA
import Derived.Test.YtifekkehbaegiaaGreatDoorLawBase
import Derived.Test.YtifekkehbaegiaaGreatDoorStySpec
import Derived.Test.YtifekkehbaegiaaGreatDoorCutCtr
import Derived.Test.YtifekkehbaegiaaGreatDoorRowBase
namespace Go.Proofs.YtifekkehbaegiaaGreatDoor.ctr
open Go.RowKit

theorem cell_two_new (w : World) (x y : Value) (t : TypeId) : ∀ j u, [x, y][j]? = some u → (w.alloc (.cells #[x, y] t)).cell? ((⟨w.heap.size, 0, none⟩ : Addr).add j) = some u := by
  intro j u hj
  have ha : (⟨w.heap.size, 0, none⟩ : Addr).add j = ⟨w.heap.size, j, none⟩ := by unfold Addr.add; split <;> simp_all
  rw [ha, cell_new]
  simpa using hj
def styOdd : List Int := [-1, 7]
set_option maxHeartbeats 1000000 in
theorem l06Style (n0 : Nat) (W : World) (a : Option Addr) (len cap B : Nat) (hlen : len ≤ maxLen) (hC : Cur n0 W a len cap B) :
    Calls Tryz.prog 68 #[.pointer (some ⟨B, 0, none⟩)] W fun e W' => ∃ n : Int, e = .returned (.int .i64 n) ∧ Cur n0 W' a len cap B ∧ W.grownBy W' (some B) := by
  have HK : Hid (Cur n0 W a len cap B) := hC
  clear hC
  go_enter Tryz.func68, Tryz.ntmps68
  go_wp2_with fail
  refine (l01Once n0 _ a len cap B 20 hlen (by omega) HK.out).mono ?_
  rintro e W1 ⟨o, rfl, hC1, hG1⟩
  have HK1 : Hid (Cur n0 W1 a len cap B) := hC1
  have HG1 : Hid (W.grownBy W1 (some B)) := hG1
  clear hC1 hG1
  cases o
  · go_wp2_with fail
    refine (l01Below n0 _ a len cap B 7 hlen (by omega) HK1.out).mono ?_
    rintro e W2 ⟨x, rfl, _, _, hC2, hG2⟩
    have HK2 := hideP hC2
    have HG2 := hideP (grown_trans HG1.out hG2)
    clear hC2 hG2
    go_wp2
    go_ret
    exact ⟨_, rfl, HK2.out, HG2.out⟩
  · go_wp2_with fail
    refine (l01PickInt _ _ a len cap B W1.heap.size 2 2 (fun j => styOdd.getD j 0) hlen (by omega) (by omega) (by rw [size_new]; omega) (Nat.ne_of_gt HK1.out.hi) (fun j hj => alloc_ints W1 styOdd _ j hj) (HK1.out.alloc _)).mono ?_
    rintro e W2 ⟨j, hj, rfl, hC2, hG2⟩
    have HK2 := hideP hC2
    have HG2 := hideP (grown_trans (grown_alloc HG1.out _) hG2)
    clear hC2 hG2
    generalize styOdd.getD j 0 = z at *
    go_wp2
    go_ret
    exact ⟨_, rfl, HK2.out, HG2.out⟩

def styCals : List Int := [0, 1, 0, 1, 0, 1, 2]
/-- The texts that are drawn from. -/
def styTexts : List ByteArray := (stys.map fun s => (⟨s.toArray⟩ : ByteArray)) ++ [⟨#[]⟩, ⟨#[74, 97, 110]⟩]
theorem styTexts_short : ∀ j : Fin 9, (styTexts.getD j.val ⟨#[]⟩).size ≤ 6 := by decide
theorem own_names (w : World) : (w.alloc (.cells styVals 9)).ownsRow w.heap.size 9 1 (.slice (some ⟨w.heap.size, 0, none⟩) 7 7) 7 styVals.toList :=
  ⟨rfl, .inr ⟨w.heap.size, 7, styVals, rfl, Nat.le_refl _, by simp [World.alloc, -World.alloc_eq], Nat.le_refl _, by unfold maxLen; omega, rfl, rfl⟩⟩
theorem styVals_app : styVals.toList ++ [.string ⟨#[]⟩, .string ⟨#[74, 97, 110]⟩] = styTexts.map Value.string := rfl
end Go.Proofs.YtifekkehbaegiaaGreatDoor.ctr
