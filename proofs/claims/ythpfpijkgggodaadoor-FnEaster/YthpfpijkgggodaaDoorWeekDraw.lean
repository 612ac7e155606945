/- Contracts of the model's draws for dates (l02AnyYear, l02Date): each call returns four numbers, and nothing that was there but the cursor turns. -/
import Derived.Test.YthpfpijkgggodaaDoorDrawKit
import Derived.Test.YthpfpijkgggodaaDoorBlkKit
import Derived.Test.YthpfpijkgggodaaDoorSolMonth
namespace Go.Proofs.YthpfpijkgggodaaDoor.ctr
open Go.RowKit

theorem Cur.store {n0 : Nat} {W : World} {a : Option Addr} {len cap B b i : Nat} (h : Cur n0 W a len cap B) (v : Value) (hb : n0 ≤ b) (hn : b ≠ B) : Cur n0 (W.setCell ⟨b, i, none⟩ v) a len cap B := by
  obtain ⟨y0, hy0⟩ := h.c2
  obtain ⟨j, hj, h1⟩ := h.c1
  refine ⟨h.lo, by rw [set_size]; exact h.hi, h.code.below (below_set W _ hb _), ?_, ⟨j, hj, ?_⟩, ⟨y0, ?_⟩, by rw [World.frozen?_setCell]; exact h.f1, by rw [World.frozen?_setCell]; exact h.f2⟩
  · rw [World.cell?_setCell_other W _ _ _ (by intro e; injection e with e1; omega)]; exact h.c0
  · rw [World.cell?_setCell_other W _ _ _ (by intro e; injection e with e1; omega)]; exact h1
  · rw [World.cell?_setCell_other W _ _ _ (by intro e; injection e with e1; omega)]; exact hy0
theorem Blk.grown {W W' : World} {b B : Nat} {vs : Array Value} {t : TypeId} (h : Blk W b vs t) (g : W.grownBy W' (some B)) (hn : b ≠ B) : Blk W' b vs t :=
  (g.block b h.lt (by intro e; exact hn (Option.some.inj e))).trans h
theorem grown_store {W W' : World} {B b i : Nat} (h : W.grownBy W' (some B)) (v : Value) (hb : W.heap.size ≤ b) : W.grownBy (W'.setCell ⟨b, i, none⟩ v) (some B) :=
  ⟨h.os, h.tape, h.output, by rw [set_size]; exact h.size, fun k hk hr => (Below.heap_setCell W' ⟨b, i, none⟩ v k (fun e => by have : k = b := e; omega)).trans (h.block k hk hr)⟩

def yearsIn : List Int := [1, 4, 100, 400, 1500, 1582, 1700, 1712, 1752, 1900, 2000, 3000]
set_option maxHeartbeats 1000000 in
theorem l02AnyYear (n0 : Nat) (W : World) (a : Option Addr) (len cap B : Nat) (hlen : len ≤ maxLen) (hC : Cur n0 W a len cap B) :
    Calls Tryd.prog 65 #[.pointer (some ⟨B, 0, none⟩)] W fun e W' => ∃ y : Int, e = .returned (.int .i64 y) ∧ Cur n0 W' a len cap B ∧ W.grownBy W' (some B) := by
  have HK : Hid (Cur n0 W a len cap B) := hC
  clear hC
  go_enter Tryd.func65, Tryd.ntmps65
  go_wp2_with fail
  refine (l01Below n0 _ a len cap B 6 hlen (by omega) HK.out).mono ?_
  rintro e W1 ⟨x, rfl, x0, x1, hC1, hG1⟩
  have HK1 : Hid (Cur n0 W1 a len cap B) := hC1
  have HG1 : Hid (W.grownBy W1 (some B)) := hG1
  clear hC1 hG1
  by_cases e0 : x = 0
  · subst e0
    go_wp2_with fail
    refine (l01PickInt n0 _ a len cap B W1.heap.size 12 12 (fun j => yearsIn.getD j 0) hlen (by omega) (by omega) (by rw [size_new]; omega) (Nat.ne_of_gt HK1.out.hi) (fun j hj => alloc_ints W1 yearsIn _ j hj) (HK1.out.alloc _)).mono ?_
    rintro e W2 ⟨j, hj, rfl, hC2, hG2⟩
    have HK2 : Hid (Cur n0 W2 a len cap B) := hC2
    have HG2 : Hid (W.grownBy W2 (some B)) := grown_trans (grown_alloc HG1.out _) hG2
    clear hC2 hG2
    generalize yearsIn.getD j 0 = z at *
    go_wp2
    go_ret
    exact ⟨z, rfl, HK2.out, HG2.out⟩
  by_cases e1 : x = 1
  · subst e1
    go_wp2_with fail
    refine (l01Below n0 _ a len cap B 300 hlen (by omega) HK1.out).mono ?_
    rintro e W2 ⟨z, rfl, z0, z1, hC2, hG2⟩
    have HK2 : Hid (Cur n0 W2 a len cap B) := hC2
    have HG2 : Hid (W.grownBy W2 (some B)) := grown_trans HG1.out hG2
    clear hC2 hG2
    go_wp2
    go_ret
    exact ⟨_, rfl, HK2.out, HG2.out⟩
  go_wp2_with fail
  refine (l01Below n0 _ a len cap B 3000 hlen (by omega) HK1.out).mono ?_
  rintro e W2 ⟨z, rfl, z0, z1, hC2, hG2⟩
  have HK2 : Hid (Cur n0 W2 a len cap B) := hC2
  have HG2 : Hid (W.grownBy W2 (some B)) := grown_trans HG1.out hG2
  clear hC2 hG2
  go_wp2
  go_ret
  exact ⟨_, rfl, HK2.out, HG2.out⟩

end Go.Proofs.YthpfpijkgggodaaDoor.ctr
