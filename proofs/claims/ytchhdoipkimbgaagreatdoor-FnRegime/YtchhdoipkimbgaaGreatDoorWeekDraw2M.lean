/- Contracts of the model's draws for FnWeek: l02Good, l02Some, DrawWeekday, DrawWeekdayName, DrawCalName, DrawApart. -/
import Derived.Test.YtchhdoipkimbgaaGreatDoorWeekDrawM
import Derived.Test.YtchhdoipkimbgaaGreatDoorSolA
namespace Go.Proofs.YtchhdoipkimbgaaGreatDoor.ctr
open Go.RowKit

set_option maxHeartbeats 1000000 in
theorem l02Good (n0 : Nat) (W : World) (a : Option Addr) (len cap B : Nat) (hlen : len ≤ maxLen) (hC : Cur n0 W a len cap B) :
    Calls Tryz.prog 65 #[.pointer (some ⟨B, 0, none⟩)] W fun e W' => ∃ c y m d : Int, e = .returned (.agg #[.int .i64 c, .int .i64 y, .int .i64 m, .int .i64 d]) ∧ Cur n0 W' a len cap B ∧ W.grownBy W' (some B) := by
  have HK : Hid (Cur n0 W a len cap B) := hC
  clear hC
  have h1 := HK.out.hi
  have h2 := HK.out.lo
  go_enter Tryz.func65, Tryz.ntmps65
  go_wp2_with fail
  refine (l02Date n0 _ a len cap B hlen (HK.out.alloc _)).mono ?_
  rintro e W1 ⟨c, y, m, d, rfl, hC, hG⟩
  have HK1 : Hid (Cur n0 W1 a len cap B) := hC
  have HG1 : Hid (W.grownBy W1 (some B)) := grown_trans (grown_alloc (grown_refl W _) _) hG
  have HZ1 : Hid (Blk W1 W.heap.size #[.int .i64 0, .int .i64 0, .int .i64 0, .int .i64 0] 36) := (Blk.new W _ _).grown hG (by omega)
  have h3 : W.heap.size < W1.heap.size := HZ1.out.lt
  clear hC hG
  have K0 := fun W => specDateOk c y m d W
  cases hok : dateOk c y m d
  · rw [hok] at K0
    clear hok
    go_wp2_with fail
    refine (K0 _).mono ?_
    rintro e W2 ⟨rfl, hb⟩
    have HK2 : Hid (Cur n0 W2 a len cap B) := (HK1.out.alloc _).below hb
    have HG2 : Hid (W.grownBy W2 (some B)) := grown_trans (grown_alloc HG1.out _) (grown_of_below hb)
    have HZ2 : Hid (Blk W2 W.heap.size #[.int .i64 0, .int .i64 0, .int .i64 0, .int .i64 0] 36) := (HZ1.out.alloc _).below hb (by rw [size_new]; omega)
    have HD2 : Hid (Blk W2 W1.heap.size #[.int .i64 c, .int .i64 y, .int .i64 m, .int .i64 d] 36) := (Blk.new W1 _ _).below hb (by rw [size_new]; omega)
    clear hb
    have p0 : W2.cell? ⟨W1.heap.size, 0, none⟩ = some (.int .i64 c) := (HD2.out).cell 0 rfl
    have p1 : W2.cell? ⟨W1.heap.size, 1, none⟩ = some (.int .i64 y) := (HD2.out).cell 1 rfl
    have p2 : W2.cell? ⟨W1.heap.size, 2, none⟩ = some (.int .i64 m) := (HD2.out).cell 2 rfl
    have p3 : W2.cell? ⟨W1.heap.size, 3, none⟩ = some (.int .i64 d) := (HD2.out).cell 3 rfl
    have q0 : W2.cell? ⟨W.heap.size, 0, none⟩ = some (.int .i64 0) := (HZ2.out).cell 0 rfl
    have q1 : W2.cell? ⟨W.heap.size, 1, none⟩ = some (.int .i64 0) := (HZ2.out).cell 1 rfl
    have q2 : W2.cell? ⟨W.heap.size, 2, none⟩ = some (.int .i64 0) := (HZ2.out).cell 2 rfl
    have q3 : W2.cell? ⟨W.heap.size, 3, none⟩ = some (.int .i64 0) := (HZ2.out).cell 3 rfl
    have g0 : W2.frozen? ⟨W.heap.size, 0, none⟩ = false := (HZ2.out).thaw 0
    have g1 : W2.frozen? ⟨W.heap.size, 1, none⟩ = false := (HZ2.out).thaw 1
    have g2 : W2.frozen? ⟨W.heap.size, 2, none⟩ = false := (HZ2.out).thaw 2
    have g3 : W2.frozen? ⟨W.heap.size, 3, none⟩ = false := (HZ2.out).thaw 3
    go_wp2_with fail
    obtain ⟨W9, e9⟩ : ∃ W9, W9 = ((((W2.setCell ⟨W.heap.size, 0, none⟩ (.int .i64 0)).setCell ⟨W.heap.size, 1, none⟩ (.int .i64 1345)).setCell ⟨W.heap.size, 2, none⟩ (.int .i64 4)).setCell ⟨W.heap.size, 3, none⟩ (.int .i64 1)) := ⟨_, rfl⟩
    have Z9 : Blk W9 W.heap.size #[.int .i64 0, .int .i64 1345, .int .i64 4, .int .i64 1] 36 := by rw [e9]; exact ((((HZ2.out).set 0 _).set 1 _).set 2 _).set 3 _
    have K9 : Cur n0 W9 a len cap B := by rw [e9]; exact ((((HK2.out).store _ (by omega) (by omega)).store _ (by omega) (by omega)).store _ (by omega) (by omega)).store _ (by omega) (by omega)
    have G9 : W.grownBy W9 (some B) := by rw [e9]; exact grown_store (grown_store (grown_store (grown_store (HG2.out) _ (Nat.le_refl _)) _ (Nat.le_refl _)) _ (Nat.le_refl _)) _ (Nat.le_refl _)
    rw [← e9]
    clear e9
    have r0 : W9.cell? ⟨W.heap.size, 0, none⟩ = some (.int .i64 0) := Z9.cell 0 rfl
    have r1 : W9.cell? ⟨W.heap.size, 1, none⟩ = some (.int .i64 1345) := Z9.cell 1 rfl
    have r2 : W9.cell? ⟨W.heap.size, 2, none⟩ = some (.int .i64 4) := Z9.cell 2 rfl
    have r3 : W9.cell? ⟨W.heap.size, 3, none⟩ = some (.int .i64 1) := Z9.cell 3 rfl
    refine bodyPost_ret (by simp [results, Tryz.results65, go_sem, r0, r1, r2, r3]; try rfl) rfl ?_
    exact ⟨_, _, _, _, rfl, K9, G9⟩
  · rw [hok] at K0
    clear hok
    go_wp2_with fail
    refine (K0 _).mono ?_
    rintro e W2 ⟨rfl, hb⟩
    have HK2 : Hid (Cur n0 W2 a len cap B) := (HK1.out.alloc _).below hb
    have HG2 : Hid (W.grownBy W2 (some B)) := grown_trans (grown_alloc HG1.out _) (grown_of_below hb)
    have HZ2 : Hid (Blk W2 W.heap.size #[.int .i64 0, .int .i64 0, .int .i64 0, .int .i64 0] 36) := (HZ1.out.alloc _).below hb (by rw [size_new]; omega)
    have HD2 : Hid (Blk W2 W1.heap.size #[.int .i64 c, .int .i64 y, .int .i64 m, .int .i64 d] 36) := (Blk.new W1 _ _).below hb (by rw [size_new]; omega)
    clear hb
    have p0 : W2.cell? ⟨W1.heap.size, 0, none⟩ = some (.int .i64 c) := (HD2.out).cell 0 rfl
    have p1 : W2.cell? ⟨W1.heap.size, 1, none⟩ = some (.int .i64 y) := (HD2.out).cell 1 rfl
    have p2 : W2.cell? ⟨W1.heap.size, 2, none⟩ = some (.int .i64 m) := (HD2.out).cell 2 rfl
    have p3 : W2.cell? ⟨W1.heap.size, 3, none⟩ = some (.int .i64 d) := (HD2.out).cell 3 rfl
    have q0 : W2.cell? ⟨W.heap.size, 0, none⟩ = some (.int .i64 0) := (HZ2.out).cell 0 rfl
    have q1 : W2.cell? ⟨W.heap.size, 1, none⟩ = some (.int .i64 0) := (HZ2.out).cell 1 rfl
    have q2 : W2.cell? ⟨W.heap.size, 2, none⟩ = some (.int .i64 0) := (HZ2.out).cell 2 rfl
    have q3 : W2.cell? ⟨W.heap.size, 3, none⟩ = some (.int .i64 0) := (HZ2.out).cell 3 rfl
    have g0 : W2.frozen? ⟨W.heap.size, 0, none⟩ = false := (HZ2.out).thaw 0
    have g1 : W2.frozen? ⟨W.heap.size, 1, none⟩ = false := (HZ2.out).thaw 1
    have g2 : W2.frozen? ⟨W.heap.size, 2, none⟩ = false := (HZ2.out).thaw 2
    have g3 : W2.frozen? ⟨W.heap.size, 3, none⟩ = false := (HZ2.out).thaw 3
    go_wp2_with fail
    obtain ⟨W9, e9⟩ : ∃ W9, W9 = ((((W2.setCell ⟨W.heap.size, 0, none⟩ (.int .i64 c)).setCell ⟨W.heap.size, 1, none⟩ (.int .i64 y)).setCell ⟨W.heap.size, 2, none⟩ (.int .i64 m)).setCell ⟨W.heap.size, 3, none⟩ (.int .i64 d)) := ⟨_, rfl⟩
    have Z9 : Blk W9 W.heap.size #[.int .i64 c, .int .i64 y, .int .i64 m, .int .i64 d] 36 := by rw [e9]; exact ((((HZ2.out).set 0 _).set 1 _).set 2 _).set 3 _
    have K9 : Cur n0 W9 a len cap B := by rw [e9]; exact ((((HK2.out).store _ (by omega) (by omega)).store _ (by omega) (by omega)).store _ (by omega) (by omega)).store _ (by omega) (by omega)
    have G9 : W.grownBy W9 (some B) := by rw [e9]; exact grown_store (grown_store (grown_store (grown_store (HG2.out) _ (Nat.le_refl _)) _ (Nat.le_refl _)) _ (Nat.le_refl _)) _ (Nat.le_refl _)
    rw [← e9]
    clear e9
    have r0 : W9.cell? ⟨W.heap.size, 0, none⟩ = some (.int .i64 c) := Z9.cell 0 rfl
    have r1 : W9.cell? ⟨W.heap.size, 1, none⟩ = some (.int .i64 y) := Z9.cell 1 rfl
    have r2 : W9.cell? ⟨W.heap.size, 2, none⟩ = some (.int .i64 m) := Z9.cell 2 rfl
    have r3 : W9.cell? ⟨W.heap.size, 3, none⟩ = some (.int .i64 d) := Z9.cell 3 rfl
    refine bodyPost_ret (by simp [results, Tryz.results65, go_sem, r0, r1, r2, r3]; try rfl) rfl ?_
    exact ⟨_, _, _, _, rfl, K9, G9⟩

def somesIn : List Int := [-1, -2, 0, 1, 1095727, 1095728, 1095750, -1000, -1001, 1200000, 1200001, 9223372036854775807, -9223372036854775808]
theorem somes_ok (j : Nat) (h : j < 13) : I64 (somesIn.getD j 0) := by
  have : j = 0 ∨ j = 1 ∨ j = 2 ∨ j = 3 ∨ j = 4 ∨ j = 5 ∨ j = 6 ∨ j = 7 ∨ j = 8 ∨ j = 9 ∨ j = 10 ∨ j = 11 ∨ j = 12 := by omega
  unfold I64
  rcases this with rfl | rfl | rfl | rfl | rfl | rfl | rfl | rfl | rfl | rfl | rfl | rfl | rfl <;> simp [somesIn]
end Go.Proofs.YtchhdoipkimbgaaGreatDoor.ctr
