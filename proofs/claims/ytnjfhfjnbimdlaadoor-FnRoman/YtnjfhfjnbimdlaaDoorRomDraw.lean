/- Contracts of the model's draws for days counted back: each call returns such a thing, spoilt sometimes, and nothing that was there but the cursor turns. -/
import Derived.Test.YtnjfhfjnbimdlaaDoorWeekDraw2
import Derived.Test.YtnjfhfjnbimdlaaDoorEasDraw
import Derived.Test.YtnjfhfjnbimdlaaDoorBentDraw
import Derived.Test.YtnjfhfjnbimdlaaDoorRomTextS
import Derived.Test.YtnjfhfjnbimdlaaDoorLawBase
namespace Go.Proofs.YtnjfhfjnbimdlaaDoor.ctr
open Go.RowKit

theorem put4_cur {n0 : Nat} {W : World} {a : Option Addr} {len cap B b : Nat} {v0 v1 v2 v3 : Value} (h : Cur n0 W a len cap B) (hb : n0 ≤ b) (hn : b ≠ B) : Cur n0 (put4 W b v0 v1 v2 v3) a len cap B :=
  (((h.store v0 hb hn).store v1 hb hn).store v2 hb hn).store v3 hb hn
theorem put4_grown {W W' : World} {B b : Nat} {v0 v1 v2 v3 : Value} (h : W.grownBy W' (some B)) (hb : W.heap.size ≤ b) : W.grownBy (put4 W' b v0 v1 v2 v3) (some B) :=
  grown_store (grown_store (grown_store (grown_store h v0 hb) v1 hb) v2 hb) v3 hb
def cntsIn : List Int := [0, 1, 20, 19, -1]
def mrksIn : List Int := [3, -1, 1]
def mthsIn : List Int := [0, 13, 3]
set_option maxRecDepth 100000 in
set_option maxHeartbeats 8000000 in
theorem l05Roman (n0 : Nat) (W : World) (a : Option Addr) (len cap B : Nat) (hlen : len ≤ maxLen) (hC : Cur n0 W a len cap B) :
    Calls Tryd.prog 72 #[.pointer (some ⟨B, 0, none⟩)] W fun e W' => ∃ r : Rom, e = .returned (romV r) ∧ Cur n0 W' a len cap B ∧ W.grownBy W' (some B) := by
  have HK := hideP hC
  clear hC
  have h1 := HK.out.hi
  have h2 := HK.out.lo
  go_enter Tryd.func72, Tryd.ntmps72
  go_wp2_with fail
  refine (l02Good n0 _ a len cap B hlen (HK.out.alloc _)).mono ?_
  rintro e W1 ⟨c, y, m, d, rfl, hC1, hG1⟩
  have HK1 := hideP hC1
  have HG1 : Hid (W.grownBy W1 (some B)) := grown_trans (grown_alloc (grown_refl W _) _) hG1
  have HZ1 : Hid (Blk W1 W.heap.size romZ 38) := (Blk.new W _ _).grown hG1 (by omega)
  clear hC1 hG1
  have KR := specRomanOf c y m d W1
  generalize romanOf c y m d = r at *
  obtain ⟨r0, r1, r2, r3⟩ := r
  go_wp2_with fail
  refine KR.mono ?_
  rintro e W2 ⟨rfl, hb⟩
  have HK2 := hideP (HK1.out.below hb)
  have HG2 : Hid (W.grownBy W2 (some B)) := grown_trans HG1.out (grown_of_below hb)
  have HZ2 := hideP (HZ1.out.below hb HZ1.out.lt)
  have h3 : W.heap.size < W2.heap.size := HZ2.out.lt
  clear hb HK1 HG1 HZ1 KR
  go_wp2_with fail
  refine (l01Below n0 _ a len cap B 12 hlen (by omega) (HK2.out.alloc _)).mono ?_
  rintro e W4 ⟨x, rfl, x0, x1, hC4, hG4⟩
  have HK4 := hideP hC4
  have HG4 : Hid (W.grownBy W4 (some B)) := grown_trans (grown_alloc HG2.out _) hG4
  have HZ4 := hideP ((HZ2.out.alloc _).grown hG4 (by omega))
  have HD4 : Hid (Blk W4 W2.heap.size #[.int .i64 r0, .int .i64 r1, .int .i64 r2, .bool r3] 38) := (Blk.new W2 _ _).grown hG4 (by have := HK2.out.hi; omega)
  have h4 : W2.heap.size < W4.heap.size := HD4.out.lt
  have hne : ¬ W2.heap.size = W.heap.size := by omega
  have h5 := HK2.out.hi
  clear hC4 hG4 HK2 HG2 HZ2
  by_cases e0 : x = 0
  · subst e0
    go_wp2_with fail
    refine (l01PickInt _ _ a len cap B W4.heap.size 5 5 (fun j => cntsIn.getD j 0) hlen (by omega) (by omega) (by rw [size_new]; omega) (Nat.ne_of_gt HK4.out.hi) (fun j hj => alloc_ints W4 cntsIn _ j hj) (HK4.out.alloc _)).mono ?_
    rintro e W5 ⟨j5, hj5, rfl, hC5, hG5⟩
    have HK5 := hideP hC5
    have HG5 : Hid (W.grownBy W5 (some B)) := grown_trans (grown_alloc HG4.out _) hG5
    have HZ5 := hideP ((HZ4.out.alloc _).grown hG5 (by omega))
    have HD5 := hideP ((HD4.out.alloc _).grown hG5 (by omega))
    clear hC5 hG5
    generalize cntsIn.getD j5 0 = q at *
    have u0 := HD5.out.cell 0 rfl
    have u1 := HD5.out.cell 1 rfl
    have u2 := HD5.out.cell 2 rfl
    have u3 := HD5.out.cell 3 rfl
    have z0 := HZ5.out.cell 0 rfl
    have z1 := HZ5.out.cell 1 rfl
    have z2 := HZ5.out.cell 2 rfl
    have z3 := HZ5.out.cell 3 rfl
    have f0 := HZ5.out.thaw 0
    have f1 := HZ5.out.thaw 1
    have f2 := HZ5.out.thaw 2
    have f3 := HZ5.out.thaw 3
    have t0 := HD5.out.thaw 0
    go_wp2_with fail
    rw [put4_eq]
    have Z9 : Blk (put4 (W5.setCell ⟨W2.heap.size, 0, none⟩ (.int .i64 q)) W.heap.size (.int .i64 q) (.int .i64 r1) (.int .i64 r2) (.bool r3)) W.heap.size _ _ := put4_blk (HZ5.out.other (b' := W2.heap.size) (i := 0) (v := .int .i64 q) (by omega))
    have K9 := put4_cur (v0 := .int .i64 q) (v1 := .int .i64 r1) (v2 := .int .i64 r2) (v3 := .bool r3) (b := W.heap.size) (HK5.out.store (b := W2.heap.size) (i := 0) (.int .i64 q) (by omega) (by omega)) (by omega) (by omega)
    have G9 := put4_grown (v0 := .int .i64 q) (v1 := .int .i64 r1) (v2 := .int .i64 r2) (v3 := .bool r3) (b := W.heap.size) (grown_store (b := W2.heap.size) (i := 0) HG5.out (.int .i64 q) (by omega)) (Nat.le_refl _)
    have y0 := Z9.cell 0 rfl
    have y1 := Z9.cell 1 rfl
    have y2 := Z9.cell 2 rfl
    have y3 := Z9.cell 3 rfl
    refine bodyPost_ret (by simp [results, Tryd.results72, go_sem, y0, y1, y2, y3]; try rfl) rfl ?_
    exact ⟨⟨q, r1, r2, r3⟩, rfl, K9, G9⟩
  have e0' : (x == 0) = false := by simp [e0]
  by_cases e1 : x = 1
  · subst e1
    go_wp2_with fail
    refine (l01PickInt _ _ a len cap B W4.heap.size 3 3 (fun j => mrksIn.getD j 0) hlen (by omega) (by omega) (by rw [size_new]; omega) (Nat.ne_of_gt HK4.out.hi) (fun j hj => alloc_ints W4 mrksIn _ j hj) (HK4.out.alloc _)).mono ?_
    rintro e W5 ⟨j5, hj5, rfl, hC5, hG5⟩
    have HK5 := hideP hC5
    have HG5 : Hid (W.grownBy W5 (some B)) := grown_trans (grown_alloc HG4.out _) hG5
    have HZ5 := hideP ((HZ4.out.alloc _).grown hG5 (by omega))
    have HD5 := hideP ((HD4.out.alloc _).grown hG5 (by omega))
    clear hC5 hG5
    generalize mrksIn.getD j5 0 = q at *
    have u0 := HD5.out.cell 0 rfl
    have u1 := HD5.out.cell 1 rfl
    have u2 := HD5.out.cell 2 rfl
    have u3 := HD5.out.cell 3 rfl
    have z0 := HZ5.out.cell 0 rfl
    have z1 := HZ5.out.cell 1 rfl
    have z2 := HZ5.out.cell 2 rfl
    have z3 := HZ5.out.cell 3 rfl
    have f0 := HZ5.out.thaw 0
    have f1 := HZ5.out.thaw 1
    have f2 := HZ5.out.thaw 2
    have f3 := HZ5.out.thaw 3
    have t1 := HD5.out.thaw 1
    go_wp2_with fail
    rw [put4_eq]
    have Z9 : Blk (put4 (W5.setCell ⟨W2.heap.size, 1, none⟩ (.int .i64 q)) W.heap.size (.int .i64 r0) (.int .i64 q) (.int .i64 r2) (.bool r3)) W.heap.size _ _ := put4_blk (HZ5.out.other (b' := W2.heap.size) (i := 1) (v := .int .i64 q) (by omega))
    have K9 := put4_cur (v0 := .int .i64 r0) (v1 := .int .i64 q) (v2 := .int .i64 r2) (v3 := .bool r3) (b := W.heap.size) (HK5.out.store (b := W2.heap.size) (i := 1) (.int .i64 q) (by omega) (by omega)) (by omega) (by omega)
    have G9 := put4_grown (v0 := .int .i64 r0) (v1 := .int .i64 q) (v2 := .int .i64 r2) (v3 := .bool r3) (b := W.heap.size) (grown_store (b := W2.heap.size) (i := 1) HG5.out (.int .i64 q) (by omega)) (Nat.le_refl _)
    have y0 := Z9.cell 0 rfl
    have y1 := Z9.cell 1 rfl
    have y2 := Z9.cell 2 rfl
    have y3 := Z9.cell 3 rfl
    refine bodyPost_ret (by simp [results, Tryd.results72, go_sem, y0, y1, y2, y3]; try rfl) rfl ?_
    exact ⟨⟨r0, q, r2, r3⟩, rfl, K9, G9⟩
  have e1' : (x == 1) = false := by simp [e1]
  by_cases e2 : x = 2
  · subst e2
    have u0 := HD4.out.cell 0 rfl
    have u1 := HD4.out.cell 1 rfl
    have u2 := HD4.out.cell 2 rfl
    have u3 := HD4.out.cell 3 rfl
    have z0 := HZ4.out.cell 0 rfl
    have z1 := HZ4.out.cell 1 rfl
    have z2 := HZ4.out.cell 2 rfl
    have z3 := HZ4.out.cell 3 rfl
    have f0 := HZ4.out.thaw 0
    have f1 := HZ4.out.thaw 1
    have f2 := HZ4.out.thaw 2
    have f3 := HZ4.out.thaw 3
    have t3 := HD4.out.thaw 3
    go_wp2_with fail
    rw [put4_eq]
    have Z9 : Blk (put4 (W4.setCell ⟨W2.heap.size, 3, none⟩ (.bool (!r3))) W.heap.size (.int .i64 r0) (.int .i64 r1) (.int .i64 r2) (.bool (!r3))) W.heap.size _ _ := put4_blk (HZ4.out.other (b' := W2.heap.size) (i := 3) (v := .bool (!r3)) (by omega))
    have K9 := put4_cur (v0 := .int .i64 r0) (v1 := .int .i64 r1) (v2 := .int .i64 r2) (v3 := .bool (!r3)) (b := W.heap.size) (HK4.out.store (b := W2.heap.size) (i := 3) (.bool (!r3)) (by omega) (by omega)) (by omega) (by omega)
    have G9 := put4_grown (v0 := .int .i64 r0) (v1 := .int .i64 r1) (v2 := .int .i64 r2) (v3 := .bool (!r3)) (b := W.heap.size) (grown_store (b := W2.heap.size) (i := 3) HG4.out (.bool (!r3)) (by omega)) (Nat.le_refl _)
    have y0 := Z9.cell 0 rfl
    have y1 := Z9.cell 1 rfl
    have y2 := Z9.cell 2 rfl
    have y3 := Z9.cell 3 rfl
    refine bodyPost_ret (by simp [results, Tryd.results72, go_sem, y0, y1, y2, y3]; try rfl) rfl ?_
    exact ⟨⟨r0, r1, r2, (!r3)⟩, rfl, K9, G9⟩
  have e2' : (x == 2) = false := by simp [e2]
  by_cases e3 : x = 3
  · subst e3
    go_wp2_with fail
    refine (l01PickInt _ _ a len cap B W4.heap.size 3 3 (fun j => mthsIn.getD j 0) hlen (by omega) (by omega) (by rw [size_new]; omega) (Nat.ne_of_gt HK4.out.hi) (fun j hj => alloc_ints W4 mthsIn _ j hj) (HK4.out.alloc _)).mono ?_
    rintro e W5 ⟨j5, hj5, rfl, hC5, hG5⟩
    have HK5 := hideP hC5
    have HG5 : Hid (W.grownBy W5 (some B)) := grown_trans (grown_alloc HG4.out _) hG5
    have HZ5 := hideP ((HZ4.out.alloc _).grown hG5 (by omega))
    have HD5 := hideP ((HD4.out.alloc _).grown hG5 (by omega))
    clear hC5 hG5
    generalize mthsIn.getD j5 0 = q at *
    have u0 := HD5.out.cell 0 rfl
    have u1 := HD5.out.cell 1 rfl
    have u2 := HD5.out.cell 2 rfl
    have u3 := HD5.out.cell 3 rfl
    have z0 := HZ5.out.cell 0 rfl
    have z1 := HZ5.out.cell 1 rfl
    have z2 := HZ5.out.cell 2 rfl
    have z3 := HZ5.out.cell 3 rfl
    have f0 := HZ5.out.thaw 0
    have f1 := HZ5.out.thaw 1
    have f2 := HZ5.out.thaw 2
    have f3 := HZ5.out.thaw 3
    have t2 := HD5.out.thaw 2
    go_wp2_with fail
    rw [put4_eq]
    have Z9 : Blk (put4 (W5.setCell ⟨W2.heap.size, 2, none⟩ (.int .i64 q)) W.heap.size (.int .i64 r0) (.int .i64 r1) (.int .i64 q) (.bool r3)) W.heap.size _ _ := put4_blk (HZ5.out.other (b' := W2.heap.size) (i := 2) (v := .int .i64 q) (by omega))
    have K9 := put4_cur (v0 := .int .i64 r0) (v1 := .int .i64 r1) (v2 := .int .i64 q) (v3 := .bool r3) (b := W.heap.size) (HK5.out.store (b := W2.heap.size) (i := 2) (.int .i64 q) (by omega) (by omega)) (by omega) (by omega)
    have G9 := put4_grown (v0 := .int .i64 r0) (v1 := .int .i64 r1) (v2 := .int .i64 q) (v3 := .bool r3) (b := W.heap.size) (grown_store (b := W2.heap.size) (i := 2) HG5.out (.int .i64 q) (by omega)) (Nat.le_refl _)
    have y0 := Z9.cell 0 rfl
    have y1 := Z9.cell 1 rfl
    have y2 := Z9.cell 2 rfl
    have y3 := Z9.cell 3 rfl
    refine bodyPost_ret (by simp [results, Tryd.results72, go_sem, y0, y1, y2, y3]; try rfl) rfl ?_
    exact ⟨⟨r0, r1, q, r3⟩, rfl, K9, G9⟩
  have e3' : (x == 3) = false := by simp [e3]
  have u0 := HD4.out.cell 0 rfl
  have u1 := HD4.out.cell 1 rfl
  have u2 := HD4.out.cell 2 rfl
  have u3 := HD4.out.cell 3 rfl
  have z0 := HZ4.out.cell 0 rfl
  have z1 := HZ4.out.cell 1 rfl
  have z2 := HZ4.out.cell 2 rfl
  have z3 := HZ4.out.cell 3 rfl
  have f0 := HZ4.out.thaw 0
  have f1 := HZ4.out.thaw 1
  have f2 := HZ4.out.thaw 2
  have f3 := HZ4.out.thaw 3
  go_wp2_with fail
  rw [put4_eq]
  have Z9 : Blk (put4 W4 W.heap.size (.int .i64 r0) (.int .i64 r1) (.int .i64 r2) (.bool r3)) W.heap.size _ _ := put4_blk HZ4.out
  have K9 := put4_cur (v0 := .int .i64 r0) (v1 := .int .i64 r1) (v2 := .int .i64 r2) (v3 := .bool r3) (b := W.heap.size) HK4.out (by omega) (by omega)
  have G9 := put4_grown (v0 := .int .i64 r0) (v1 := .int .i64 r1) (v2 := .int .i64 r2) (v3 := .bool r3) (b := W.heap.size) HG4.out (Nat.le_refl _)
  have y0 := Z9.cell 0 rfl
  have y1 := Z9.cell 1 rfl
  have y2 := Z9.cell 2 rfl
  have y3 := Z9.cell 3 rfl
  refine bodyPost_ret (by simp [results, Tryd.results72, go_sem, y0, y1, y2, y3]; try rfl) rfl ?_
  exact ⟨⟨r0, r1, r2, r3⟩, rfl, K9, G9⟩

set_option maxRecDepth 100000 in
set_option maxHeartbeats 2000000 in
theorem drawRomanOf (W : World) (a : Option Addr) (len cap : Nat) (hlen : len ≤ maxLen) (hcode : CodeAt W.heap.size W a len) :
    Calls Tryd.prog 28 #[.slice a len cap] W fun e W' => ∃ c y m d : Int, e = .returned (.agg #[.int .i64 c, .int .i64 y, .int .i64 m, .int .i64 d]) ∧ Below W.heap.size W W' := by
  have HC := hideP hcode
  clear hcode
  go_enter Tryd.func28, Tryd.ntmps28
  go_wp2_with fail
  obtain ⟨V, hV⟩ : ∃ V, V = W.alloc (.cells #[.int .i64 0, .int .i64 0, .int .i64 0, .int .i64 0] 25) := ⟨_, rfl⟩
  have BV : Hid (Below W.heap.size W V) := by unfold Hid; rw [hV]; exact (Below.refl _ _).alloc (Nat.le_refl _) _
  have ZV : Hid (Blk V W.heap.size #[.int .i64 0, .int .i64 0, .int .i64 0, .int .i64 0] 25) := by unfold Hid; rw [hV]; exact Blk.new W _ _
  rw [← hV]
  clear hV
  refine (l01New V a len cap hlen (HC.out.up BV.out)).mono ?_
  rintro e W1 ⟨B, rfl, hC1, hb1⟩
  have HK1 := hideP hC1
  have HB1 := hideP hb1
  clear hC1 hb1
  go_wp2_with fail
  refine (l02Date V.heap.size _ a len cap B hlen HK1.out).mono ?_
  rintro e W2 ⟨c, y, m, d, rfl, hC2, hG2⟩
  have HB2 : Hid (Below V.heap.size V W2) := below_grownBy HB1.out hG2 HB1.out.size HK1.out.lo
  have HZ2 := hideP (ZV.out.below HB2.out ZV.out.lt)
  have HBW : Hid (Below W.heap.size W W2) := BV.out.trans (HB2.out.mono BV.out.size)
  clear hC2 hG2
  have z0 := HZ2.out.cell 0 rfl
  have z1 := HZ2.out.cell 1 rfl
  have z2 := HZ2.out.cell 2 rfl
  have z3 := HZ2.out.cell 3 rfl
  have f0 := HZ2.out.thaw 0
  have f1 := HZ2.out.thaw 1
  have f2 := HZ2.out.thaw 2
  have f3 := HZ2.out.thaw 3
  go_wp2_with fail
  rw [put4_eq]
  have Z := put4_blk (v0 := .int .i64 c) (v1 := .int .i64 y) (v2 := .int .i64 m) (v3 := .int .i64 d) HZ2.out
  have y0 := Z.cell 0 rfl
  have y1 := Z.cell 1 rfl
  have y2 := Z.cell 2 rfl
  have y3 := Z.cell 3 rfl
  refine bodyPost_ret (by simp [results, Tryd.results28, go_sem, y0, y1, y2, y3]; try rfl) rfl ?_
  exact ⟨_, _, _, _, rfl, put4_below HBW.out (Nat.le_refl _)⟩

set_option maxRecDepth 100000 in
set_option maxHeartbeats 2000000 in
theorem drawRomanText (W : World) (a : Option Addr) (len cap : Nat) (hlen : len ≤ maxLen) (hcode : CodeAt W.heap.size W a len) :
    Calls Tryd.prog 32 #[.slice a len cap] W fun e W' => ∃ r : Rom, e = .returned (romV r) ∧ Below W.heap.size W W' := by
  have HC := hideP hcode
  clear hcode
  go_enter Tryd.func32, Tryd.ntmps32
  go_wp2_with fail
  obtain ⟨V, hV⟩ : ∃ V, V = W.alloc (.cells romZ 38) := ⟨_, rfl⟩
  have BV : Hid (Below W.heap.size W V) := by unfold Hid; rw [hV]; exact (Below.refl _ _).alloc (Nat.le_refl _) _
  have ZV : Hid (Blk V W.heap.size romZ 38) := by unfold Hid; rw [hV]; exact Blk.new W _ _
  rw [← hV]
  clear hV
  refine (l01New V a len cap hlen (HC.out.up BV.out)).mono ?_
  rintro e W1 ⟨B, rfl, hC1, hb1⟩
  have HK1 := hideP hC1
  have HB1 := hideP hb1
  clear hC1 hb1
  go_wp2_with fail
  refine (l05Roman V.heap.size _ a len cap B hlen HK1.out).mono ?_
  rintro e W2 ⟨⟨r0, r1, r2, r3⟩, rfl, hC2, hG2⟩
  have HB2 : Hid (Below V.heap.size V W2) := below_grownBy HB1.out hG2 HB1.out.size HK1.out.lo
  have HZ2 := hideP (ZV.out.below HB2.out ZV.out.lt)
  have HBW : Hid (Below W.heap.size W W2) := BV.out.trans (HB2.out.mono BV.out.size)
  clear hC2 hG2
  have z0 := HZ2.out.cell 0 rfl
  have z1 := HZ2.out.cell 1 rfl
  have z2 := HZ2.out.cell 2 rfl
  have z3 := HZ2.out.cell 3 rfl
  have f0 := HZ2.out.thaw 0
  have f1 := HZ2.out.thaw 1
  have f2 := HZ2.out.thaw 2
  have f3 := HZ2.out.thaw 3
  go_wp2_with fail
  rw [put4_eq]
  have Z := put4_blk (v0 := .int .i64 r0) (v1 := .int .i64 r1) (v2 := .int .i64 r2) (v3 := .bool r3) HZ2.out
  have y0 := Z.cell 0 rfl
  have y1 := Z.cell 1 rfl
  have y2 := Z.cell 2 rfl
  have y3 := Z.cell 3 rfl
  refine bodyPost_ret (by simp [results, Tryd.results32, go_sem, y0, y1, y2, y3]; try rfl) rfl ?_
  exact ⟨⟨r0, r1, r2, r3⟩, rfl, put4_below HBW.out (Nat.le_refl _)⟩

set_option maxRecDepth 100000 in
set_option maxHeartbeats 2000000 in
theorem drawDayOfRoman (W : World) (a : Option Addr) (len cap : Nat) (hlen : len ≤ maxLen) (hcode : CodeAt W.heap.size W a len) :
    Calls Tryd.prog 30 #[.slice a len cap] W fun e W' => ∃ (c y : Int) (r : Rom), e = .returned (.tuple #[.int .i64 c, .int .i64 y, romV r]) ∧ Below W.heap.size W W' := by
  have HC := hideP hcode
  clear hcode
  go_enter Tryd.func30, Tryd.ntmps30
  go_wp2_with fail
  obtain ⟨V, hV⟩ : ∃ V, V = W.alloc (.cells romZ 38) := ⟨_, rfl⟩
  have BV : Hid (Below W.heap.size W V) := by unfold Hid; rw [hV]; exact (Below.refl _ _).alloc (Nat.le_refl _) _
  have ZV : Hid (Blk V W.heap.size romZ 38) := by unfold Hid; rw [hV]; exact Blk.new W _ _
  rw [← hV]
  clear hV
  refine (l03Two V a len cap hlen (HC.out.up BV.out)).mono ?_
  rintro e W0 ⟨c, y, rfl, hb0⟩
  have HB0 := hideP hb0
  have BW0 : Hid (Below W.heap.size W W0) := BV.out.trans (hb0.mono BV.out.size)
  clear hb0
  go_wp2_with fail
  refine (l01New W0 a len cap hlen (HC.out.up BW0.out)).mono ?_
  rintro e W1 ⟨B, rfl, hC1, hb1⟩
  have HK1 := hideP hC1
  have HB1 := hideP hb1
  clear hC1 hb1
  go_wp2_with fail
  refine (l05Roman W0.heap.size _ a len cap B hlen HK1.out).mono ?_
  rintro e W2 ⟨⟨r0, r1, r2, r3⟩, rfl, hC2, hG2⟩
  have HB2 : Hid (Below W0.heap.size W0 W2) := below_grownBy HB1.out hG2 HB1.out.size HK1.out.lo
  have HZ2 : Hid (Blk W2 W.heap.size romZ 38) := (ZV.out.below HB0.out ZV.out.lt).below HB2.out (Nat.lt_of_lt_of_le ZV.out.lt HB0.out.size)
  have HBW : Hid (Below W.heap.size W W2) := BW0.out.trans (HB2.out.mono BW0.out.size)
  clear hC2 hG2
  have z0 := HZ2.out.cell 0 rfl
  have z1 := HZ2.out.cell 1 rfl
  have z2 := HZ2.out.cell 2 rfl
  have z3 := HZ2.out.cell 3 rfl
  have f0 := HZ2.out.thaw 0
  have f1 := HZ2.out.thaw 1
  have f2 := HZ2.out.thaw 2
  have f3 := HZ2.out.thaw 3
  go_wp2_with fail
  rw [put4_eq]
  have Z := put4_blk (v0 := .int .i64 r0) (v1 := .int .i64 r1) (v2 := .int .i64 r2) (v3 := .bool r3) HZ2.out
  have y0 := Z.cell 0 rfl
  have y1 := Z.cell 1 rfl
  have y2 := Z.cell 2 rfl
  have y3 := Z.cell 3 rfl
  refine bodyPost_ret (by simp [results, Tryd.results30, go_sem, y0, y1, y2, y3]; try rfl) rfl ?_
  exact ⟨_, _, ⟨r0, r1, r2, r3⟩, rfl, put4_below HBW.out (Nat.le_refl _)⟩

def readsIn : List ByteArray := [⟨#[]⟩, ⟨#[98, 105, 115]⟩, ⟨#[98, 105, 115, 32, 86, 73, 32, 107, 97, 108, 32, 109, 97, 114]⟩, ⟨#[86, 73, 32, 107, 97, 108, 32, 109, 97, 114]⟩, ⟨#[73, 73, 32, 107, 97, 108, 32, 109, 97, 114]⟩, ⟨#[73, 32, 107, 97, 108, 32, 109, 97, 114]⟩, ⟨#[107, 97, 108, 32, 109, 97, 114]⟩, ⟨#[112, 114, 105, 100, 32, 107, 97, 108, 32, 109, 97, 114]⟩, ⟨#[86, 73, 73, 32, 110, 111, 110, 32, 109, 97, 121]⟩, ⟨#[86, 73, 73, 32, 110, 111, 110, 32, 106, 97, 110]⟩, ⟨#[88, 88, 32, 107, 97, 108, 32, 106, 97, 110]⟩, ⟨#[98, 105, 115, 32, 107, 97, 108, 32, 109, 97, 114]⟩]
theorem readsIn_len : ∀ j : Fin 12, (readsIn.getD j.val ⟨#[]⟩).size ≤ 20 := by decide
set_option maxRecDepth 100000 in
set_option maxHeartbeats 2000000 in
theorem drawReadRoman (W : World) (a : Option Addr) (len cap : Nat) (hlen : len ≤ maxLen) (hcode : CodeAt W.heap.size W a len) :
    Calls Tryd.prog 34 #[.slice a len cap] W fun e W' => ∃ s : ByteArray, e = .returned (.string s) ∧ s.size ≤ 100 ∧ Below W.heap.size W W' := by
  have HC := hideP hcode
  clear hcode
  go_enter Tryd.func34, Tryd.ntmps34
  go_wp2_with fail
  refine (l01New W a len cap hlen HC.out).mono ?_
  rintro e W1 ⟨B, rfl, hC1, hb1⟩
  have HK1 := hideP hC1
  have HB1 := hideP hb1
  clear hC1 hb1
  go_wp2_with fail
  refine (l01Once _ _ a len cap B 6 hlen (by omega) HK1.out).mono ?_
  rintro e W2 ⟨u, rfl, hC2, hG2⟩
  have HK2 := hideP hC2
  have HB2 : Hid (Below W.heap.size W W2) := below_grownBy HB1.out hG2 HB1.out.size HK1.out.lo
  clear hC2 hG2
  cases u
  · go_wp2_with fail
    refine (l05Roman _ _ a len cap B hlen HK2.out).mono ?_
    rintro e W3 ⟨r, rfl, hC3, hG3⟩
    have HK3 := hideP hC3
    have HB3 : Hid (Below W.heap.size W W3) := below_grownBy HB2.out hG3 HB2.out.size HK2.out.lo
    clear hC3 hG3
    have KT := specRomanText r W3
    have hts := text_size r
    generalize romanText r = t at *
    go_wp2_with fail
    refine KT.mono ?_
    rintro e W4 ⟨rfl, hb4⟩
    have HK4 := hideP (HK3.out.below hb4)
    have HB4 : Hid (Below W.heap.size W W4) := HB3.out.trans (hb4.mono HB3.out.size)
    clear hb4 KT
    go_wp2_with fail
    refine (l01Bent _ _ a len cap B t hlen (by omega) HK4.out).mono ?_
    rintro e W5 ⟨q, rfl, hq, hC5, hG5⟩
    have HB5 : Hid (Below W.heap.size W W5) := below_grownBy HB4.out hG5 HB4.out.size HK4.out.lo
    clear hC5 hG5
    go_wp2
    go_ret
    exact ⟨q, rfl, by omega, HB5.out⟩
  · go_wp2_with fail
    refine (l01Pick _ _ a len cap B W2.heap.size 12 12 (fun j => readsIn.getD j ⟨#[]⟩) hlen (by omega) (by omega) (by rw [size_new]; omega) (Nat.ne_of_gt HK2.out.hi) (fun j hj => alloc_strs W2 readsIn _ j hj) (HK2.out.alloc _)).mono ?_
    rintro e W3 ⟨j, hj, rfl, hC3, hG3⟩
    have hr := readsIn_len ⟨j, hj⟩
    dsimp only at hr
    have HB3 : Hid (Below W.heap.size W W3) := below_grownBy (HB2.out.alloc HB2.out.size _) hG3 (Nat.le_trans HB2.out.size (by rw [size_new]; omega)) HK2.out.lo
    clear hC3 hG3
    generalize readsIn.getD j ⟨#[]⟩ = q at *
    go_wp2
    go_ret
    exact ⟨q, rfl, by omega, HB3.out⟩

set_option maxHeartbeats 1000000 in
theorem drawNones (W : World) (a : Option Addr) (len cap : Nat) (hlen : len ≤ maxLen) (hcode : CodeAt W.heap.size W a len) :
    Calls Tryd.prog 37 #[.slice a len cap] W fun e W' => ∃ n : Int, e = .returned (.int .i64 n) ∧ Below W.heap.size W W' := by
  have HC := hideP hcode
  clear hcode
  go_enter Tryd.func37, Tryd.ntmps37
  go_wp2_with fail
  refine (l01New W a len cap hlen HC.out).mono ?_
  rintro e W1 ⟨B, rfl, hC1, hb1⟩
  have HK1 := hideP hC1
  have HB1 := hideP hb1
  clear hC1 hb1
  go_wp2_with fail
  refine (l01Below _ _ a len cap B 15 hlen (by omega) HK1.out).mono ?_
  rintro e W2 ⟨x, rfl, x0, x1, hC2, hG2⟩
  have HB2 : Hid (Below W.heap.size W W2) := below_grownBy HB1.out hG2 HB1.out.size HK1.out.lo
  clear hC2 hG2
  go_wp2
  go_ret
  exact ⟨_, rfl, HB2.out⟩
set_option maxHeartbeats 1000000 in
theorem drawIdes (W : World) (a : Option Addr) (len cap : Nat) (hlen : len ≤ maxLen) (hcode : CodeAt W.heap.size W a len) :
    Calls Tryd.prog 38 #[.slice a len cap] W fun e W' => ∃ n : Int, e = .returned (.int .i64 n) ∧ Below W.heap.size W W' := by
  have HC := hideP hcode
  clear hcode
  go_enter Tryd.func38, Tryd.ntmps38
  go_wp2_with fail
  refine (l01New W a len cap hlen HC.out).mono ?_
  rintro e W1 ⟨B, rfl, hC1, hb1⟩
  have HK1 := hideP hC1
  have HB1 := hideP hb1
  clear hC1 hb1
  go_wp2_with fail
  refine (l01Below _ _ a len cap B 15 hlen (by omega) HK1.out).mono ?_
  rintro e W2 ⟨x, rfl, x0, x1, hC2, hG2⟩
  have HB2 : Hid (Below W.heap.size W W2) := below_grownBy HB1.out hG2 HB1.out.size HK1.out.lo
  clear hC2 hG2
  go_wp2
  go_ret
  exact ⟨_, rfl, HB2.out⟩
end Go.Proofs.YtnjfhfjnbimdlaaDoor.ctr
