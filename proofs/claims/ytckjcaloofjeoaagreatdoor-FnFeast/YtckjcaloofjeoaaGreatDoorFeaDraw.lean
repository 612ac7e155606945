/- Contracts of the model's draws for feasts (l04Name, l04Feast): a feast's name or a feast, spoilt sometimes, comes back, and nothing that was there but the cursor turns. -/
import Derived.Test.YtckjcaloofjeoaaGreatDoorWeekDraw2
import Derived.Test.YtckjcaloofjeoaaGreatDoorFeaOnCtr
namespace Go.Proofs.YtckjcaloofjeoaaGreatDoor.ctr
open Go.RowKit

theorem FeaBlk.grown {W W' : World} {g B : Nat} {cur : Array Value} (h : FeaBlk W g cur) (hG : W.grownBy W' (some B)) (hn : g ≠ B) : FeaBlk W' g cur := ⟨h.1.grown hG hn, h.2⟩
set_option maxRecDepth 100000 in
set_option maxHeartbeats 2000000 in
theorem l04Name (n0 : Nat) (W : World) (a : Option Addr) (len cap B : Nat) (hlen : len ≤ maxLen) (hC : Cur n0 W a len cap B) :
    Calls Tryz.prog 38 #[.pointer (some ⟨B, 0, none⟩)] W fun e W' => ∃ s : ByteArray, e = .returned (.string s) ∧ s.size ≤ 16 ∧ Cur n0 W' a len cap B ∧ W.grownBy W' (some B) := by
  have HK := hideP hC
  clear hC
  have h1 := HK.out.hi
  go_enter Tryz.func38, Tryz.ntmps38
  go_wp2_with fail
  refine (specFeasts _).mono ?_
  rintro e W1 ⟨v, rfl, hr, hb⟩
  obtain ⟨g, cp, cur, rfl, hg, hf⟩ := hr.blk
  have HK1 := hideP (HK.out.below hb)
  have HG1 : Hid (W.grownBy W1 (some B)) := grown_of_below hb
  have HF1 := hideP hf
  clear hr hb hf
  go_wp2_with fail
  refine (l01Below n0 _ a len cap B 20 hlen (by omega) HK1.out).mono ?_
  rintro e W2 ⟨x, rfl, x0, x1, hC2, hG2⟩
  obtain ⟨j, rfl⟩ := Int.eq_ofNat_of_zero_le x0
  have hj : j < 20 := by omega
  have HK2 := hideP hC2
  have HG2 : Hid (W.grownBy W2 (some B)) := grown_trans HG1.out hG2
  obtain ⟨c0, _⟩ := (HF1.out.grown hG2 (by omega)).at hj
  have hsz := feaAt_size0 ⟨j, hj⟩
  dsimp only at hsz
  clear hC2 hG2
  generalize (feaAt j).name = s at *
  go_wp2
  go_ret
  exact ⟨s, rfl, hsz, HK2.out, HG2.out⟩

def offsIn : List Int := [64, -64, 63, 1]
def daysIn : List Int := [0, 29, 31, 32]
def monsIn : List Int := [13, 2, 0]
set_option maxRecDepth 100000 in
set_option maxHeartbeats 8000000 in
theorem l04Feast (n0 : Nat) (W : World) (a : Option Addr) (len cap B : Nat) (hlen : len ≤ maxLen) (hC : Cur n0 W a len cap B) :
    Calls Tryz.prog 29 #[.pointer (some ⟨B, 0, none⟩)] W fun e W' => ∃ (s : ByteArray) (mv : Bool) (o m d : Int), e = .returned (.agg #[.string s, .bool mv, .int .i64 o, .int .i64 m, .int .i64 d]) ∧ s.size ≤ 16 ∧ Cur n0 W' a len cap B ∧ W.grownBy W' (some B) := by
  have HK := hideP hC
  clear hC
  have h1 := HK.out.hi
  have h2 := HK.out.lo
  go_enter Tryz.func29, Tryz.ntmps29
  go_wp2_with fail
  refine (specFeasts _).mono ?_
  rintro e W1 ⟨v, rfl, hr, hb⟩
  obtain ⟨g, cp, cur, rfl, hg, hf⟩ := hr.blk
  rw [size_new] at hg
  have HK1 := hideP ((HK.out.alloc _).below hb)
  have HG1 : Hid (W.grownBy W1 (some B)) := grown_trans (grown_alloc (grown_refl W _) _) (grown_of_below hb)
  have HZ1 : Hid (Blk W1 W.heap.size #[.string ⟨#[]⟩, .bool false, .int .i64 0, .int .i64 0, .int .i64 0] 25) := (Blk.new W _ _).below hb (by rw [size_new]; omega)
  have HF1 := hideP hf
  clear hr hb hf
  go_wp2_with fail
  refine (l01Below n0 _ a len cap B 20 hlen (by omega) HK1.out).mono ?_
  rintro e W2 ⟨x, rfl, x0, x1, hC2, hG2⟩
  obtain ⟨j, rfl⟩ := Int.eq_ofNat_of_zero_le x0
  have hj : j < 20 := by omega
  have HK2 := hideP hC2
  have HG2 : Hid (W.grownBy W2 (some B)) := grown_trans HG1.out hG2
  have HZ2 := hideP (HZ1.out.grown hG2 (by omega))
  obtain ⟨c0, c1, c2, c3, c4⟩ := (HF1.out.grown hG2 (by omega)).at hj
  have hsz := feaAt_size0 ⟨j, hj⟩
  dsimp only at hsz
  have h3 : W.heap.size < W2.heap.size := HZ2.out.lt
  clear hC2 hG2 HF1
  generalize feaAt j = f at *
  obtain ⟨s, mv, o, m, d⟩ := f
  dsimp only at c0 c1 c2 c3 c4 hsz
  go_wp2_with fail
  refine (l01Below n0 _ a len cap B 12 hlen (by omega) (HK2.out.alloc _)).mono ?_
  rintro e W4 ⟨x, rfl, x0, x1, hC4, hG4⟩
  have HK4 := hideP hC4
  have HG4 : Hid (W.grownBy W4 (some B)) := grown_trans (grown_alloc HG2.out _) hG4
  have HZ4 := hideP ((HZ2.out.alloc _).grown hG4 (by omega))
  have HD4 : Hid (Blk W4 W2.heap.size #[.string s, .bool mv, .int .i64 o, .int .i64 m, .int .i64 d] 25) := (Blk.new W2 _ _).grown hG4 (by omega)
  have h4 : W2.heap.size < W4.heap.size := HD4.out.lt
  have hne : ¬ W2.heap.size = W.heap.size := by omega
  clear hC4 hG4 c0 c1 c2 c3 c4
  by_cases e0 : x = 0
  · subst e0
    go_wp2_with fail
    refine (l01PickInt _ _ a len cap B W4.heap.size 4 4 (fun j => offsIn.getD j 0) hlen (by omega) (by omega) (by rw [size_new]; omega) (Nat.ne_of_gt HK4.out.hi) (fun j hj => alloc_ints W4 offsIn _ j hj) (HK4.out.alloc _)).mono ?_
    rintro e W5 ⟨j5, hj5, rfl, hC5, hG5⟩
    have HK5 := hideP hC5
    have HG5 : Hid (W.grownBy W5 (some B)) := grown_trans (grown_alloc HG4.out _) hG5
    have HZ5 := hideP ((HZ4.out.alloc _).grown hG5 (by omega))
    have HD5 := hideP ((HD4.out.alloc _).grown hG5 (by omega))
    clear hC5 hG5
    generalize offsIn.getD j5 0 = q at *
    have u0 := HD5.out.cell 0 rfl
    have u1 := HD5.out.cell 1 rfl
    have u2 := HD5.out.cell 2 rfl
    have u3 := HD5.out.cell 3 rfl
    have u4 := HD5.out.cell 4 rfl
    have z0 := HZ5.out.cell 0 rfl
    have z1 := HZ5.out.cell 1 rfl
    have z2 := HZ5.out.cell 2 rfl
    have z3 := HZ5.out.cell 3 rfl
    have z4 := HZ5.out.cell 4 rfl
    have f0 := HZ5.out.thaw 0
    have f1 := HZ5.out.thaw 1
    have f2 := HZ5.out.thaw 2
    have f3 := HZ5.out.thaw 3
    have f4 := HZ5.out.thaw 4
    have t2 := HD5.out.thaw 2
    go_wp2_with fail
    obtain ⟨W9, e9⟩ : ∃ W9, W9 = ((((((W5.setCell ⟨W2.heap.size, 2, none⟩ (.int .i64 q)).setCell ⟨W.heap.size, 0, none⟩ (.string s)).setCell ⟨W.heap.size, 1, none⟩ (.bool mv)).setCell ⟨W.heap.size, 2, none⟩ (.int .i64 q)).setCell ⟨W.heap.size, 3, none⟩ (.int .i64 m)).setCell ⟨W.heap.size, 4, none⟩ (.int .i64 d)) := ⟨_, rfl⟩
    have Z9 : Blk W9 W.heap.size #[.string s, .bool mv, .int .i64 q, .int .i64 m, .int .i64 d] 25 := by rw [e9]; exact ((((((HZ5.out.other (by omega)).set 0 _).set 1 _).set 2 _).set 3 _).set 4 _)
    have K9 : Cur n0 W9 a len cap B := by rw [e9]; exact ((((((HK5.out.store _ (by omega) (by omega)).store _ (by omega) (by omega)).store _ (by omega) (by omega)).store _ (by omega) (by omega)).store _ (by omega) (by omega)).store _ (by omega) (by omega))
    have G9 : W.grownBy W9 (some B) := by rw [e9]; exact (grown_store (grown_store (grown_store (grown_store (grown_store (grown_store HG5.out _ (by omega)) _ (by omega)) _ (by omega)) _ (by omega)) _ (by omega)) _ (by omega))
    rw [← e9]
    clear e9
    have y0 := Z9.cell 0 rfl
    have y1 := Z9.cell 1 rfl
    have y2 := Z9.cell 2 rfl
    have y3 := Z9.cell 3 rfl
    have y4 := Z9.cell 4 rfl
    refine bodyPost_ret (by simp [results, Tryz.results29, go_sem, y0, y1, y2, y3, y4]; try rfl) rfl ?_
    exact ⟨_, _, _, _, _, rfl, hsz, K9, G9⟩
  have e0' : (x == 0) = false := by simp [e0]
  by_cases e1 : x = 1
  · subst e1
    go_wp2_with fail
    refine (l01PickInt _ _ a len cap B W4.heap.size 4 4 (fun j => daysIn.getD j 0) hlen (by omega) (by omega) (by rw [size_new]; omega) (Nat.ne_of_gt HK4.out.hi) (fun j hj => alloc_ints W4 daysIn _ j hj) (HK4.out.alloc _)).mono ?_
    rintro e W5 ⟨j5, hj5, rfl, hC5, hG5⟩
    have HK5 := hideP hC5
    have HG5 : Hid (W.grownBy W5 (some B)) := grown_trans (grown_alloc HG4.out _) hG5
    have HZ5 := hideP ((HZ4.out.alloc _).grown hG5 (by omega))
    have HD5 := hideP ((HD4.out.alloc _).grown hG5 (by omega))
    clear hC5 hG5
    generalize daysIn.getD j5 0 = q at *
    have u0 := HD5.out.cell 0 rfl
    have u1 := HD5.out.cell 1 rfl
    have u2 := HD5.out.cell 2 rfl
    have u3 := HD5.out.cell 3 rfl
    have u4 := HD5.out.cell 4 rfl
    have z0 := HZ5.out.cell 0 rfl
    have z1 := HZ5.out.cell 1 rfl
    have z2 := HZ5.out.cell 2 rfl
    have z3 := HZ5.out.cell 3 rfl
    have z4 := HZ5.out.cell 4 rfl
    have f0 := HZ5.out.thaw 0
    have f1 := HZ5.out.thaw 1
    have f2 := HZ5.out.thaw 2
    have f3 := HZ5.out.thaw 3
    have f4 := HZ5.out.thaw 4
    have t4 := HD5.out.thaw 4
    go_wp2_with fail
    obtain ⟨W9, e9⟩ : ∃ W9, W9 = ((((((W5.setCell ⟨W2.heap.size, 4, none⟩ (.int .i64 q)).setCell ⟨W.heap.size, 0, none⟩ (.string s)).setCell ⟨W.heap.size, 1, none⟩ (.bool mv)).setCell ⟨W.heap.size, 2, none⟩ (.int .i64 o)).setCell ⟨W.heap.size, 3, none⟩ (.int .i64 m)).setCell ⟨W.heap.size, 4, none⟩ (.int .i64 q)) := ⟨_, rfl⟩
    have Z9 : Blk W9 W.heap.size #[.string s, .bool mv, .int .i64 o, .int .i64 m, .int .i64 q] 25 := by rw [e9]; exact ((((((HZ5.out.other (by omega)).set 0 _).set 1 _).set 2 _).set 3 _).set 4 _)
    have K9 : Cur n0 W9 a len cap B := by rw [e9]; exact ((((((HK5.out.store _ (by omega) (by omega)).store _ (by omega) (by omega)).store _ (by omega) (by omega)).store _ (by omega) (by omega)).store _ (by omega) (by omega)).store _ (by omega) (by omega))
    have G9 : W.grownBy W9 (some B) := by rw [e9]; exact (grown_store (grown_store (grown_store (grown_store (grown_store (grown_store HG5.out _ (by omega)) _ (by omega)) _ (by omega)) _ (by omega)) _ (by omega)) _ (by omega))
    rw [← e9]
    clear e9
    have y0 := Z9.cell 0 rfl
    have y1 := Z9.cell 1 rfl
    have y2 := Z9.cell 2 rfl
    have y3 := Z9.cell 3 rfl
    have y4 := Z9.cell 4 rfl
    refine bodyPost_ret (by simp [results, Tryz.results29, go_sem, y0, y1, y2, y3, y4]; try rfl) rfl ?_
    exact ⟨_, _, _, _, _, rfl, hsz, K9, G9⟩
  have e1' : (x == 1) = false := by simp [e1]
  by_cases e2 : x = 2
  · subst e2
    have u0 := HD4.out.cell 0 rfl
    have u1 := HD4.out.cell 1 rfl
    have u2 := HD4.out.cell 2 rfl
    have u3 := HD4.out.cell 3 rfl
    have u4 := HD4.out.cell 4 rfl
    have z0 := HZ4.out.cell 0 rfl
    have z1 := HZ4.out.cell 1 rfl
    have z2 := HZ4.out.cell 2 rfl
    have z3 := HZ4.out.cell 3 rfl
    have z4 := HZ4.out.cell 4 rfl
    have f0 := HZ4.out.thaw 0
    have f1 := HZ4.out.thaw 1
    have f2 := HZ4.out.thaw 2
    have f3 := HZ4.out.thaw 3
    have f4 := HZ4.out.thaw 4
    have t0 := HD4.out.thaw 0
    go_wp2_with fail
    obtain ⟨W9, e9⟩ : ∃ W9, W9 = ((((((W4.setCell ⟨W2.heap.size, 0, none⟩ (.string ⟨#[65]⟩)).setCell ⟨W.heap.size, 0, none⟩ (.string ⟨#[65]⟩)).setCell ⟨W.heap.size, 1, none⟩ (.bool mv)).setCell ⟨W.heap.size, 2, none⟩ (.int .i64 o)).setCell ⟨W.heap.size, 3, none⟩ (.int .i64 m)).setCell ⟨W.heap.size, 4, none⟩ (.int .i64 d)) := ⟨_, rfl⟩
    have Z9 : Blk W9 W.heap.size #[.string ⟨#[65]⟩, .bool mv, .int .i64 o, .int .i64 m, .int .i64 d] 25 := by rw [e9]; exact ((((((HZ4.out.other (by omega)).set 0 _).set 1 _).set 2 _).set 3 _).set 4 _)
    have K9 : Cur n0 W9 a len cap B := by rw [e9]; exact ((((((HK4.out.store _ (by omega) (by omega)).store _ (by omega) (by omega)).store _ (by omega) (by omega)).store _ (by omega) (by omega)).store _ (by omega) (by omega)).store _ (by omega) (by omega))
    have G9 : W.grownBy W9 (some B) := by rw [e9]; exact (grown_store (grown_store (grown_store (grown_store (grown_store (grown_store HG4.out _ (by omega)) _ (by omega)) _ (by omega)) _ (by omega)) _ (by omega)) _ (by omega))
    rw [← e9]
    clear e9
    have y0 := Z9.cell 0 rfl
    have y1 := Z9.cell 1 rfl
    have y2 := Z9.cell 2 rfl
    have y3 := Z9.cell 3 rfl
    have y4 := Z9.cell 4 rfl
    refine bodyPost_ret (by simp [results, Tryz.results29, go_sem, y0, y1, y2, y3, y4]; try rfl) rfl ?_
    exact ⟨_, _, _, _, _, rfl, (by decide), K9, G9⟩
  have e2' : (x == 2) = false := by simp [e2]
  by_cases e3 : x = 3
  · subst e3
    go_wp2_with fail
    refine (l01PickInt _ _ a len cap B W4.heap.size 3 3 (fun j => monsIn.getD j 0) hlen (by omega) (by omega) (by rw [size_new]; omega) (Nat.ne_of_gt HK4.out.hi) (fun j hj => alloc_ints W4 monsIn _ j hj) (HK4.out.alloc _)).mono ?_
    rintro e W5 ⟨j5, hj5, rfl, hC5, hG5⟩
    have HK5 := hideP hC5
    have HG5 : Hid (W.grownBy W5 (some B)) := grown_trans (grown_alloc HG4.out _) hG5
    have HZ5 := hideP ((HZ4.out.alloc _).grown hG5 (by omega))
    have HD5 := hideP ((HD4.out.alloc _).grown hG5 (by omega))
    clear hC5 hG5
    generalize monsIn.getD j5 0 = q at *
    have u0 := HD5.out.cell 0 rfl
    have u1 := HD5.out.cell 1 rfl
    have u2 := HD5.out.cell 2 rfl
    have u3 := HD5.out.cell 3 rfl
    have u4 := HD5.out.cell 4 rfl
    have z0 := HZ5.out.cell 0 rfl
    have z1 := HZ5.out.cell 1 rfl
    have z2 := HZ5.out.cell 2 rfl
    have z3 := HZ5.out.cell 3 rfl
    have z4 := HZ5.out.cell 4 rfl
    have f0 := HZ5.out.thaw 0
    have f1 := HZ5.out.thaw 1
    have f2 := HZ5.out.thaw 2
    have f3 := HZ5.out.thaw 3
    have f4 := HZ5.out.thaw 4
    have t3 := HD5.out.thaw 3
    go_wp2_with fail
    obtain ⟨W9, e9⟩ : ∃ W9, W9 = ((((((W5.setCell ⟨W2.heap.size, 3, none⟩ (.int .i64 q)).setCell ⟨W.heap.size, 0, none⟩ (.string s)).setCell ⟨W.heap.size, 1, none⟩ (.bool mv)).setCell ⟨W.heap.size, 2, none⟩ (.int .i64 o)).setCell ⟨W.heap.size, 3, none⟩ (.int .i64 q)).setCell ⟨W.heap.size, 4, none⟩ (.int .i64 d)) := ⟨_, rfl⟩
    have Z9 : Blk W9 W.heap.size #[.string s, .bool mv, .int .i64 o, .int .i64 q, .int .i64 d] 25 := by rw [e9]; exact ((((((HZ5.out.other (by omega)).set 0 _).set 1 _).set 2 _).set 3 _).set 4 _)
    have K9 : Cur n0 W9 a len cap B := by rw [e9]; exact ((((((HK5.out.store _ (by omega) (by omega)).store _ (by omega) (by omega)).store _ (by omega) (by omega)).store _ (by omega) (by omega)).store _ (by omega) (by omega)).store _ (by omega) (by omega))
    have G9 : W.grownBy W9 (some B) := by rw [e9]; exact (grown_store (grown_store (grown_store (grown_store (grown_store (grown_store HG5.out _ (by omega)) _ (by omega)) _ (by omega)) _ (by omega)) _ (by omega)) _ (by omega))
    rw [← e9]
    clear e9
    have y0 := Z9.cell 0 rfl
    have y1 := Z9.cell 1 rfl
    have y2 := Z9.cell 2 rfl
    have y3 := Z9.cell 3 rfl
    have y4 := Z9.cell 4 rfl
    refine bodyPost_ret (by simp [results, Tryz.results29, go_sem, y0, y1, y2, y3, y4]; try rfl) rfl ?_
    exact ⟨_, _, _, _, _, rfl, hsz, K9, G9⟩
  have e3' : (x == 3) = false := by simp [e3]
  have u0 := HD4.out.cell 0 rfl
  have u1 := HD4.out.cell 1 rfl
  have u2 := HD4.out.cell 2 rfl
  have u3 := HD4.out.cell 3 rfl
  have u4 := HD4.out.cell 4 rfl
  have z0 := HZ4.out.cell 0 rfl
  have z1 := HZ4.out.cell 1 rfl
  have z2 := HZ4.out.cell 2 rfl
  have z3 := HZ4.out.cell 3 rfl
  have z4 := HZ4.out.cell 4 rfl
  have f0 := HZ4.out.thaw 0
  have f1 := HZ4.out.thaw 1
  have f2 := HZ4.out.thaw 2
  have f3 := HZ4.out.thaw 3
  have f4 := HZ4.out.thaw 4
  go_wp2_with fail
  obtain ⟨W9, e9⟩ : ∃ W9, W9 = (((((W4.setCell ⟨W.heap.size, 0, none⟩ (.string s)).setCell ⟨W.heap.size, 1, none⟩ (.bool mv)).setCell ⟨W.heap.size, 2, none⟩ (.int .i64 o)).setCell ⟨W.heap.size, 3, none⟩ (.int .i64 m)).setCell ⟨W.heap.size, 4, none⟩ (.int .i64 d)) := ⟨_, rfl⟩
  have Z9 : Blk W9 W.heap.size #[.string s, .bool mv, .int .i64 o, .int .i64 m, .int .i64 d] 25 := by rw [e9]; exact (((((HZ4.out.set 0 _).set 1 _).set 2 _).set 3 _).set 4 _)
  have K9 : Cur n0 W9 a len cap B := by rw [e9]; exact (((((HK4.out.store _ (by omega) (by omega)).store _ (by omega) (by omega)).store _ (by omega) (by omega)).store _ (by omega) (by omega)).store _ (by omega) (by omega))
  have G9 : W.grownBy W9 (some B) := by rw [e9]; exact (grown_store (grown_store (grown_store (grown_store (grown_store HG4.out _ (by omega)) _ (by omega)) _ (by omega)) _ (by omega)) _ (by omega))
  rw [← e9]
  clear e9
  have y0 := Z9.cell 0 rfl
  have y1 := Z9.cell 1 rfl
  have y2 := Z9.cell 2 rfl
  have y3 := Z9.cell 3 rfl
  have y4 := Z9.cell 4 rfl
  refine bodyPost_ret (by simp [results, Tryz.results29, go_sem, y0, y1, y2, y3, y4]; try rfl) rfl ?_
  exact ⟨_, _, _, _, _, rfl, hsz, K9, G9⟩
end Go.Proofs.YtckjcaloofjeoaaGreatDoor.ctr
