/- Contracts of the model's draws for eras (l07Era, l07Name): an era or an era's name, spoilt sometimes, comes back, and nothing that was there but the cursor turns. Contracts of the model's draws for FnEra: each call returns an era, numbers or a text, and nothing that was there turns. Contracts of the model's draws for FnEra, the second half: DrawEraSpan, DrawFindEra, DrawEraText, DrawEraDays, DrawYearText, DrawReadYear. -/
import Derived.Test.YtifekkehbaegiaaGreatDoorStyDraw
import Derived.Test.YtifekkehbaegiaaGreatDoorEraA
import Derived.Test.YtifekkehbaegiaaGreatDoorEraB
import Derived.Test.YtifekkehbaegiaaGreatDoorTexA
import Derived.Deep.RegionHeld
namespace Go.Proofs.YtifekkehbaegiaaGreatDoor.ctr
open Go.RowKit

/-- The row g holds the eras' cells. -/
def EraBlk (W : World) (g : Nat) (cur : Array Value) : Prop := Blk W g cur 25 ∧ ∀ k, k < 9 → ∀ j, j < 4 → cur[k * 4 + j]? = (eraAt k).cs[j]?
theorem EraOwn.blk {w W : World} {v : Value} (h : EraOwn w W v) : ∃ g cap cur, v = .slice (some ⟨g, 0, none⟩) 9 cap ∧ w.heap.size ≤ g ∧ EraBlk W g cur := by
  rcases h.2 with ⟨_, h0⟩ | ⟨g, cap, cur, hv, hb, hh, hcap, _, hsz, htake⟩
  · simp at h0
  · refine ⟨g, cap, cur, hv, hb, hh, fun k hk j hj => ?_⟩
    rw [← eraCell hk hj, ← htake, List.getElem?_take, if_pos (by omega)]
    simp
theorem EraBlk.at {W : World} {g : Nat} {cur : Array Value} (h : EraBlk W g cur) {k : Nat} (hk : k < 9) : W.cell? ⟨g, k * 4, none⟩ = some (.string (eraAt k).name) ∧ W.cell? ⟨g, k * 4 + 1, none⟩ = some (.int .i64 (eraAt k).st) ∧ W.cell? ⟨g, k * 4 + 2, none⟩ = some (.int .i64 (eraAt k).add) ∧ W.cell? ⟨g, k * 4 + 3, none⟩ = some (.int .i64 (eraAt k).cyc) := by
  have e := fun j hj => h.2 k hk j hj
  exact ⟨h.1.cell _ (e 0 (by omega)), h.1.cell _ (e 1 (by omega)), h.1.cell _ (e 2 (by omega)), h.1.cell _ (e 3 (by omega))⟩
theorem EraBlk.below {W W' : World} {g : Nat} {cur : Array Value} (h : EraBlk W g cur) (hb : Below W.heap.size W W') : EraBlk W' g cur := ⟨h.1.below hb h.1.lt, h.2⟩
theorem EraBlk.grown {W W' : World} {g B : Nat} {cur : Array Value} (h : EraBlk W g cur) (hG : W.grownBy W' (some B)) (hn : g ≠ B) : EraBlk W' g cur := ⟨h.1.grown hG hn, h.2⟩
set_option maxRecDepth 100000 in
set_option maxHeartbeats 2000000 in
theorem l07Name (n0 : Nat) (W : World) (a : Option Addr) (len cap B : Nat) (hlen : len ≤ maxLen) (hC : Cur n0 W a len cap B) :
    Calls Tryz.prog 48 #[.pointer (some ⟨B, 0, none⟩)] W fun e W' => ∃ s : ByteArray, e = .returned (.string s) ∧ s.size ≤ 17 ∧ Cur n0 W' a len cap B ∧ W.grownBy W' (some B) := by
  have HK := hideP hC
  clear hC
  have h1 := HK.out.hi
  go_enter Tryz.func48, Tryz.ntmps48
  go_wp2_with fail
  refine (specEras _).mono ?_
  rintro e W1 ⟨v, rfl, hr, hb⟩
  obtain ⟨g, cp, cur, rfl, hg, hf⟩ := hr.blk
  have HK1 := hideP (HK.out.below hb)
  have HG1 : Hid (W.grownBy W1 (some B)) := grown_of_below hb
  have HF1 := hideP hf
  clear hr hb hf
  go_wp2_with fail
  refine (l01Below n0 _ a len cap B 9 hlen (by omega) HK1.out).mono ?_
  rintro e W2 ⟨x, rfl, x0, x1, hC2, hG2⟩
  obtain ⟨j, rfl⟩ := Int.eq_ofNat_of_zero_le x0
  have hj : j < 9 := by omega
  have HK2 := hideP hC2
  have HG2 : Hid (W.grownBy W2 (some B)) := grown_trans HG1.out hG2
  obtain ⟨c0, _⟩ := (HF1.out.grown hG2 (by omega)).at hj
  have hsz := eraAt_size0 ⟨j, hj⟩
  dsimp only at hsz
  clear hC2 hG2
  generalize (eraAt j).name = s at *
  go_wp2_with fail
  refine (l01Bent n0 _ a len cap B s hlen (by omega) HK2.out).mono ?_
  rintro e W3 ⟨r, rfl, hr, hC3, hG3⟩
  have HK3 := hideP hC3
  have HG3 : Hid (W.grownBy W3 (some B)) := grown_trans HG2.out hG3
  clear hC3 hG3
  go_wp2
  go_ret
  exact ⟨r, rfl, by omega, HK3.out, HG3.out⟩

theorem eraAt_add : ∀ i : Fin 9, -1 ≤ (eraAt i.val).add ∧ (eraAt i.val).add ≤ 9001 := by decide
def addsIn : List Int := [9000, 9001, -1]
theorem adds_in : ∀ j : Fin 3, -1 ≤ addsIn.getD j.val 0 ∧ addsIn.getD j.val 0 ≤ 9001 := by decide
def cycsIn : List Int := [1, 2, 600, 601, -1]
set_option maxRecDepth 100000 in
set_option maxHeartbeats 8000000 in
theorem l07Era (n0 : Nat) (W : World) (a : Option Addr) (len cap B : Nat) (hlen : len ≤ maxLen) (hC : Cur n0 W a len cap B) :
    Calls Tryz.prog 33 #[.pointer (some ⟨B, 0, none⟩)] W fun e W' => ∃ (s : ByteArray) (st ad cy : Int), e = .returned (.agg #[.string s, .int .i64 st, .int .i64 ad, .int .i64 cy]) ∧ s.size ≤ 16 ∧ (-1 ≤ ad ∧ ad ≤ 9001) ∧ Cur n0 W' a len cap B ∧ W.grownBy W' (some B) := by
  have HK := hideP hC
  clear hC
  have h1 := HK.out.hi
  have h2 := HK.out.lo
  go_enter Tryz.func33, Tryz.ntmps33
  go_wp2_with fail
  refine (specEras _).mono ?_
  rintro e W1 ⟨v, rfl, hr, hb⟩
  obtain ⟨g, cp, cur, rfl, hg, hf⟩ := hr.blk
  rw [size_new] at hg
  have HK1 := hideP ((HK.out.alloc _).below hb)
  have HG1 : Hid (W.grownBy W1 (some B)) := grown_trans (grown_alloc (grown_refl W _) _) (grown_of_below hb)
  have HZ1 : Hid (Blk W1 W.heap.size #[.string ⟨#[]⟩, .int .i64 0, .int .i64 0, .int .i64 0] 25) := (Blk.new W _ _).below hb (by rw [size_new]; omega)
  have HF1 := hideP hf
  clear hr hb hf
  go_wp2_with fail
  refine (l01Below n0 _ a len cap B 9 hlen (by omega) HK1.out).mono ?_
  rintro e W2 ⟨x, rfl, x0, x1, hC2, hG2⟩
  obtain ⟨j, rfl⟩ := Int.eq_ofNat_of_zero_le x0
  have hj : j < 9 := by omega
  have HK2 := hideP hC2
  have HG2 : Hid (W.grownBy W2 (some B)) := grown_trans HG1.out hG2
  have HZ2 := hideP (HZ1.out.grown hG2 (by omega))
  obtain ⟨c0, c1, c2, c3⟩ := (HF1.out.grown hG2 (by omega)).at hj
  have hsz := eraAt_size0 ⟨j, hj⟩
  have had := eraAt_add ⟨j, hj⟩
  dsimp only at hsz had
  have h3 : W.heap.size < W2.heap.size := HZ2.out.lt
  clear hC2 hG2 HF1
  generalize eraAt j = f at *
  obtain ⟨s, st, ad, cy⟩ := f
  dsimp only at c0 c1 c2 c3 hsz had
  go_wp2_with fail
  refine (l01Below n0 _ a len cap B 12 hlen (by omega) (HK2.out.alloc _)).mono ?_
  rintro e W4 ⟨x, rfl, x0, x1, hC4, hG4⟩
  have HK4 := hideP hC4
  have HG4 : Hid (W.grownBy W4 (some B)) := grown_trans (grown_alloc HG2.out _) hG4
  have HZ4 := hideP ((HZ2.out.alloc _).grown hG4 (by omega))
  have HD4 : Hid (Blk W4 W2.heap.size #[.string s, .int .i64 st, .int .i64 ad, .int .i64 cy] 25) := (Blk.new W2 _ _).grown hG4 (by omega)
  have h4 : W2.heap.size < W4.heap.size := HD4.out.lt
  have hne : ¬ W2.heap.size = W.heap.size := by omega
  clear hC4 hG4 c0 c1 c2 c3
  by_cases e0 : x = 0
  · subst e0
    go_wp2_with fail
    refine (l01PickInt _ _ a len cap B W4.heap.size 3 3 (fun j => addsIn.getD j 0) hlen (by omega) (by omega) (by rw [size_new]; omega) (Nat.ne_of_gt HK4.out.hi) (fun j hj => alloc_ints W4 addsIn _ j hj) (HK4.out.alloc _)).mono ?_
    rintro e W5 ⟨j5, hj5, rfl, hC5, hG5⟩
    have HK5 := hideP hC5
    have HG5 : Hid (W.grownBy W5 (some B)) := grown_trans (grown_alloc HG4.out _) hG5
    have HZ5 := hideP ((HZ4.out.alloc _).grown hG5 (by omega))
    have HD5 := hideP ((HD4.out.alloc _).grown hG5 (by omega))
    clear hC5 hG5
    have hqa := adds_in ⟨j5, hj5⟩
    dsimp only at hqa
    generalize addsIn.getD j5 0 = q at *
    have u0 := HD5.out.cell 0 rfl
    have u1 := HD5.out.cell 1 rfl
    have u2 := HD5.out.cell 2 rfl
    have u3 := HD5.out.cell 3 rfl
    have z0 := HZ5.out.cell 0 rfl
    have z1 := HZ5.out.cell 1 rfl
    have z2 := HZ5.out.cell 2 rfl
    have z3 := HZ5.out.cell 3 rfl
    have f0 := HZ5.out.thaw 0
    have f1 := HZ5.out.thaw 1
    have f2 := HZ5.out.thaw 2
    have f3 := HZ5.out.thaw 3
    have t2 := HD5.out.thaw 2
    go_wp2_with fail
    obtain ⟨W9, e9⟩ : ∃ W9, W9 = (((((W5.setCell ⟨W2.heap.size, 2, none⟩ (.int .i64 q)).setCell ⟨W.heap.size, 0, none⟩ (.string s)).setCell ⟨W.heap.size, 1, none⟩ (.int .i64 st)).setCell ⟨W.heap.size, 2, none⟩ (.int .i64 q)).setCell ⟨W.heap.size, 3, none⟩ (.int .i64 cy)) := ⟨_, rfl⟩
    have Z9 : Blk W9 W.heap.size #[.string s, .int .i64 st, .int .i64 q, .int .i64 cy] 25 := by rw [e9]; exact (((((HZ5.out.other (by omega)).set 0 _).set 1 _).set 2 _).set 3 _)
    have K9 : Cur n0 W9 a len cap B := by rw [e9]; exact (((((HK5.out.store _ (by omega) (by omega)).store _ (by omega) (by omega)).store _ (by omega) (by omega)).store _ (by omega) (by omega)).store _ (by omega) (by omega))
    have G9 : W.grownBy W9 (some B) := by rw [e9]; exact (grown_store (grown_store (grown_store (grown_store (grown_store HG5.out _ (by omega)) _ (by omega)) _ (by omega)) _ (by omega)) _ (by omega))
    rw [← e9]
    clear e9
    have y0 := Z9.cell 0 rfl
    have y1 := Z9.cell 1 rfl
    have y2 := Z9.cell 2 rfl
    have y3 := Z9.cell 3 rfl
    refine bodyPost_ret (by simp [results, Tryz.results33, go_sem, y0, y1, y2, y3]; try rfl) rfl ?_
    exact ⟨_, _, _, _, rfl, hsz, hqa, K9, G9⟩
  have e0' : (x == 0) = false := by simp [e0]
  by_cases e1 : x = 1
  · subst e1
    go_wp2_with fail
    refine (l01PickInt _ _ a len cap B W4.heap.size 5 5 (fun j => cycsIn.getD j 0) hlen (by omega) (by omega) (by rw [size_new]; omega) (Nat.ne_of_gt HK4.out.hi) (fun j hj => alloc_ints W4 cycsIn _ j hj) (HK4.out.alloc _)).mono ?_
    rintro e W5 ⟨j5, hj5, rfl, hC5, hG5⟩
    have HK5 := hideP hC5
    have HG5 : Hid (W.grownBy W5 (some B)) := grown_trans (grown_alloc HG4.out _) hG5
    have HZ5 := hideP ((HZ4.out.alloc _).grown hG5 (by omega))
    have HD5 := hideP ((HD4.out.alloc _).grown hG5 (by omega))
    clear hC5 hG5
    generalize cycsIn.getD j5 0 = q at *
    have u0 := HD5.out.cell 0 rfl
    have u1 := HD5.out.cell 1 rfl
    have u2 := HD5.out.cell 2 rfl
    have u3 := HD5.out.cell 3 rfl
    have z0 := HZ5.out.cell 0 rfl
    have z1 := HZ5.out.cell 1 rfl
    have z2 := HZ5.out.cell 2 rfl
    have z3 := HZ5.out.cell 3 rfl
    have f0 := HZ5.out.thaw 0
    have f1 := HZ5.out.thaw 1
    have f2 := HZ5.out.thaw 2
    have f3 := HZ5.out.thaw 3
    have t3 := HD5.out.thaw 3
    go_wp2_with fail
    obtain ⟨W9, e9⟩ : ∃ W9, W9 = (((((W5.setCell ⟨W2.heap.size, 3, none⟩ (.int .i64 q)).setCell ⟨W.heap.size, 0, none⟩ (.string s)).setCell ⟨W.heap.size, 1, none⟩ (.int .i64 st)).setCell ⟨W.heap.size, 2, none⟩ (.int .i64 ad)).setCell ⟨W.heap.size, 3, none⟩ (.int .i64 q)) := ⟨_, rfl⟩
    have Z9 : Blk W9 W.heap.size #[.string s, .int .i64 st, .int .i64 ad, .int .i64 q] 25 := by rw [e9]; exact (((((HZ5.out.other (by omega)).set 0 _).set 1 _).set 2 _).set 3 _)
    have K9 : Cur n0 W9 a len cap B := by rw [e9]; exact (((((HK5.out.store _ (by omega) (by omega)).store _ (by omega) (by omega)).store _ (by omega) (by omega)).store _ (by omega) (by omega)).store _ (by omega) (by omega))
    have G9 : W.grownBy W9 (some B) := by rw [e9]; exact (grown_store (grown_store (grown_store (grown_store (grown_store HG5.out _ (by omega)) _ (by omega)) _ (by omega)) _ (by omega)) _ (by omega))
    rw [← e9]
    clear e9
    have y0 := Z9.cell 0 rfl
    have y1 := Z9.cell 1 rfl
    have y2 := Z9.cell 2 rfl
    have y3 := Z9.cell 3 rfl
    refine bodyPost_ret (by simp [results, Tryz.results33, go_sem, y0, y1, y2, y3]; try rfl) rfl ?_
    exact ⟨_, _, _, _, rfl, hsz, had, K9, G9⟩
  have e1' : (x == 1) = false := by simp [e1]
  by_cases e2 : x = 2
  · subst e2
    go_wp2_with fail
    refine (l06Style n0 _ a len cap B hlen HK4.out).mono ?_
    rintro e W5 ⟨q, rfl, hC5, hG5⟩
    have HK5 := hideP hC5
    have HG5 : Hid (W.grownBy W5 (some B)) := grown_trans HG4.out hG5
    have HZ5 := hideP (HZ4.out.grown hG5 (by omega))
    have HD5 := hideP (HD4.out.grown hG5 (by omega))
    clear hC5 hG5
    have u0 := HD5.out.cell 0 rfl
    have u1 := HD5.out.cell 1 rfl
    have u2 := HD5.out.cell 2 rfl
    have u3 := HD5.out.cell 3 rfl
    have z0 := HZ5.out.cell 0 rfl
    have z1 := HZ5.out.cell 1 rfl
    have z2 := HZ5.out.cell 2 rfl
    have z3 := HZ5.out.cell 3 rfl
    have f0 := HZ5.out.thaw 0
    have f1 := HZ5.out.thaw 1
    have f2 := HZ5.out.thaw 2
    have f3 := HZ5.out.thaw 3
    have t1 := HD5.out.thaw 1
    go_wp2_with fail
    obtain ⟨W9, e9⟩ : ∃ W9, W9 = (((((W5.setCell ⟨W2.heap.size, 1, none⟩ (.int .i64 q)).setCell ⟨W.heap.size, 0, none⟩ (.string s)).setCell ⟨W.heap.size, 1, none⟩ (.int .i64 q)).setCell ⟨W.heap.size, 2, none⟩ (.int .i64 ad)).setCell ⟨W.heap.size, 3, none⟩ (.int .i64 cy)) := ⟨_, rfl⟩
    have Z9 : Blk W9 W.heap.size #[.string s, .int .i64 q, .int .i64 ad, .int .i64 cy] 25 := by rw [e9]; exact (((((HZ5.out.other (by omega)).set 0 _).set 1 _).set 2 _).set 3 _)
    have K9 : Cur n0 W9 a len cap B := by rw [e9]; exact (((((HK5.out.store _ (by omega) (by omega)).store _ (by omega) (by omega)).store _ (by omega) (by omega)).store _ (by omega) (by omega)).store _ (by omega) (by omega))
    have G9 : W.grownBy W9 (some B) := by rw [e9]; exact (grown_store (grown_store (grown_store (grown_store (grown_store HG5.out _ (by omega)) _ (by omega)) _ (by omega)) _ (by omega)) _ (by omega))
    rw [← e9]
    clear e9
    have y0 := Z9.cell 0 rfl
    have y1 := Z9.cell 1 rfl
    have y2 := Z9.cell 2 rfl
    have y3 := Z9.cell 3 rfl
    refine bodyPost_ret (by simp [results, Tryz.results33, go_sem, y0, y1, y2, y3]; try rfl) rfl ?_
    exact ⟨_, _, _, _, rfl, hsz, had, K9, G9⟩
  have e2' : (x == 2) = false := by simp [e2]
  by_cases e3 : x = 3
  · subst e3
    have u0 := HD4.out.cell 0 rfl
    have u1 := HD4.out.cell 1 rfl
    have u2 := HD4.out.cell 2 rfl
    have u3 := HD4.out.cell 3 rfl
    have z0 := HZ4.out.cell 0 rfl
    have z1 := HZ4.out.cell 1 rfl
    have z2 := HZ4.out.cell 2 rfl
    have z3 := HZ4.out.cell 3 rfl
    have f0 := HZ4.out.thaw 0
    have f1 := HZ4.out.thaw 1
    have f2 := HZ4.out.thaw 2
    have f3 := HZ4.out.thaw 3
    have t0 := HD4.out.thaw 0
    go_wp2_with fail
    obtain ⟨W9, e9⟩ : ∃ W9, W9 = (((((W4.setCell ⟨W2.heap.size, 0, none⟩ (.string ⟨#[97, 32, 98]⟩)).setCell ⟨W.heap.size, 0, none⟩ (.string ⟨#[97, 32, 98]⟩)).setCell ⟨W.heap.size, 1, none⟩ (.int .i64 st)).setCell ⟨W.heap.size, 2, none⟩ (.int .i64 ad)).setCell ⟨W.heap.size, 3, none⟩ (.int .i64 cy)) := ⟨_, rfl⟩
    have Z9 : Blk W9 W.heap.size #[.string ⟨#[97, 32, 98]⟩, .int .i64 st, .int .i64 ad, .int .i64 cy] 25 := by rw [e9]; exact (((((HZ4.out.other (by omega)).set 0 _).set 1 _).set 2 _).set 3 _)
    have K9 : Cur n0 W9 a len cap B := by rw [e9]; exact (((((HK4.out.store _ (by omega) (by omega)).store _ (by omega) (by omega)).store _ (by omega) (by omega)).store _ (by omega) (by omega)).store _ (by omega) (by omega))
    have G9 : W.grownBy W9 (some B) := by rw [e9]; exact (grown_store (grown_store (grown_store (grown_store (grown_store HG4.out _ (by omega)) _ (by omega)) _ (by omega)) _ (by omega)) _ (by omega))
    rw [← e9]
    clear e9
    have y0 := Z9.cell 0 rfl
    have y1 := Z9.cell 1 rfl
    have y2 := Z9.cell 2 rfl
    have y3 := Z9.cell 3 rfl
    refine bodyPost_ret (by simp [results, Tryz.results33, go_sem, y0, y1, y2, y3]; try rfl) rfl ?_
    exact ⟨_, _, _, _, rfl, (by decide), had, K9, G9⟩
  have e3' : (x == 3) = false := by simp [e3]
  have u0 := HD4.out.cell 0 rfl
  have u1 := HD4.out.cell 1 rfl
  have u2 := HD4.out.cell 2 rfl
  have u3 := HD4.out.cell 3 rfl
  have z0 := HZ4.out.cell 0 rfl
  have z1 := HZ4.out.cell 1 rfl
  have z2 := HZ4.out.cell 2 rfl
  have z3 := HZ4.out.cell 3 rfl
  have f0 := HZ4.out.thaw 0
  have f1 := HZ4.out.thaw 1
  have f2 := HZ4.out.thaw 2
  have f3 := HZ4.out.thaw 3
  go_wp2_with fail
  obtain ⟨W9, e9⟩ : ∃ W9, W9 = ((((W4.setCell ⟨W.heap.size, 0, none⟩ (.string s)).setCell ⟨W.heap.size, 1, none⟩ (.int .i64 st)).setCell ⟨W.heap.size, 2, none⟩ (.int .i64 ad)).setCell ⟨W.heap.size, 3, none⟩ (.int .i64 cy)) := ⟨_, rfl⟩
  have Z9 : Blk W9 W.heap.size #[.string s, .int .i64 st, .int .i64 ad, .int .i64 cy] 25 := by rw [e9]; exact ((((HZ4.out.set 0 _).set 1 _).set 2 _).set 3 _)
  have K9 : Cur n0 W9 a len cap B := by rw [e9]; exact ((((HK4.out.store _ (by omega) (by omega)).store _ (by omega) (by omega)).store _ (by omega) (by omega)).store _ (by omega) (by omega))
  have G9 : W.grownBy W9 (some B) := by rw [e9]; exact (grown_store (grown_store (grown_store (grown_store HG4.out _ (by omega)) _ (by omega)) _ (by omega)) _ (by omega))
  rw [← e9]
  clear e9
  have y0 := Z9.cell 0 rfl
  have y1 := Z9.cell 1 rfl
  have y2 := Z9.cell 2 rfl
  have y3 := Z9.cell 3 rfl
  refine bodyPost_ret (by simp [results, Tryz.results33, go_sem, y0, y1, y2, y3]; try rfl) rfl ?_
  exact ⟨_, _, _, _, rfl, hsz, had, K9, G9⟩
end Go.Proofs.YtifekkehbaegiaaGreatDoor.ctr

namespace Go.Proofs.YtifekkehbaegiaaGreatDoor.ctr
open Go.RowKit

/-- The state of a draw: the cursor, the drawn era's block, the answer's block. -/
structure ErSt (V0 : World) (n0 : Nat) (a : Option Addr) (len cap B Z E : Nat) (ev : Array Value) (w : World) : Prop where
  cur : Cur n0 w a len cap B
  dat : Blk w E ev 25
  zer : Blk w Z #[.string ⟨#[]⟩, .int .i64 0, .int .i64 0, .int .i64 0] 25
  bel : Below V0.heap.size V0 w
  hn : V0.heap.size ≤ n0
  eB : E ≠ B
  zB : Z ≠ B
theorem ErSt.step {V0 : World} {n0 : Nat} {a : Option Addr} {len cap B Z E : Nat} {ev : Array Value} {w w' : World} (h : Hid (ErSt V0 n0 a len cap B Z E ev w)) (hG : w.grownBy w' (some B)) (hC : Cur n0 w' a len cap B) : Hid (ErSt V0 n0 a len cap B Z E ev w') :=
  ⟨hC, h.out.dat.grown hG h.out.eB, h.out.zer.grown hG h.out.zB, below_grownBy h.out.bel hG h.out.bel.size (Nat.le_trans h.out.hn h.out.cur.lo), h.out.hn, h.out.eB, h.out.zB⟩
theorem ErSt.drew {V0 : World} {n0 : Nat} {a : Option Addr} {len cap B Z E : Nat} {ev : Array Value} {w : World} (h : Hid (ErSt V0 n0 a len cap B Z E ev w)) : Hid (ErSt V0 n0 a len cap B Z E ev w.drew) :=
  ⟨h.out.cur.drew, h.out.dat, h.out.zer, h.out.bel.drew, h.out.hn, h.out.eB, h.out.zB⟩
theorem ErSt.alloc {V0 : World} {n0 : Nat} {a : Option Addr} {len cap B Z E : Nat} {ev : Array Value} {w : World} (h : Hid (ErSt V0 n0 a len cap B Z E ev w)) (o : Obj) : Hid (ErSt V0 n0 a len cap B Z E ev (w.alloc o)) :=
  ⟨h.out.cur.alloc o, h.out.dat.alloc o, h.out.zer.alloc o, h.out.bel.alloc h.out.bel.size o, h.out.hn, h.out.eB, h.out.zB⟩
/-- A list of ints to pick from, each of which is one of R. -/
theorem pickRow (n0 : Nat) (W : World) (a : Option Addr) (len cap B : Nat) (L k c2 : Nat) (R : Int → Prop) (hlen : len ≤ maxLen) (hk : 0 < k) (hk2 : k ≤ 100000) (hL : L < W.heap.size) (hLB : L ≠ B) (hz : ∀ j, j < k → ∃ z, R z ∧ W.cell? ⟨L, j, none⟩ = some (.int .i64 z)) (hC : Cur n0 W a len cap B) :
    Calls Tryz.prog 40 #[.pointer (some ⟨B, 0, none⟩), .slice (some ⟨L, 0, none⟩) k c2] W fun e W' => ∃ z : Int, e = .returned (.int .i64 z) ∧ R z ∧ Cur n0 W' a len cap B ∧ W.grownBy W' (some B) := by
  obtain ⟨zs, hzs⟩ : ∃ zs : Nat → Int, ∀ j, j < k → R (zs j) ∧ W.cell? ⟨L, j, none⟩ = some (.int .i64 (zs j)) := by
    refine ⟨fun j => if h : j < k then Classical.choose (hz j h) else 0, fun j hj => ?_⟩
    simp only [hj, dif_pos]
    exact Classical.choose_spec (hz j hj)
  refine (l01PickInt n0 W a len cap B L k c2 zs hlen hk hk2 hL hLB (fun j hj => (hzs j hj).2) hC).mono ?_
  rintro e W' ⟨j, hj, he, hC', hG⟩
  exact ⟨zs j, he, (hzs j hj).1, hC', hG⟩
theorem wrap_in (x : Int) : I64 (IntKind.i64.wrap x) := by
  rw [PlainAid.i64_is]
  unfold I64 wrap64
  omega
theorem wrap_in' (x : Int) : I64 (wrap64 x) := by
  unfold I64 wrap64
  omega

set_option maxRecDepth 100000 in
set_option maxHeartbeats 2000000 in
theorem drawEraOk (W : World) (a : Option Addr) (len cap : Nat) (hlen : len ≤ maxLen) (hcode : CodeAt W.heap.size W a len) :
    Calls Tryz.prog 6 #[.slice a len cap] W fun e W' => ∃ (s : ByteArray) (st ad cy : Int), e = .returned (.agg #[.string s, .int .i64 st, .int .i64 ad, .int .i64 cy]) ∧ s.size ≤ 16 ∧ Below W.heap.size W W' := by
  have HC := hideP hcode
  clear hcode
  go_enter Tryz.func6, Tryz.ntmps6
  go_wp2_with fail
  obtain ⟨V, hV⟩ : ∃ V, V = W.alloc (.cells #[.string ⟨#[]⟩, .int .i64 0, .int .i64 0, .int .i64 0] 25) := ⟨_, rfl⟩
  have BV : Hid (Below W.heap.size W V) := by unfold Hid; rw [hV]; exact (Below.refl _ _).alloc (Nat.le_refl _) _
  have ZV : Hid (Blk V W.heap.size #[.string ⟨#[]⟩, .int .i64 0, .int .i64 0, .int .i64 0] 25) := by unfold Hid; rw [hV]; exact Blk.new W _ _
  have hVs : V.heap.size = W.heap.size + 1 := by rw [hV, size_new]
  have HVs := hideP hVs
  rw [← hV]
  clear hV hVs
  refine (l01New V a len cap hlen (HC.out.up BV.out)).mono ?_
  rintro e W1 ⟨B, rfl, hC1, hb1⟩
  have HK1 := hideP hC1
  have HB1 := hideP hb1
  clear hC1 hb1
  go_wp2_with fail
  refine (l07Era V.heap.size _ a len cap B hlen HK1.out).mono ?_
  rintro e W2 ⟨s, st, ad, cy, rfl, hsz, _, hC2, hG2⟩
  have HZ2 : Hid (Blk W2 W.heap.size #[.string ⟨#[]⟩, .int .i64 0, .int .i64 0, .int .i64 0] 25) := (ZV.out.below HB1.out ZV.out.lt).grown hG2 (by have := HK1.out.lo; have := HVs.out; omega)
  have HB2 : Hid (Below W.heap.size W W2) := BV.out.trans ((below_grownBy HB1.out hG2 HB1.out.size HK1.out.lo).mono BV.out.size)
  have S9 : Hid (Blk W2 W.heap.size #[.string ⟨#[]⟩, .int .i64 0, .int .i64 0, .int .i64 0] 25 ∧ Below W.heap.size W W2) := ⟨HZ2.out, HB2.out⟩
  clear hC2 hG2
  have z0 := HZ2.out.cell 0 rfl
  have z1 := HZ2.out.cell 1 rfl
  have z2 := HZ2.out.cell 2 rfl
  have z3 := HZ2.out.cell 3 rfl
  have f0 := HZ2.out.thaw 0
  have f1 := HZ2.out.thaw 1
  have f2 := HZ2.out.thaw 2
  have f3 := HZ2.out.thaw 3
  go_wp2_with fail
  obtain ⟨W9, e9⟩ : ∃ W9, W9 = ((((W2.setCell ⟨W.heap.size, 0, none⟩ (.string s)).setCell ⟨W.heap.size, 1, none⟩ (.int .i64 st)).setCell ⟨W.heap.size, 2, none⟩ (.int .i64 ad)).setCell ⟨W.heap.size, 3, none⟩ (.int .i64 cy)) := ⟨_, rfl⟩
  have Z9 : Blk W9 W.heap.size #[.string s, .int .i64 st, .int .i64 ad, .int .i64 cy] 25 := by rw [e9]; exact ((((S9.out.1.set 0 _).set 1 _).set 2 _).set 3 _)
  have B9 : Below W.heap.size W W9 := by rw [e9]; exact (below_store (below_store (below_store (below_store S9.out.2 _ (Nat.le_refl _)) _ (Nat.le_refl _)) _ (Nat.le_refl _)) _ (Nat.le_refl _))
  rw [← e9]
  clear e9
  have y0 := Z9.cell 0 rfl
  have y1 := Z9.cell 1 rfl
  have y2 := Z9.cell 2 rfl
  have y3 := Z9.cell 3 rfl
  refine bodyPost_ret (by simp [results, Tryz.results6, go_sem, y0, y1, y2, y3]; try rfl) rfl ?_
  exact ⟨_, _, _, _, rfl, hsz, B9⟩

set_option maxRecDepth 100000 in
set_option maxHeartbeats 4000000 in
theorem drawEraYear (W : World) (a : Option Addr) (len cap : Nat) (hlen : len ≤ maxLen) (hcode : CodeAt W.heap.size W a len) :
    Calls Tryz.prog 7 #[.slice a len cap] W fun e W' => ∃ (c : Int) (s : ByteArray) (st ad cy n : Int), e = .returned (.tuple #[.int .i64 c, .agg #[.string s, .int .i64 st, .int .i64 ad, .int .i64 cy], .int .i64 n]) ∧ s.size ≤ 16 ∧ Below W.heap.size W W' := by
  have HC := hideP hcode
  clear hcode
  go_enter Tryz.func7, Tryz.ntmps7
  go_wp2_with fail
  obtain ⟨V, hV⟩ : ∃ V, V = W.alloc (.cells #[.string ⟨#[]⟩, .int .i64 0, .int .i64 0, .int .i64 0] 25) := ⟨_, rfl⟩
  have BV : Hid (Below W.heap.size W V) := by unfold Hid; rw [hV]; exact (Below.refl _ _).alloc (Nat.le_refl _) _
  have ZV : Hid (Blk V W.heap.size #[.string ⟨#[]⟩, .int .i64 0, .int .i64 0, .int .i64 0] 25) := by unfold Hid; rw [hV]; exact Blk.new W _ _
  have hVs : V.heap.size = W.heap.size + 1 := by rw [hV, size_new]
  have HVs := hideP hVs
  rw [← hV]
  clear hV hVs
  refine (l01New V a len cap hlen (HC.out.up BV.out)).mono ?_
  rintro e W1 ⟨B, rfl, hC1, hb1⟩
  have HK1 := hideP hC1
  have HB1 := hideP hb1
  clear hC1 hb1
  go_wp2_with fail
  refine (l01Below V.heap.size _ a len cap B 2 hlen (by omega) HK1.out).mono ?_
  rintro e W2 ⟨c, rfl, _, _, hC2, hG2⟩
  have HK2 := hideP hC2
  have HB2 : Hid (Below V.heap.size V W2) := below_grownBy HB1.out hG2 HB1.out.size HK1.out.lo
  have HZ2 : Hid (Blk W2 W.heap.size #[.string ⟨#[]⟩, .int .i64 0, .int .i64 0, .int .i64 0] 25) := (ZV.out.below HB1.out ZV.out.lt).grown hG2 (by have := HK1.out.lo; have := HVs.out; omega)
  clear hC2 hG2
  go_wp2_with fail
  refine (l07Era V.heap.size _ a len cap B hlen HK2.out).mono ?_
  rintro e W3 ⟨s, st, ad, cy, rfl, hsz, had, hC3, hG3⟩
  have S4 : Hid (ErSt W V.heap.size a len cap B W.heap.size W3.heap.size #[.string s, .int .i64 st, .int .i64 ad, .int .i64 cy] (W3.alloc (.cells #[.string s, .int .i64 st, .int .i64 ad, .int .i64 cy] 25))) := ⟨hC3.alloc _, Blk.new W3 _ _, ((HZ2.out.grown hG3 (by have := HK1.out.lo; have := HVs.out; omega)).alloc _), BV.out.trans (((below_grownBy HB2.out hG3 HB2.out.size HK2.out.lo).alloc (below_grownBy HB2.out hG3 HB2.out.size HK2.out.lo).size _).mono BV.out.size), BV.out.size, (by have := hC3.hi; omega), (by have := HK1.out.lo; have := HVs.out; omega)⟩
  have hEZ : ¬ W3.heap.size = W.heap.size := by have := hC3.hi; have := HK1.out.lo; have := HVs.out; omega
  have hZE : ¬ W.heap.size = W3.heap.size := fun h => hEZ h.symm
  clear hC3 hG3
  go_wp2_with fail
  obtain ⟨W4, e4⟩ : ∃ W4, W4 = W3.alloc (.cells #[.string s, .int .i64 st, .int .i64 ad, .int .i64 cy] 25) := ⟨_, rfl⟩
  rw [← e4] at S4 ⊢
  clear e4
  have S5 := ErSt.drew S4
  have q0 := S4.out.dat.cell 0 rfl
  have q1 := S4.out.dat.cell 1 rfl
  have q2 := S4.out.dat.cell 2 rfl
  have q3 := S4.out.dat.cell 3 rfl
  go_region_held (fun w' => w'.cell? ⟨W3.heap.size, 0, none⟩ = some (.string s) ∧ w'.cell? ⟨W3.heap.size, 1, none⟩ = some (.int .i64 st) ∧ w'.cell? ⟨W3.heap.size, 2, none⟩ = some (.int .i64 ad) ∧ w'.cell? ⟨W3.heap.size, 3, none⟩ = some (.int .i64 cy)) (go_keep) (first | (go_at_call 36; refine (l02Some V.heap.size _ a len cap B hlen (Hid.out (ErSt.drew S4)).cur).mono ?_; rintro e W6 ⟨n, rfl, hn, hC6, hG6⟩; have S9 := ErSt.step S5 hG6 hC6; have q0 := (Hid.out S9).dat.cell 0 rfl; have q1 := (Hid.out S9).dat.cell 1 rfl; have q2 := (Hid.out S9).dat.cell 2 rfl; have q3 := (Hid.out S9).dat.cell 3 rfl; have z0 := (Hid.out S9).zer.cell 0 rfl; have z1 := (Hid.out S9).zer.cell 1 rfl; have z2 := (Hid.out S9).zer.cell 2 rfl; have z3 := (Hid.out S9).zer.cell 3 rfl; have f0 := (Hid.out S9).zer.thaw 0; have f1 := (Hid.out S9).zer.thaw 1; have f2 := (Hid.out S9).zer.thaw 2; have f3 := (Hid.out S9).zer.thaw 3; clear hC6 hG6 hn))
  go_wp2_with fail
  obtain ⟨W9, e9⟩ : ∃ W9, W9 = ((((W6.setCell ⟨W.heap.size, 0, none⟩ (.string s)).setCell ⟨W.heap.size, 1, none⟩ (.int .i64 st)).setCell ⟨W.heap.size, 2, none⟩ (.int .i64 ad)).setCell ⟨W.heap.size, 3, none⟩ (.int .i64 cy)) := ⟨_, rfl⟩
  have Z9 : Blk W9 W.heap.size #[.string s, .int .i64 st, .int .i64 ad, .int .i64 cy] 25 := by rw [e9]; exact ((((S9.out.zer.set 0 _).set 1 _).set 2 _).set 3 _)
  have B9 : Below W.heap.size W W9 := by rw [e9]; exact (below_store (below_store (below_store (below_store S9.out.bel _ (Nat.le_refl _)) _ (Nat.le_refl _)) _ (Nat.le_refl _)) _ (Nat.le_refl _))
  rw [← e9]
  clear e9
  have y0 := Z9.cell 0 rfl
  have y1 := Z9.cell 1 rfl
  have y2 := Z9.cell 2 rfl
  have y3 := Z9.cell 3 rfl
  refine bodyPost_ret (by simp [results, Tryz.results7, go_sem, y0, y1, y2, y3]; try rfl) rfl ?_
  exact ⟨_, _, _, _, _, _, rfl, hsz, B9⟩
end Go.Proofs.YtifekkehbaegiaaGreatDoor.ctr

namespace Go.Proofs.YtifekkehbaegiaaGreatDoor.ctr
open Go.RowKit

theorem ErSt.curOf {V0 : World} {n0 : Nat} {a : Option Addr} {len cap B Z E : Nat} {ev : Array Value} {w : World} (h : Hid (ErSt V0 n0 a len cap B Z E ev w)) : Cur n0 w a len cap B := h.out.cur
def cals5 : List Int := [0, 1, 0, 1, 2]

set_option maxRecDepth 100000 in
set_option maxHeartbeats 8000000 in
theorem drawEraSpan (W : World) (a : Option Addr) (len cap : Nat) (hlen : len ≤ maxLen) (hcode : CodeAt W.heap.size W a len) :
    Calls Tryz.prog 10 #[.slice a len cap] W fun e W' => ∃ (c : Int) (s : ByteArray) (st ad cy n : Int), e = .returned (.tuple #[.int .i64 c, .agg #[.string s, .int .i64 st, .int .i64 ad, .int .i64 cy], .int .i64 n]) ∧ s.size ≤ 16 ∧ I64 n ∧ Below W.heap.size W W' := by
  have HC := hideP hcode
  clear hcode
  go_enter Tryz.func10, Tryz.ntmps10
  go_wp2_with fail
  obtain ⟨V, hV⟩ : ∃ V, V = W.alloc (.cells #[.string ⟨#[]⟩, .int .i64 0, .int .i64 0, .int .i64 0] 25) := ⟨_, rfl⟩
  have BV : Hid (Below W.heap.size W V) := by unfold Hid; rw [hV]; exact (Below.refl _ _).alloc (Nat.le_refl _) _
  have ZV : Hid (Blk V W.heap.size #[.string ⟨#[]⟩, .int .i64 0, .int .i64 0, .int .i64 0] 25) := by unfold Hid; rw [hV]; exact Blk.new W _ _
  have hVs : V.heap.size = W.heap.size + 1 := by rw [hV, size_new]
  have HVs := hideP hVs
  rw [← hV]
  clear hV hVs
  refine (l01New V a len cap hlen (HC.out.up BV.out)).mono ?_
  rintro e W1 ⟨B, rfl, hC1, hb1⟩
  have HK1 := hideP hC1
  have HB1 := hideP hb1
  clear hC1 hb1
  go_wp2_with fail
  refine (l01PickInt _ _ a len cap B W1.heap.size 5 5 (fun j => cals5.getD j 0) hlen (by omega) (by omega) (by rw [size_new]; omega) (Nat.ne_of_gt HK1.out.hi) (fun j hj => alloc_ints W1 cals5 _ j hj) (HK1.out.alloc _)).mono ?_
  rintro e W2 ⟨j2, hj2, rfl, hC2, hG2⟩
  have HK2 := hideP hC2
  have HB2 : Hid (Below V.heap.size V W2) := below_grownBy (HB1.out.alloc HB1.out.size _) hG2 (by rw [size_new]; have := HB1.out.size; omega) HK1.out.lo
  have HZ2 : Hid (Blk W2 W.heap.size #[.string ⟨#[]⟩, .int .i64 0, .int .i64 0, .int .i64 0] 25) := ((ZV.out.below HB1.out ZV.out.lt).alloc _).grown hG2 (by have := HK1.out.lo; have := HVs.out; omega)
  clear hC2 hG2
  generalize cals5.getD j2 0 = c at *
  go_wp2_with fail
  refine (l07Era V.heap.size _ a len cap B hlen HK2.out).mono ?_
  rintro e W3 ⟨s, st, ad, cy, rfl, hsz, had, hC3, hG3⟩
  have S4 : Hid (ErSt W V.heap.size a len cap B W.heap.size W3.heap.size #[.string s, .int .i64 st, .int .i64 ad, .int .i64 cy] (W3.alloc (.cells #[.string s, .int .i64 st, .int .i64 ad, .int .i64 cy] 25))) := ⟨hC3.alloc _, Blk.new W3 _ _, ((HZ2.out.grown hG3 (by have := HK1.out.lo; have := HVs.out; omega)).alloc _), BV.out.trans (((below_grownBy HB2.out hG3 HB2.out.size HK2.out.lo).alloc (below_grownBy HB2.out hG3 HB2.out.size HK2.out.lo).size _).mono BV.out.size), BV.out.size, (by have := hC3.hi; omega), (by have := HK1.out.lo; have := HVs.out; omega)⟩
  have hEZ : ¬ W3.heap.size = W.heap.size := by have := hC3.hi; have := HK1.out.lo; have := HVs.out; omega
  have hZE : ¬ W.heap.size = W3.heap.size := fun h => hEZ h.symm
  clear hC3 hG3
  go_wp2_with fail
  obtain ⟨W4, e4⟩ : ∃ W4, W4 = W3.alloc (.cells #[.string s, .int .i64 st, .int .i64 ad, .int .i64 cy] 25) := ⟨_, rfl⟩
  rw [← e4] at S4 ⊢
  clear e4
  have S5 := ErSt.drew S4
  have q0 := S4.out.dat.cell 0 rfl
  have q1 := S4.out.dat.cell 1 rfl
  have q2 := S4.out.dat.cell 2 rfl
  have q3 := S4.out.dat.cell 3 rfl
  go_region_held (fun w' => w'.cell? ⟨W3.heap.size, 0, none⟩ = some (.string s) ∧ w'.cell? ⟨W3.heap.size, 1, none⟩ = some (.int .i64 st) ∧ w'.cell? ⟨W3.heap.size, 2, none⟩ = some (.int .i64 ad) ∧ w'.cell? ⟨W3.heap.size, 3, none⟩ = some (.int .i64 cy)) (go_keep) (first
    | (go_at_call 41; refine (l02AnyYear V.heap.size _ a len cap B hlen (ErSt.curOf (V0 := W) (Z := W.heap.size) (E := W3.heap.size) (ev := #[.string s, .int .i64 st, .int .i64 ad, .int .i64 cy]) (by assumption))).mono ?_; rintro e W6 ⟨y, rfl, hC6, hG6⟩; have S9 := ErSt.step (by assumption) hG6 hC6; have q0 := (Hid.out S9).dat.cell 0 rfl; have q1 := (Hid.out S9).dat.cell 1 rfl; have q2 := (Hid.out S9).dat.cell 2 rfl; have q3 := (Hid.out S9).dat.cell 3 rfl; have z0 := (Hid.out S9).zer.cell 0 rfl; have z1 := (Hid.out S9).zer.cell 1 rfl; have z2 := (Hid.out S9).zer.cell 2 rfl; have z3 := (Hid.out S9).zer.cell 3 rfl; have f0 := (Hid.out S9).zer.thaw 0; have f1 := (Hid.out S9).zer.thaw 1; have f2 := (Hid.out S9).zer.thaw 2; have f3 := (Hid.out S9).zer.thaw 3; clear hC6 hG6)
    | (go_at_call 40; refine (pickRow V.heap.size _ a len cap B _ 10 _ I64 hlen (by omega) (by omega) (by rw [size_new]; omega) (Nat.ne_of_gt (ErSt.curOf (V0 := W) (Z := W.heap.size) (E := W3.heap.size) (ev := #[.string s, .int .i64 st, .int .i64 ad, .int .i64 cy]) (by assumption)).hi) (fun j hj => (by rcases (show j = 0 ∨ j = 1 ∨ j = 2 ∨ j = 3 ∨ j = 4 ∨ j = 5 ∨ j = 6 ∨ j = 7 ∨ j = 8 ∨ j = 9 by omega) with rfl | rfl | rfl | rfl | rfl | rfl | rfl | rfl | rfl | rfl <;> refine ⟨_, ?_, (Blk.new _ _ _).cell _ rfl⟩ <;> first | exact wrap_in _ | exact wrap_in' _ | (unfold I64; omega))) (ErSt.curOf (V0 := W) (Z := W.heap.size) (E := W3.heap.size) (ev := #[.string s, .int .i64 st, .int .i64 ad, .int .i64 cy]) (ErSt.alloc (by assumption) _))).mono ?_; rintro e W7 ⟨n, rfl, hn, hC7, hG7⟩; have S9 := ErSt.step (ErSt.alloc (by assumption) _) hG7 hC7; have q0 := (Hid.out S9).dat.cell 0 rfl; have q1 := (Hid.out S9).dat.cell 1 rfl; have q2 := (Hid.out S9).dat.cell 2 rfl; have q3 := (Hid.out S9).dat.cell 3 rfl; have z0 := (Hid.out S9).zer.cell 0 rfl; have z1 := (Hid.out S9).zer.cell 1 rfl; have z2 := (Hid.out S9).zer.cell 2 rfl; have z3 := (Hid.out S9).zer.cell 3 rfl; have f0 := (Hid.out S9).zer.thaw 0; have f1 := (Hid.out S9).zer.thaw 1; have f2 := (Hid.out S9).zer.thaw 2; have f3 := (Hid.out S9).zer.thaw 3; clear hC7 hG7))
  go_wp2_with fail
  obtain ⟨W9, e9⟩ : ∃ W9, W9 = ((((W7.setCell ⟨W.heap.size, 0, none⟩ (.string s)).setCell ⟨W.heap.size, 1, none⟩ (.int .i64 st)).setCell ⟨W.heap.size, 2, none⟩ (.int .i64 ad)).setCell ⟨W.heap.size, 3, none⟩ (.int .i64 cy)) := ⟨_, rfl⟩
  have Z9 : Blk W9 W.heap.size #[.string s, .int .i64 st, .int .i64 ad, .int .i64 cy] 25 := by rw [e9]; exact ((((S9.out.zer.set 0 _).set 1 _).set 2 _).set 3 _)
  have B9 : Below W.heap.size W W9 := by rw [e9]; exact (below_store (below_store (below_store (below_store S9.out.bel _ (Nat.le_refl _)) _ (Nat.le_refl _)) _ (Nat.le_refl _)) _ (Nat.le_refl _))
  rw [← e9]
  clear e9
  have y0 := Z9.cell 0 rfl
  have y1 := Z9.cell 1 rfl
  have y2 := Z9.cell 2 rfl
  have y3 := Z9.cell 3 rfl
  refine bodyPost_ret (by simp [results, Tryz.results10, go_sem, y0, y1, y2, y3]; try rfl) rfl ?_
  exact ⟨_, _, _, _, _, _, rfl, hsz, hn, B9⟩

theorem drawFindEra (W : World) (a : Option Addr) (len cap : Nat) (hlen : len ≤ maxLen) (hcode : CodeAt W.heap.size W a len) :
    Calls Tryz.prog 13 #[.slice a len cap] W fun e W' => ∃ s : ByteArray, e = .returned (.string s) ∧ s.size ≤ 17 ∧ Below W.heap.size W W' := by
  have HC := hideP hcode
  clear hcode
  go_enter Tryz.func13, Tryz.ntmps13
  go_wp2_with fail
  refine (l01New W a len cap hlen HC.out).mono ?_
  rintro e W1 ⟨B, rfl, hC1, hb1⟩
  have HK1 := hideP hC1
  have HB1 := hideP hb1
  clear hC1 hb1
  go_wp2_with fail
  refine (l07Name _ _ a len cap B hlen HK1.out).mono ?_
  rintro e W2 ⟨s, rfl, hs, hC2, hG2⟩
  have HK2 := hideP hC2
  have HB2 : Hid (Below W.heap.size W W2) := below_grownBy HB1.out hG2 HB1.out.size HK1.out.lo
  clear hC2 hG2
  go_wp2
  go_ret
  exact ⟨s, rfl, hs, HB2.out⟩

set_option maxHeartbeats 1000000 in
theorem drawEraText (W : World) (a : Option Addr) (len cap : Nat) (hlen : len ≤ maxLen) (hcode : CodeAt W.heap.size W a len) :
    Calls Tryz.prog 14 #[.slice a len cap] W fun e W' => ∃ (c : Int) (s : ByteArray) (n : Int), e = .returned (.tuple #[.int .i64 c, .string s, .int .i64 n]) ∧ s.size ≤ 17 ∧ Below W.heap.size W W' := by
  have HC := hideP hcode
  clear hcode
  go_enter Tryz.func14, Tryz.ntmps14
  go_wp2_with fail
  refine (l01New W a len cap hlen HC.out).mono ?_
  rintro e W1 ⟨B, rfl, hC1, hb1⟩
  have HK1 := hideP hC1
  have HB1 := hideP hb1
  clear hC1 hb1
  go_wp2_with fail
  refine (l01Below _ _ a len cap B 2 hlen (by omega) HK1.out).mono ?_
  rintro e W2 ⟨c, rfl, _, _, hC2, hG2⟩
  have HK2 := hideP hC2
  have HB2 : Hid (Below W.heap.size W W2) := below_grownBy HB1.out hG2 HB1.out.size HK1.out.lo
  clear hC2 hG2
  go_wp2_with fail
  refine (l07Name _ _ a len cap B hlen HK2.out).mono ?_
  rintro e W3 ⟨s, rfl, hs, hC3, hG3⟩
  have HK3 := hideP hC3
  have HB3 : Hid (Below W.heap.size W W3) := below_grownBy HB2.out hG3 HB2.out.size HK2.out.lo
  clear hC3 hG3
  go_wp2_with fail
  refine (l02Some _ _ a len cap B hlen HK3.out).mono ?_
  rintro e W4 ⟨n, rfl, hn, hC4, hG4⟩
  have HK4 := hideP hC4
  have HB4 : Hid (Below W.heap.size W W4) := below_grownBy HB3.out hG4 HB3.out.size HK3.out.lo
  clear hC4 hG4 hn
  go_wp2
  go_returns
  exact ⟨c, s, n, rfl, hs, HB4.out⟩

theorem yearText_size {y x : Int} (h0 : 0 ≤ y) (h1 : y ≤ 2999) (x0 : 0 ≤ x) (x1 : x ≤ 1) : (yearText y (y + x)).size ≤ 9 := by
  have s1 := dec_size h0 (show y ≤ 9999 by omega)
  have s2 := dec_size (show 0 ≤ y + x by omega) (show y + x ≤ 9999 by omega)
  by_cases h : y = y + x
  · rw [← h, yt_one ⟨h0, by omega⟩]
    omega
  · rw [yt_two ⟨h0, by omega⟩ ⟨by omega, by omega⟩ h, ByteArray.size_append, ByteArray.size_append]
    have : strokeB.size = 1 := rfl
    omega
set_option maxHeartbeats 1000000 in
theorem drawReadYear (W : World) (a : Option Addr) (len cap : Nat) (hlen : len ≤ maxLen) (hcode : CodeAt W.heap.size W a len) :
    Calls Tryz.prog 18 #[.slice a len cap] W fun e W' => ∃ s : ByteArray, e = .returned (.string s) ∧ s.size ≤ 10 ∧ Below W.heap.size W W' := by
  have HC := hideP hcode
  clear hcode
  go_enter Tryz.func18, Tryz.ntmps18
  go_wp2_with fail
  refine (l01New W a len cap hlen HC.out).mono ?_
  rintro e W1 ⟨B, rfl, hC1, hb1⟩
  have HK1 := hideP hC1
  have HB1 := hideP hb1
  clear hC1 hb1
  go_wp2_with fail
  refine (l01Below _ _ a len cap B 3000 hlen (by omega) HK1.out).mono ?_
  rintro e W2 ⟨y, rfl, y0, y1, hC2, hG2⟩
  have HK2 := hideP hC2
  have HB2 : Hid (Below W.heap.size W W2) := below_grownBy HB1.out hG2 HB1.out.size HK1.out.lo
  clear hC2 hG2
  go_wp2_with fail
  refine (l01Below _ _ a len cap B 2 hlen (by omega) HK2.out).mono ?_
  rintro e W3 ⟨x, rfl, x0, x1, hC3, hG3⟩
  have HK3 := hideP hC3
  have HB3 : Hid (Below W.heap.size W W3) := below_grownBy HB2.out hG3 HB2.out.size HK2.out.lo
  clear hC3 hG3
  have hts := yearText_size y0 (by omega) x0 (by omega)
  have KT : ∀ w, Calls Tryz.prog 30 #[.int .i64 y, .int .i64 (y + x)] w fun e w' => e = .returned (.string (yearText y (y + x))) ∧ Below w.heap.size w w' := specYearText y (y + x)
  generalize yearText y (y + x) = t at *
  go_wp2_with fail
  refine (KT _).mono ?_
  rintro e W4 ⟨rfl, hb⟩
  have HK4 := hideP (HK3.out.below hb)
  have HB4 : Hid (Below W.heap.size W W4) := HB3.out.trans (hb.mono HB3.out.size)
  clear hb
  go_wp2_with fail
  refine (l01Bent _ _ a len cap B t hlen (by omega) HK4.out).mono ?_
  rintro e W5 ⟨r, rfl, hr, hC5, hG5⟩
  have HK5 := hideP hC5
  have HB5 : Hid (Below W.heap.size W W5) := below_grownBy HB4.out hG5 HB4.out.size HK4.out.lo
  clear hC5 hG5
  go_wp2
  go_ret
  exact ⟨r, rfl, by omega, HB5.out⟩

set_option maxHeartbeats 2000000 in
theorem drawYearText (W : World) (a : Option Addr) (len cap : Nat) (hlen : len ≤ maxLen) (hcode : CodeAt W.heap.size W a len) :
    Calls Tryz.prog 17 #[.slice a len cap] W fun e W' => ∃ y z : Int, e = .returned (.tuple #[.int .i64 y, .int .i64 z]) ∧ Below W.heap.size W W' := by
  have HC := hideP hcode
  clear hcode
  go_enter Tryz.func17, Tryz.ntmps17
  go_wp2_with fail
  refine (l01New W a len cap hlen HC.out).mono ?_
  rintro e W1 ⟨B, rfl, hC1, hb1⟩
  have HK1 := hideP hC1
  have HB1 := hideP hb1
  clear hC1 hb1
  go_wp2_with fail
  refine (l01Below _ _ a len cap B 3000 hlen (by omega) HK1.out).mono ?_
  rintro e W2 ⟨x, rfl, x0, x1, hC2, hG2⟩
  have HK2 := hideP hC2
  have HB2 : Hid (Below W.heap.size W W2) := below_grownBy HB1.out hG2 HB1.out.size HK1.out.lo
  clear hC2 hG2
  go_wp2_with fail
  refine (pickRow _ _ a len cap B W2.heap.size 7 7 (fun z => -1 ≤ z ∧ z ≤ 10000) hlen (by omega) (by omega) (by rw [size_new]; omega) (Nat.ne_of_gt HK2.out.hi) (fun j hj => (by rcases (show j = 0 ∨ j = 1 ∨ j = 2 ∨ j = 3 ∨ j = 4 ∨ j = 5 ∨ j = 6 by omega) with rfl | rfl | rfl | rfl | rfl | rfl | rfl <;> refine ⟨_, ?_, (Blk.new _ _ _).cell _ rfl⟩ <;> omega)) (HK2.out.alloc _)).mono ?_
  rintro e W3 ⟨y, rfl, hy, hC3, hG3⟩
  have HK3 := hideP hC3
  have HB3 : Hid (Below W.heap.size W W3) := below_grownBy (HB2.out.alloc HB2.out.size _) hG3 (by rw [size_new]; have := HB2.out.size; omega) HK2.out.lo
  clear hC3 hG3
  go_wp2_with fail
  refine (pickRow _ _ a len cap B W3.heap.size 4 4 (fun z => -1 ≤ z ∧ z ≤ 5) hlen (by omega) (by omega) (by rw [size_new]; omega) (Nat.ne_of_gt HK3.out.hi) (fun j hj => (by rcases (show j = 0 ∨ j = 1 ∨ j = 2 ∨ j = 3 by omega) with rfl | rfl | rfl | rfl <;> refine ⟨_, ?_, (Blk.new _ _ _).cell _ rfl⟩ <;> omega)) (HK3.out.alloc _)).mono ?_
  rintro e W4 ⟨z, rfl, hz, hC4, hG4⟩
  have HB4 : Hid (Below W.heap.size W W4) := below_grownBy (HB3.out.alloc HB3.out.size _) hG4 (by rw [size_new]; have := HB3.out.size; omega) HK3.out.lo
  clear hC4 hG4
  go_wp2
  go_returns
  exact ⟨_, _, rfl, HB4.out⟩

/-- The state of DrawEraDays: the cursor and the drawn era's block. -/
structure DaSt (V0 : World) (n0 : Nat) (a : Option Addr) (len cap B E : Nat) (ev : Array Value) (w : World) : Prop where
  cur : Cur n0 w a len cap B
  dat : Blk w E ev 25
  bel : Below V0.heap.size V0 w
  hn : V0.heap.size ≤ n0
  eB : E ≠ B
theorem DaSt.step {V0 : World} {n0 : Nat} {a : Option Addr} {len cap B E : Nat} {ev : Array Value} {w w' : World} (h : Hid (DaSt V0 n0 a len cap B E ev w)) (hG : w.grownBy w' (some B)) (hC : Cur n0 w' a len cap B) : Hid (DaSt V0 n0 a len cap B E ev w') :=
  ⟨hC, h.out.dat.grown hG h.out.eB, below_grownBy h.out.bel hG h.out.bel.size (Nat.le_trans h.out.hn h.out.cur.lo), h.out.hn, h.out.eB⟩
theorem DaSt.below {V0 : World} {n0 : Nat} {a : Option Addr} {len cap B E : Nat} {ev : Array Value} {w w' : World} (h : Hid (DaSt V0 n0 a len cap B E ev w)) (hb : Below w.heap.size w w') : Hid (DaSt V0 n0 a len cap B E ev w') :=
  ⟨h.out.cur.below hb, h.out.dat.below hb h.out.dat.lt, h.out.bel.trans (hb.mono h.out.bel.size), h.out.hn, h.out.eB⟩
theorem DaSt.drew {V0 : World} {n0 : Nat} {a : Option Addr} {len cap B E : Nat} {ev : Array Value} {w : World} (h : Hid (DaSt V0 n0 a len cap B E ev w)) : Hid (DaSt V0 n0 a len cap B E ev w.drew) :=
  ⟨h.out.cur.drew, h.out.dat, h.out.bel.drew, h.out.hn, h.out.eB⟩
theorem DaSt.alloc {V0 : World} {n0 : Nat} {a : Option Addr} {len cap B E : Nat} {ev : Array Value} {w : World} (h : Hid (DaSt V0 n0 a len cap B E ev w)) (o : Obj) : Hid (DaSt V0 n0 a len cap B E ev (w.alloc o)) :=
  ⟨h.out.cur.alloc o, h.out.dat.alloc o, h.out.bel.alloc h.out.bel.size o, h.out.hn, h.out.eB⟩
theorem DaSt.curOf {V0 : World} {n0 : Nat} {a : Option Addr} {len cap B E : Nat} {ev : Array Value} {w : World} (h : Hid (DaSt V0 n0 a len cap B E ev w)) : Cur n0 w a len cap B := h.out.cur
set_option maxRecDepth 100000 in
set_option maxHeartbeats 8000000 in
theorem drawEraDays (W : World) (a : Option Addr) (len cap : Nat) (hlen : len ≤ maxLen) (hcode : CodeAt W.heap.size W a len) :
    Calls Tryz.prog 15 #[.slice a len cap] W fun e W' => ∃ (c : Int) (s : ByteArray) (k f t : Int), e = .returned (.tuple #[.int .i64 c, .string s, .int .i64 k, .int .i64 f, .int .i64 t]) ∧ s.size ≤ 16 ∧ I64 f ∧ I64 t ∧ Below W.heap.size W W' := by
  have HC := hideP hcode
  clear hcode
  go_enter Tryz.func15, Tryz.ntmps15
  go_wp2_with fail
  refine (l01New W a len cap hlen HC.out).mono ?_
  rintro e W1 ⟨B, rfl, hC1, hb1⟩
  have HK1 := hideP hC1
  have HB1 := hideP hb1
  clear hC1 hb1
  go_wp2_with fail
  refine (l01Below _ _ a len cap B 2 hlen (by omega) HK1.out).mono ?_
  rintro e W2 ⟨c, rfl, _, _, hC2, hG2⟩
  have HK2 := hideP hC2
  have HB2 : Hid (Below W.heap.size W W2) := below_grownBy HB1.out hG2 HB1.out.size HK1.out.lo
  clear hC2 hG2
  go_wp2_with fail
  refine (specEras _).mono ?_
  rintro e W3 ⟨v, rfl, hr, hb⟩
  obtain ⟨g, cp, cur, rfl, hg, hf⟩ := hr.blk
  have HK3 := hideP (HK2.out.below hb)
  have HB3 : Hid (Below W.heap.size W W3) := HB2.out.trans (hb.mono HB2.out.size)
  have HF3 := hideP hf
  have h2 := HK2.out.hi
  clear hr hb hf
  go_wp2_with fail
  refine (l01Below _ _ a len cap B 9 hlen (by omega) HK3.out).mono ?_
  rintro e W4 ⟨x, rfl, x0, x1, hC4, hG4⟩
  obtain ⟨j, rfl⟩ := Int.eq_ofNat_of_zero_le x0
  have hj : j < 9 := by omega
  obtain ⟨c0, c1, c2, c3⟩ := (HF3.out.grown hG4 (by omega)).at hj
  have hsz := eraAt_size0 ⟨j, hj⟩
  dsimp only at hsz
  have HB4 : Hid (Below W.heap.size W W4) := below_grownBy HB3.out hG4 HB3.out.size HK3.out.lo
  have HK4 := hideP hC4
  clear hC4 hG4 HF3
  generalize eraAt j = er at *
  obtain ⟨s, st, ad, cy⟩ := er
  dsimp only at c0 c1 c2 c3 hsz
  have S5 : Hid (DaSt W W.heap.size a len cap B W4.heap.size #[.string s, .int .i64 st, .int .i64 ad, .int .i64 cy] (W4.alloc (.cells #[.string s, .int .i64 st, .int .i64 ad, .int .i64 cy] 25))) := ⟨HK4.out.alloc _, Blk.new W4 _ _, HB4.out.alloc HB4.out.size _, Nat.le_refl _, (by have := HK4.out.hi; omega)⟩
  go_wp2_with fail
  clear c0 c1 c2 c3
  refine (l02Good _ _ a len cap B hlen (DaSt.curOf S5)).mono ?_
  rintro e W6 ⟨p, y, m, d, rfl, hC6, hG6⟩
  have S6 := DaSt.step S5 hG6 hC6
  clear hC6 hG6
  have KD := specDayOf p y m d
  obtain ⟨n0, n1⟩ := dayOf_bound p y m d
  generalize dayOf p y m d = n at *
  go_wp2_with fail
  refine (KD _).mono ?_
  rintro e W7 ⟨rfl, hb⟩
  have S7 := DaSt.below S6 hb
  clear hb
  have q0 := S7.out.dat.cell 0 rfl
  have q1 := S7.out.dat.cell 1 rfl
  have q2 := S7.out.dat.cell 2 rfl
  have q3 := S7.out.dat.cell 3 rfl
  have KY := fun w => specEraYear c s st ad cy n w (by unfold maxLen; omega)
  obtain ⟨k0, k1⟩ := eraYr_bound c s st ad cy n
  unfold eraR at KY
  generalize (eraYr c s st ad cy n).1 = k at *
  generalize (eraYr c s st ad cy n).2 = ok at *
  go_wp2_with fail
  refine (KY _).mono ?_
  rintro e W8 ⟨rfl, hb⟩
  have S8 := DaSt.below S7 hb
  clear hb q0 q1 q2 q3
  go_wp2_with fail
  refine (l01Below _ _ a len cap B 40 hlen (by omega) (DaSt.curOf S8)).mono ?_
  rintro e W9 ⟨x, rfl, x0, x1, hC9, hG9⟩
  have S10 := DaSt.step S8 hG9 hC9
  clear hC9 hG9
  go_wp2_with fail
  have S11 := DaSt.drew S10
  have q0 := S10.out.dat.cell 0 rfl
  have q1 := S10.out.dat.cell 1 rfl
  have q2 := S10.out.dat.cell 2 rfl
  have q3 := S10.out.dat.cell 3 rfl
  clear S5 S6 S7 S8
  go_region_held (fun w' => w'.cell? ⟨W4.heap.size, 0, none⟩ = some (.string s) ∧ w'.cell? ⟨W4.heap.size, 1, none⟩ = some (.int .i64 st) ∧ w'.cell? ⟨W4.heap.size, 2, none⟩ = some (.int .i64 ad) ∧ w'.cell? ⟨W4.heap.size, 3, none⟩ = some (.int .i64 cy)) (go_keep) (first
    | (go_at_call 35; refine (l01Below W.heap.size _ a len cap B 2 hlen (by omega) (DaSt.curOf (V0 := W) (E := W4.heap.size) (ev := #[.string s, .int .i64 st, .int .i64 ad, .int .i64 cy]) (DaSt.alloc (by assumption) _))).mono ?_; rintro e Wa ⟨xa, rfl, xa0, xa1, hCa, hGa⟩; have S9 := DaSt.step (DaSt.alloc (by assumption) _) hGa hCa; have R9 := hideP ((Blk.new _ _ _).grown hGa (Nat.ne_of_gt (DaSt.curOf (V0 := W) (E := W4.heap.size) (ev := #[.string s, .int .i64 st, .int .i64 ad, .int .i64 cy]) (by assumption)).hi)); have q0 := (Hid.out S9).dat.cell 0 rfl; have q1 := (Hid.out S9).dat.cell 1 rfl; have q2 := (Hid.out S9).dat.cell 2 rfl; have q3 := (Hid.out S9).dat.cell 3 rfl; clear hCa hGa)
    | (go_at_call 35; refine (l01Below W.heap.size _ a len cap B 2 hlen (by omega) (DaSt.curOf (V0 := W) (E := W4.heap.size) (ev := #[.string s, .int .i64 st, .int .i64 ad, .int .i64 cy]) (by assumption))).mono ?_; rintro e Wa ⟨xa, rfl, xa0, xa1, hCa, hGa⟩; have S9 := DaSt.step (by assumption) hGa hCa; have q0 := (Hid.out S9).dat.cell 0 rfl; have q1 := (Hid.out S9).dat.cell 1 rfl; have q2 := (Hid.out S9).dat.cell 2 rfl; have q3 := (Hid.out S9).dat.cell 3 rfl; clear hCa hGa)
    | (go_at_call 40; refine (pickRow W.heap.size _ a len cap B _ 6 _ (fun z => -1 ≤ z ∧ z ≤ 800) hlen (by omega) (by omega) (by rw [size_new]; omega) (Nat.ne_of_gt (DaSt.curOf (V0 := W) (E := W4.heap.size) (ev := #[.string s, .int .i64 st, .int .i64 ad, .int .i64 cy]) (by assumption)).hi) (fun j hj => (by rcases (show j = 0 ∨ j = 1 ∨ j = 2 ∨ j = 3 ∨ j = 4 ∨ j = 5 by omega) with rfl | rfl | rfl | rfl | rfl | rfl <;> refine ⟨_, ?_, (Blk.new _ _ _).cell _ rfl⟩ <;> omega)) (DaSt.curOf (V0 := W) (E := W4.heap.size) (ev := #[.string s, .int .i64 st, .int .i64 ad, .int .i64 cy]) (DaSt.alloc (by assumption) _))).mono ?_; rintro e Wb ⟨z, rfl, hz, hCb, hGb⟩; have S9 := DaSt.step (DaSt.alloc (by assumption) _) hGb hCb; have q0 := (Hid.out S9).dat.cell 0 rfl; have q1 := (Hid.out S9).dat.cell 1 rfl; have q2 := (Hid.out S9).dat.cell 2 rfl; have q3 := (Hid.out S9).dat.cell 3 rfl; clear hCb hGb)
    | (go_at_call 40; refine (pickRow W.heap.size _ a len cap B _ 6 _ (fun z => -1 ≤ z ∧ z ≤ 800) hlen (by omega) (by omega) R9.out.lt (Nat.ne_of_gt (DaSt.curOf S11).hi) (fun j hj => (by rcases (show j = 0 ∨ j = 1 ∨ j = 2 ∨ j = 3 ∨ j = 4 ∨ j = 5 by omega) with rfl | rfl | rfl | rfl | rfl | rfl <;> refine ⟨_, ?_, R9.out.cell _ rfl⟩ <;> omega)) (DaSt.curOf (V0 := W) (E := W4.heap.size) (ev := #[.string s, .int .i64 st, .int .i64 ad, .int .i64 cy]) (by assumption))).mono ?_; rintro e Wb ⟨z, rfl, hz, hCb, hGb⟩; have S9 := DaSt.step (by assumption) hGb hCb; have q0 := (Hid.out S9).dat.cell 0 rfl; have q1 := (Hid.out S9).dat.cell 1 rfl; have q2 := (Hid.out S9).dat.cell 2 rfl; have q3 := (Hid.out S9).dat.cell 3 rfl; clear hCb hGb))
  all_goals go_wp2
  all_goals go_returns
  all_goals exact ⟨_, _, _, _, _, rfl, hsz, ⟨by omega, by omega⟩, wrap_in _, S9.out.bel⟩
end Go.Proofs.YtifekkehbaegiaaGreatDoor.ctr
