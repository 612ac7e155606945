/- Contract of the model's draw of a table of reigns (l08Reigns), the walk. -/
import Derived.Test.YtchhdoipkimbgaaGreatDoorRgnDrawM
namespace Go.Proofs.YtchhdoipkimbgaaGreatDoor.ctr
open Go.RowKit

set_option maxRecDepth 100000 in
set_option maxHeartbeats 4000000 in
theorem l08Reigns (n0 : Nat) (W : World) (a : Option Addr) (len cap B : Nat) (F : Int) (hlen : len ≤ maxLen) (hC : Cur n0 W a len cap B) :
    Calls Tryz.prog 150 #[.pointer (some ⟨B, 0, none⟩), .int .i64 F] W fun e W' => ∃ v, e = .returned v ∧ RBack W n0 a len cap B v W' := by
  obtain ⟨i0, hi, hz0, hz1, hz2⟩ := info_parts info_rgnT
  have S0 : Hid (RgSt W n0 a len cap B (.slice (some ⟨W.heap.size, 0, none⟩) 0 0) [] (W.alloc (.cells #[] 79))) := ⟨hC.alloc _, rown_empty W, fun k hk => by simp at hk, grown_alloc (grown_refl W _) _, hC.hi⟩
  have hlo := hC.lo
  have hhi := hC.hi
  clear hC
  go_enter Tryz.func150, Tryz.ntmps150
  go_wp2_with fail
  refine (l01Below n0 _ a len cap B 4 hlen (by omega) S0.out.cur).mono ?_
  rintro e W1 ⟨x, rfl, x0, x1, hC1, hG1⟩
  have S1 := RgSt.step S0 hG1 hC1
  clear hC1 hG1 S0
  obtain ⟨m, rfl⟩ := Int.eq_ofNat_of_zero_le x0
  have hm : m ≤ 3 := by omega
  go_wp2
  go_loopw [5, 6, 8] (fun o n i wr => ∃ (k : Nat) (z : Int) (l : List Rgn), k ≤ m ∧ i = .int .i64 (k : Int) ∧ n = .int .i64 z ∧ l.length = k ∧ RgSt W n0 a len cap B o l wr) (fun _ _ i _ => m - (intOf i).toNat)
  case atStart => exact ⟨0, F, [], Nat.zero_le _, rfl, rfl, rfl, S1.out⟩
  case round =>
    obtain ⟨k, z, l, hk, rfl, rfl, hl, hS⟩ := hrel
    have S := hideP hS
    clear hS S1
    by_cases hlt : k < m
    · have hlt' : (k : Int) < (m : Int) := by omega
      go_wp2_with fail
      refine (l01PickInt n0 _ a len cap B wr.heap.size 4 4 (fun j => pick1.getD j 0) hlen (by omega) (by omega) (by rw [size_new]; omega) (Nat.ne_of_gt S.out.cur.hi) (fun j hj => alloc_ints wr pick1 _ j hj) (S.out.cur.alloc _)).mono ?_
      rintro e W2 ⟨j2, hj2, rfl, hC2, hG2⟩
      have S2 := RgSt.step (RgSt.alloc S _) hG2 hC2
      clear hC2 hG2 S
      generalize pick1.getD j2 0 = z2 at *
      go_wp2_with fail
      refine (l01PickInt n0 _ a len cap B W2.heap.size 5 5 (fun j => pick2.getD j 0) hlen (by omega) (by omega) (by rw [size_new]; omega) (Nat.ne_of_gt S2.out.cur.hi) (fun j hj => alloc_ints W2 pick2 _ j hj) (S2.out.cur.alloc _)).mono ?_
      rintro e W3 ⟨j3, hj3, rfl, hC3, hG3⟩
      have S3 := RgSt.step (RgSt.alloc S2 _) hG3 hC3
      clear hC3 hG3 S2
      generalize pick2.getD j3 0 = z3 at *
      have hk3 : k = 0 ∨ k = 1 ∨ k = 2 := by omega
      rcases hk3 with rfl | rfl | rfl
      · have hok : okN ⟨#[111, 116, 116, 111]⟩ := rNames_ok (j := 0) (by omega)
        go_wp2_with (at_builtin; refine wpList_append_own _ rfl _ _ 27 rfl W.heap.size 79 i0 (.agg #[.string ⟨#[]⟩, .int .i64 0, .int .i64 0]) 3 32 Tryz.underlying27 hi hz0 hz1 hz2 rfl (by decide) _ _ _ rfl (RgSt.alloc (RgSt.alloc S3 _) _).out.row ⟨W3.heap.size + 1, 0, none⟩ 1 1 [.string ⟨#[111, 116, 116, 111]⟩, .int .i64 _, .int .i64 _] rfl rfl (cells_three _ _ _ _ _ (by rw [inew])) (by simp [Value.oneCell']) (by unfold maxLen; omega) (by omega) (by have := S3.out.grown.size; rw [inew, inew]; omega) ?_; intro v' w9 hown' hgrow _; have S9 := RgSt.app (RgSt.alloc (RgSt.alloc S3 _) _) ⟨#[111, 116, 116, 111]⟩ _ _ hok hown' hgrow; clear hown' hgrow S3)
        exact ⟨⟨1, _, _, by omega, by go_num, rfl, by simp [hl], S9.out⟩, by simp [intOf]; omega⟩
      · have hok : okN ⟨#[104, 101, 110, 114, 121]⟩ := rNames_ok (j := 1) (by omega)
        go_wp2_with (at_builtin; refine wpList_append_own _ rfl _ _ 27 rfl W.heap.size 79 i0 (.agg #[.string ⟨#[]⟩, .int .i64 0, .int .i64 0]) 3 32 Tryz.underlying27 hi hz0 hz1 hz2 rfl (by decide) _ _ _ rfl (RgSt.alloc (RgSt.alloc S3 _) _).out.row ⟨W3.heap.size + 1, 0, none⟩ 1 1 [.string ⟨#[104, 101, 110, 114, 121]⟩, .int .i64 _, .int .i64 _] rfl rfl (cells_three _ _ _ _ _ (by rw [inew])) (by simp [Value.oneCell']) (by unfold maxLen; omega) (by omega) (by have := S3.out.grown.size; rw [inew, inew]; omega) ?_; intro v' w9 hown' hgrow _; have S9 := RgSt.app (RgSt.alloc (RgSt.alloc S3 _) _) ⟨#[104, 101, 110, 114, 121]⟩ _ _ hok hown' hgrow; clear hown' hgrow S3)
        exact ⟨⟨2, _, _, by omega, by go_num, rfl, by simp [hl], S9.out⟩, by simp [intOf]; omega⟩
      · have hok : okN ⟨#[99, 111, 110, 114, 97, 100]⟩ := rNames_ok (j := 2) (by omega)
        go_wp2_with (at_builtin; refine wpList_append_own _ rfl _ _ 27 rfl W.heap.size 79 i0 (.agg #[.string ⟨#[]⟩, .int .i64 0, .int .i64 0]) 3 32 Tryz.underlying27 hi hz0 hz1 hz2 rfl (by decide) _ _ _ rfl (RgSt.alloc (RgSt.alloc S3 _) _).out.row ⟨W3.heap.size + 1, 0, none⟩ 1 1 [.string ⟨#[99, 111, 110, 114, 97, 100]⟩, .int .i64 _, .int .i64 _] rfl rfl (cells_three _ _ _ _ _ (by rw [inew])) (by simp [Value.oneCell']) (by unfold maxLen; omega) (by omega) (by have := S3.out.grown.size; rw [inew, inew]; omega) ?_; intro v' w9 hown' hgrow _; have S9 := RgSt.app (RgSt.alloc (RgSt.alloc S3 _) _) ⟨#[99, 111, 110, 114, 97, 100]⟩ _ _ hok hown' hgrow; clear hown' hgrow S3)
        exact ⟨⟨3, _, _, by omega, by go_num, rfl, by simp [hl], S9.out⟩, by simp [intOf]; omega⟩
    · obtain rfl : k = m := by omega
      by_cases hm0 : k = 0
      · subst hm0
        have HD := hideP (RgSt.nil S hl)
        go_wp2
        go_ret
        exact ⟨_, rfl, HD.out⟩
      have hk0 : ¬ (k : Int) = 0 := by omega
      obtain ⟨g, c, cu, rfl, hg, hc, hmx, hb, ht⟩ := RgSt.open S (by omega)
      rw [hl] at hc
      have S2 : Hid (RfSt W n0 a len cap B g k wr) := ⟨S.out.cur, ⟨cu, hb⟩, by rw [← hl]; exact RgSt.rgd hb ht S.out.names, S.out.grown, hg, S.out.hB⟩
      clear hb ht S cu
      simp only [hl]
      go_wp2_with fail
      refine (l01Below n0 _ a len cap B k hlen (by omega) S2.out.cur).mono ?_
      rintro e W3 ⟨x, rfl, y0, y1, hC3, hG3⟩
      have S3 := RfSt.step S2 hG3 hC3
      obtain ⟨i, rfl⟩ := Int.eq_ofNat_of_zero_le y0
      have hik : i < k := by omega
      clear hC3 hG3 S2
      go_wp2_with fail
      refine (l01Below n0 _ a len cap B 16 hlen (by omega) S3.out.cur).mono ?_
      rintro e W4 ⟨y, rfl, z0, z1, hC4, hG4⟩
      have S4 := RfSt.step S3 hG4 hC4
      clear hC4 hG4 S3
      obtain ⟨r, ⟨q0, q1, q2⟩, _⟩ := S4.out.rgd i hik
      have f1 := S4.out.thaw (i * 3 + 1)
      have f2 := S4.out.thaw (i * 3 + 2)
      by_cases c0 : y = 0
      · subst c0
        go_wp2_with fail
        refine (l01Pick n0 _ a len cap B W4.heap.size 3 3 (fun j => rOdd.getD j ⟨#[]⟩) hlen (by omega) (by omega) (by rw [size_new]; omega) (Nat.ne_of_gt S4.out.cur.hi) (fun j hj => alloc_strs W4 rOdd _ j hj) (S4.out.cur.alloc _)).mono ?_
        rintro e W5 ⟨j5, hj5, rfl, hC5, hG5⟩
        have S5 := RfSt.step (RfSt.alloc S4 _) hG5 hC5
        have hok := rOdd_ok hj5
        clear hC5 hG5 S4 q0 q1 q2 f1 f2
        generalize rOdd.getD j5 ⟨#[]⟩ = nm at *
        obtain ⟨r5, ⟨p0, _, _⟩, _⟩ := S5.out.rgd i hik
        have g0 := S5.out.thaw (i * 3)
        have HR := hideP (S5.out.back (c := c) (by omega) hc hmx (S5.out.rgd.name hik hok))
        go_wp2
        go_ret
        exact ⟨_, rfl, HR.out⟩
      by_cases c1 : y = 1
      · subst c1
        have HR : ∀ z : Int, Hid (RBack W n0 a len cap B (.slice (some ⟨g, 0, none⟩) k c) (W4.setCell ⟨g, i * 3 + 2, none⟩ (.int .i64 z))) := fun z => S4.out.back (c := c) (by omega) hc hmx (S4.out.rgd.to hik)
        go_wp2
        go_ret
        exact ⟨_, rfl, (HR _).out⟩
      by_cases c2 : y = 2
      · subst c2
        go_wp2_with fail
        refine (l01PickInt n0 _ a len cap B W4.heap.size 3 3 (fun j => pick3.getD j 0) hlen (by omega) (by omega) (by rw [size_new]; omega) (Nat.ne_of_gt S4.out.cur.hi) (fun j hj => alloc_ints W4 pick3 _ j hj) (S4.out.cur.alloc _)).mono ?_
        rintro e W5 ⟨j5, hj5, rfl, hC5, hG5⟩
        have S5 := RfSt.step (RfSt.alloc S4 _) hG5 hC5
        clear hC5 hG5 S4 q0 q1 q2 f1 f2
        generalize pick3.getD j5 0 = z5 at *
        obtain ⟨r5, ⟨_, p0, _⟩, _⟩ := S5.out.rgd i hik
        have g0 := S5.out.thaw (i * 3 + 1)
        have HR : ∀ z : Int, Hid (RBack W n0 a len cap B (.slice (some ⟨g, 0, none⟩) k c) (W5.setCell ⟨g, i * 3 + 1, none⟩ (.int .i64 z))) := fun z => S5.out.back (c := c) (by omega) hc hmx (S5.out.rgd.fr hik)
        go_wp2
        go_ret
        exact ⟨_, rfl, (HR _).out⟩
      by_cases c3 : y = 3
      · subst c3
        have HR : ∀ z : Int, Hid (RBack W n0 a len cap B (.slice (some ⟨g, 0, none⟩) k c) (W4.setCell ⟨g, i * 3 + 2, none⟩ (.int .i64 z))) := fun z => S4.out.back (c := c) (by omega) hc hmx (S4.out.rgd.to hik)
        go_wp2
        go_ret
        exact ⟨_, rfl, (HR _).out⟩
      have HR := hideP (S4.out.done (c := c) (by omega) hc hmx)
      clear q0 q1 q2 f1 f2
      go_wp2
      go_ret
      exact ⟨_, rfl, HR.out⟩
end Go.Proofs.YtchhdoipkimbgaaGreatDoor.ctr
