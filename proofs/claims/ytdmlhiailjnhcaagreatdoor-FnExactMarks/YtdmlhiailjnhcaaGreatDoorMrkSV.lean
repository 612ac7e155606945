/- The model's Marks. -/
import Derived.Test.YtdmlhiailjnhcaaGreatDoorJnVbp
import Derived.Test.YtdmlhiailjnhcaaGreatDoorMkdSV
import Derived.Test.YtdmlhiailjnhcaaGreatDoorJnVbm
import Derived.Test.YtdmlhiailjnhcaaGreatDoorJnVad
namespace Go.Proofs.YtdmlhiailjnhcaaGreatDoor.ctr
open Go.RowKit
set_option linter.unusedSimpArgs false
set_option maxRecDepth 100000 in
set_option maxHeartbeats 16000000 in
theorem specMarks (v : Value) (r : Rgm) (n k : Int) (w : World) (h : GRow w v r) (hf : -9223372036854775808 ≤ r.fr) (ht : r.to ≤ 9223372036854775807) : CR 18 #[v, .int .i64 n, .int .i64 k] w (.int .i64 (marksP r n k)) := by
  have hG := h
  obtain ⟨v1, v2, v3, rfl, _⟩ := h
  obtain ⟨W0, hW0, hD, hBl⟩ := box7 w (.string r.name) (.int .i64 r.fr) (.int .i64 r.to) v1 v2 v3 (.int .i64 r.rule) 38
  obtain ⟨d0, d1, d2, d3, d4, d5, d6⟩ := sevenL hD
  have HW0 := hideP hW0
  have HBl := hideP hBl
  have KM : ∀ (j : Nat), j < 4 → ∀ (z : Later W0), CR 15 #[.agg #[.string r.name, .int .i64 r.fr, .int .i64 r.to, v1, v2, v3, .int .i64 r.rule], .int .i64 n, .int .i64 k, .int .i64 (j : Int)] z.w (.tuple #[sayV (mkdS r n k (j : Int)), .bool (tellK r n k)]) := fun j hj z => by
    have q := specMarked _ r n k (j : Int) z.w (hG.below (HBl.out z)) hf ht
    rw [show mkdB r n k (j : Int) = tellK r n k by unfold mkdB; rw [decide_eq_true (by omega), decide_eq_true (by omega)]; exact Bool.and_true _] at q
    exact q
  have KD : ∀ (m : Int) (z : Later W0), Calls Tryz.prog 48 #[.agg #[.string r.name, .int .i64 r.fr, .int .i64 r.to, v1, v2, v3, .int .i64 r.rule], sayV (mkdS r n k m)] z.w fun e w' => ∃ o, e = .returned o ∧ MovRow z.w w' o (daysSaid r (mkdS r n k m)) ∧ Below z.w.heap.size z.w w' := fun m z => specDaysSaid _ r (mkdS r n k m) z.w (hG.below (HBl.out z)) hf ht
  obtain ⟨A, hA⟩ : ∃ A, A = marksP r n k := ⟨_, rfl⟩
  have HNo : Hid (tellK r n k = false → A = -1) := fun h => hA.trans (marks_no h)
  have HM : Hid (tellK r n k = true → ∀ j : Nat, j < 4 → (∀ i, i < j → decide (daysSaid r (mkdS r n k (i : Int)) = [n]) = false) → decide (daysSaid r (mkdS r n k (j : Int)) = [n]) = true → A = (j : Int)) := fun hk j hj hf ht => hA.trans (marks_hit hk hj hf ht)
  have HN : Hid ((∀ i : Nat, i < 4 → decide (daysSaid r (mkdS r n k (i : Int)) = [n]) = false) → A = -1) := fun hf => hA.trans (marks_none hf)
  rw [← hA]
  clear hA hW0 hD hBl hG hf ht
  obtain ⟨DS, hDS⟩ : ∃ DS : Int → List Int, DS = fun m => daysSaid r (mkdS r n k m) := ⟨_, rfl⟩
  have e0 : ∀ m, daysSaid r (mkdS r n k m) = DS m := fun m => by rw [hDS]
  simp only [e0] at KD HM HN
  clear e0 hDS
  generalize tellK r n k = tk at *
  generalize mkdS r n k = S at *
  go_enter Tryz.func18, Tryz.ntmps18
  go_wp2_with fail
  rw [← HW0.out]
  go_loopw [7] (fun i wr => ∃ j : Nat, j ≤ 4 ∧ i = .int .i64 (j : Int) ∧ Hid (∀ i : Nat, i < j → decide (DS (i : Int) = [n]) = false) ∧ ∃ x : Later W0, wr = x.w) (fun i _ => (4 - intOf i).toNat)
  case atStart => exact ⟨0, by omega, rfl, fun i h => absurd h (Nat.not_lt_zero _), ⟨W0, Below.refl _ _⟩, rfl⟩
  case round =>
    obtain ⟨j, hj, rfl, HF, x0, rfl⟩ := hrel
    by_cases h3 : (j : Int) ≤ 3
    case neg =>
      obtain rfl : A = -1 := HN.out (fun i hi => HF.out i (by omega))
      clear HM HNo KM KD
      go_wp2
      go_ret
      exact ⟨rfl, HBl.out x0⟩
    have hj4 : j < 4 := by omega
    have KMj := KM j hj4
    have KDj := KD (j : Int)
    have HMj : Hid (tk = true → decide (DS (j : Int) = [n]) = true → A = (j : Int)) := fun hk ht => HM.out hk j hj4 HF.out ht
    have HFj : Hid (decide (DS (j : Int) = [n]) = false → ∀ i : Nat, i < j + 1 → decide (DS (i : Int) = [n]) = false) := fun h i hi => by
      by_cases e : i = j
      · rw [e]; exact h
      · exact HF.out i (by omega)
    clear KM KD HM
    generalize S (j : Int) = s at *
    generalize DS (j : Int) = xs at *
    obtain ⟨⟨sk, sm, sd, ⟨sa, sb, sc, st⟩, sf, sp⟩, sy, so, sca⟩ := s
    go_wp2_with fail
    refine lat (KMj x0) fun x1 => ?_
    obtain ⟨x2, hx2, Z2⟩ := x1.fresh #[.int .i64 sk, .int .i64 sm, .int .i64 sd, .int .i64 sa, .int .i64 sb, .int .i64 sc, .bool st, .string sf, .int .i64 sp, .int .i64 sy, .int .i64 so, .int .i64 sca] 44
    have HX2 := hideP hx2
    clear hx2
    go_upto_region 5 with fail
    rw [HX2.out]
    clear HX2 KMj
    cases tk
    · obtain rfl : A = -1 := HNo.out rfl
      go_wp2
      go_ret
      exact ⟨rfl, HBl.out x2⟩
    obtain ⟨y0, y1, y2, y3, y4, y5, y6, y7, y8, y9, y10, y11⟩ := Z2.out.cells12
    go_wp2_with fail
    refine (KDj x2).mono ?_
    rintro e w3 ⟨o, rfl, hm, hb⟩
    obtain ⟨x3, rfl⟩ := x2.next hb
    have hI := hm.row
    obtain ⟨ad, cap, rfl, hc⟩ := hI
    clear hb hm y0 y1 y2 y3 y4 y5 y6 y7 y8 y9 y10 y11 Z2 KDj
    by_cases hl : xs.length = 1
    case neg =>
      have hl1 : ((xs.length : Int) == 1) = false := by simp; omega
      have HF2 := hideP (HFj.out (decide_eq_false (fun h => hl (by rw [h]; rfl))))
      clear HFj HMj HNo HN hl hc
      go_wp2
      exact ⟨⟨j + 1, by omega, by go_num, HF2.out, x3, rfl⟩, by simp [intOf]; omega⟩
    obtain ⟨a, rfl⟩ : ∃ a, xs = [a] := by
      match xs, hl with
      | [a], _ => exact ⟨a, rfl⟩
    obtain ⟨g, rfl, _, hc0⟩ := hc 0 (by simp)
    have hcell : x3.w.cell? ⟨g, 0, none⟩ = some (.int .i64 a) := hc0
    clear hc hc0 hl
    by_cases han : a = n
    · subst han
      have e := HMj.out (by first | rfl | trivial) (by simp)
      clear HFj HMj HNo HN
      go_wp2
      go_ret
      exact ⟨by rw [e]; rfl, HBl.out x3⟩
    · have HF2 := hideP (HFj.out (decide_eq_false (fun h => han (by simpa using h))))
      have hb1 : (a == n) = false := by simp [han]
      clear HFj HMj HNo HN han
      go_wp2
      exact ⟨⟨j + 1, by omega, by go_num, HF2.out, x3, rfl⟩, by simp [intOf]; omega⟩
end Go.Proofs.YtdmlhiailjnhcaaGreatDoor.ctr
