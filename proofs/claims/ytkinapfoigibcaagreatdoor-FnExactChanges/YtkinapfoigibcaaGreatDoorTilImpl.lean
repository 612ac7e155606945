/- Contracts of the program's firstShared and firstBare: whether two segments share a day, whether a day is bare. -/
import Derived.Test.YtkinapfoigibcaaGreatDoorTilDel
namespace Go.Proofs.YtkinapfoigibcaaGreatDoor.ctr
open Go.RowKit

set_option maxRecDepth 100000 in
set_option maxHeartbeats 2000000 in
theorem implShared (v : Value) (L : List Seg) (w : World) (h : IRow segK w v L) (hl : L.length ≤ 1048576) : Calls Tryz.prog 111 #[v] w fun e w' => ∃ d : Int, e = .returned (.tuple #[.int .i64 d, .bool (sharedB L)]) ∧ Below w.heap.size w w' := by
  obtain ⟨ad, c, rfl, hc, hcm, H⟩ := h
  have HR := hideP H
  unfold maxLen at hcm
  obtain ⟨N, hN⟩ : ∃ N, N = L.length := ⟨_, rfl⟩
  have HN := hideP hN
  rw [← hN] at hl hc ⊢
  obtain ⟨R, hR⟩ : ∃ R, R = sharedB L := ⟨_, rfl⟩
  have HRr := hideP hR
  rw [← hR]
  clear H hN hR
  go_enter Tryz.func111, Tryz.ntmps111
  go_wp2
  go_loopw [4] (fun i wr => ∃ k : Nat, i = .int .i64 ((k : Int) + 1) ∧ k ≤ N ∧ Hid (NoSh L N k) ∧ ∃ y : Later w, wr = y.w) (fun i _ => N + 1 - (intOf i).toNat)
  case atStart => exact ⟨0, rfl, Nat.zero_le _, fun j h1 h2 => by omega, ⟨w, Below.refl _ _⟩, rfl⟩
  case round =>
    obtain ⟨k, rfl, hk, HJ, y, rfl⟩ := hrel
    by_cases hlt : k + 1 < N
    · obtain ⟨g, rfl, hg, x1⟩ := HR.out (k + 1) (by rw [← HN.out]; exact hlt)
      obtain ⟨g', eg, _, x0⟩ := HR.out k (by rw [← HN.out]; omega)
      cases eg
      have hlt' : (k : Int) + 1 < (N : Int) := by omega
      have e1 : (k : Int) + 1 - 1 = (k : Int) := by omega
      have a0 : ∀ y : Later w, y.w.cell? ⟨g, (k + 1) * 5, none⟩ = some (.int .i64 (sgA L (k + 1)).fr) := fun y => (x1.below y.below hg).seg.1
      have a1 : ∀ y : Later w, y.w.cell? ⟨g, k * 5 + 1, none⟩ = some (.int .i64 (sgA L k).to) := fun y => (x0.below y.below hg).seg.2.1
      have HY : Hid ((sgA L (k + 1)).fr ≤ (sgA L k).to → R = true) := fun q => by rw [HRr.out]; exact shared_yes ⟨k + 1, by omega, by rw [← HN.out]; exact hlt, q⟩
      have HX : Hid (¬ (sgA L (k + 1)).fr ≤ (sgA L k).to → NoSh L N (k + 1)) := fun q j h1 h2 h3 => by
        by_cases e : j = k + 1
        · subst e; exact q
        · exact HJ.out j h1 (by omega) h3
      clear HJ x0 x1
      generalize (sgA L (k + 1)).fr = p at *
      generalize (sgA L k).to = q at *
      by_cases hpq : p ≤ q
      · have hd : decide (p ≤ q) = true := decide_eq_true hpq
        have HE := hideP (HY.out hpq)
        go_wp2_with fail
        refine wp_region_later (W := w) y.below (by kernel_rfl) (by kernel_rfl) ?_
        repeat (go_big_quiet_step (fail))
        refine wpQuiet_nil ?_
        intro _ hw'
        obtain ⟨x, rfl⟩ := hw'
        go_wp2_with fail
        go_returns
        first | exact ⟨p, (by rw [HE.out]; first | done | rfl), x.below⟩ | exact ⟨⟨p, (by rw [HE.out]; first | done | rfl)⟩, x.below⟩
      · have hd : decide (p ≤ q) = false := decide_eq_false hpq
        have HE := hideP (HX.out hpq)
        go_wp2_with fail
        refine wp_region_later (W := w) y.below (by kernel_rfl) (by kernel_rfl) ?_
        repeat (go_big_quiet_step (fail))
        refine wpQuiet_nil ?_
        intro _ hw'
        obtain ⟨x, rfl⟩ := hw'
        go_wp2
        exact ⟨⟨k + 1, by go_num, by omega, HE.out, x, rfl⟩, by simp [intOf]; omega⟩
    · have hlt' : ¬ ((k : Int) + 1 < (N : Int)) := by omega
      have HS : Hid (R = false) := by
        unfold Hid
        rw [HRr.out]
        exact shared_no (fun ⟨i, h1, h2, h3⟩ => HJ.out i h1 (by rw [← HN.out] at h2; omega) (by rw [HN.out]; exact h2) h3)
      clear HJ
      go_wp2
      go_returns
      first | exact ⟨0, (by rw [HS.out]; first | done | rfl), y.below⟩ | exact ⟨⟨0, (by rw [HS.out]; first | done | rfl)⟩, y.below⟩
/-- As the program looks for it; none where from is above to. -/
def bareB (f t : Int) (L : List Seg) : Bool := if t < f then false else bareI t L f
theorem bareB_same {f t : Int} {l : List Seg} : bareB f t (fullS l) = bareS t (fullS l) f := by
  unfold bareB
  by_cases h : t < f
  · rw [if_pos h, bareS_no (by omega)]
  · rw [if_neg h]
    exact bare_same _ _ (full_days l) (by omega)
theorem max_wrap (a b : Int) : max a b = if a ≤ b then b else a := by omega
set_option maxRecDepth 100000 in
set_option maxHeartbeats 2000000 in
theorem implBare (f t : Int) (v : Value) (L : List Seg) (w : World) (h : IRow segK w v L) (hl : L.length ≤ 1048576) (ht : t ≤ 9223372036854775807) (hw : ∀ s ∈ L, -9223372036854775808 ≤ s.to) : Calls Tryz.prog 112 #[.int .i64 f, .int .i64 t, v] w fun e w' => ∃ d : Int, e = .returned (.tuple #[.int .i64 d, .bool (bareB f t L)]) ∧ Below w.heap.size w w' := by
  obtain ⟨ad, c, rfl, hc, hcm, H⟩ := h
  have HR := hideP H
  unfold maxLen at hcm
  have HW : Hid (∀ k, k < L.length → -9223372036854775808 ≤ (sgA L k).to) := fun k hk => by rw [sgA_eq hk]; exact hw _ (List.getElem_mem hk)
  obtain ⟨N, hN⟩ : ∃ N, N = L.length := ⟨_, rfl⟩
  have HN := hideP hN
  rw [← hN] at hl hc ⊢
  obtain ⟨R, hR⟩ : ∃ R, R = bareB f t L := ⟨_, rfl⟩
  have HRr := hideP hR
  rw [← hR]
  clear H hN hR hw
  by_cases hft : t < f
  · have HE : Hid (R = false) := by unfold Hid; rw [HRr.out, bareB, if_pos hft]
    have hd : decide (t < f) = true := decide_eq_true hft
    go_enter Tryz.func112, Tryz.ntmps112
    go_wp2
    go_returns
    first | exact ⟨0, (by rw [HE.out]; first | done | rfl), Below.refl _ _⟩ | exact ⟨⟨0, (by rw [HE.out]; first | done | rfl)⟩, Below.refl _ _⟩
  have hd : decide (t < f) = false := decide_eq_false hft
  have HRI : Hid (R = bareI t L f) := by unfold Hid; rw [HRr.out, bareB, if_neg hft]
  go_enter Tryz.func112, Tryz.ntmps112
  go_wp2
  go_loopw [8, 17] (fun n i wr => ∃ (k : Nat) (z : Int), k ≤ N ∧ i = .int .i64 (k : Int) ∧ n = .int .i64 z ∧ Hid (bareI t (L.drop k) z = R) ∧ Below w.heap.size w wr) (fun _ i _ => N - (intOf i).toNat)
  case atStart => exact ⟨0, f, Nat.zero_le _, rfl, rfl, HRI.out.symm, Below.refl _ _⟩
  case round =>
    obtain ⟨k, z, hk, rfl, rfl, HF, hB⟩ := hrel
    have HB := hideP hB
    clear hB
    by_cases hlt : k < N
    · obtain ⟨g, rfl, hg, x⟩ := HR.out k (by rw [← HN.out]; exact hlt)
      obtain ⟨c0, c1, c2, c3, c4⟩ := (x.below HB.out hg).seg
      have HA := hideP (bareI_at (to := t) (n := z) (L := L) (k := k) (by rw [← HN.out]; exact hlt))
      have hs0 := HW.out k (by rw [← HN.out]; exact hlt)
      rw [show atK segK L k = sgA L k from rfl] at c0 c1 c2 c3 c4
      clear x
      generalize sgA L k = s at *
      by_cases h1 : z < s.fr
      · have HE : Hid (R = true) := by unfold Hid; rw [← HF.out, HA.out, if_pos h1]
        have hd1 : decide (z < s.fr) = true := decide_eq_true h1
        go_wp2
        go_returns
        first | exact ⟨z, (by rw [HE.out]; first | done | rfl), HB.out.alloc HB.out.size _⟩ | exact ⟨⟨z, (by rw [HE.out]; first | done | rfl)⟩, HB.out.alloc HB.out.size _⟩
      have hd1 : decide (z < s.fr) = false := decide_eq_false h1
      by_cases h2 : t ≤ s.to
      · have HE : Hid (R = false) := by unfold Hid; rw [← HF.out, HA.out, if_neg h1, if_pos h2]
        have hd2 : decide (t ≤ s.to) = true := decide_eq_true h2
        go_wp2
        go_returns
        first | exact ⟨0, (by rw [HE.out]; first | done | rfl), HB.out.alloc HB.out.size _⟩ | exact ⟨⟨0, (by rw [HE.out]; first | done | rfl)⟩, HB.out.alloc HB.out.size _⟩
      have hd2 : decide (t ≤ s.to) = false := decide_eq_false h2
      have HE : Hid (bareI t (L.drop (k + 1)) (max z (s.to + 1)) = R) := by unfold Hid; rw [← HF.out, HA.out, if_neg h1, if_neg h2]
      go_wp2
      exact ⟨⟨k + 1, max z (s.to + 1), by omega, by go_num, by first | rfl | go_num | (congr 1; omega), HE.out, HB.out.alloc HB.out.size _⟩, by simp [intOf]; omega⟩
    · have HE : Hid (R = true) := by unfold Hid; rw [← HF.out]; exact bareI_end (by rw [← HN.out]; omega)
      go_wp2
      go_returns
      first | exact ⟨z, (by rw [HE.out]; first | done | rfl), HB.out⟩ | exact ⟨⟨z, (by rw [HE.out]; first | done | rfl)⟩, HB.out⟩
end Go.Proofs.YtkinapfoigibcaaGreatDoor.ctr
