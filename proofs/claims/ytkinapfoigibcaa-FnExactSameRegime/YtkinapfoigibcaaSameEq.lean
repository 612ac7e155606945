/- What '==' says of two segments, two patches, two reigns, in this program; contracts of slices.Equal at lists of them and of both SameRegime: true just where both regimes are alike. -/
import Derived.Test.YtkinapfoigibcaaRgmHelp
import Derived.Laws.StructEq
import Derived.KernelRfl
namespace Go.Proofs.Ytkinapfoigibcaa.ctr
open Go.RowKit

noncomputable def sameL {α : Type} (l l' : List α) : Bool := @decide (l = l') (Classical.propDecidable _)
theorem sameL_yes {α : Type} {l l' : List α} (h : l = l') : sameL l l' = true := by unfold sameL; simp [h]
theorem sameL_no {α : Type} {l l' : List α} (h : ¬ l = l') : sameL l l' = false := by unfold sameL; simp [h]

theorem ext_seg {l1 l2 : List Seg} (hl : l1.length = l2.length) (h : ∀ j, j < l1.length → (atK segK l1 j) = (atK segK l2 j)) : l1 = l2 := by
  refine List.ext_getElem hl fun j h1 h2 => ?_
  have := h j h1
  rw [atK_eq h1, atK_eq h2] at this
  exact this

set_option maxHeartbeats 1000000 in
theorem equal_seg (v1 v2 : Value) (l1 l2 : List Seg) (w : World) (h1 : IRow segK w v1 l1) (h2 : IRow segK w v2 l2) : Calls Try.prog 47 #[v1, v2] w fun e w' => e = .returned (.bool (sameL l1 l2)) ∧ Below w.heap.size w w' := by
  obtain ⟨a1, c1, rfl, b1, m1, H1⟩ := h1
  obtain ⟨a2, c2, rfl, b2, m2, H2⟩ := h2
  have K1 := hideP H1
  have K2 := hideP H2
  unfold maxLen at m1 m2
  clear H1 H2
  by_cases hlen : l1.length = l2.length
  case neg =>
    rw [sameL_no (fun e => hlen (by rw [e]))]
    have hq : ((l1.length : Int) == (l2.length : Int)) = false := by simp; omega
    go_enter Try.func47, Try.ntmps47
    go_wp2
    go_ret
    exact ⟨rfl, Below.refl _ _⟩
  have HL := hideP hlen
  have b2' : l1.length ≤ c2 := by omega
  rw [← hlen]
  clear hlen b2
  go_enter Try.func47, Try.ntmps47
  go_wp2
  go_loopw [13] (fun i wr => ∃ k : Nat, k ≤ l1.length ∧ i = .int .i64 (k : Int) ∧ Hid (∀ j, j < k → (atK segK l1 j) = (atK segK l2 j)) ∧ Below w.heap.size w wr) (fun i _ => l1.length - (intOf i).toNat)
  case atStart => exact ⟨0, Nat.zero_le _, rfl, fun j hj => by omega, Below.refl _ _⟩
  case round =>
    obtain ⟨k, hk, rfl, HF, hB⟩ := hrel
    have HB := hideP hB
    clear hB
    by_cases hlt : k < l1.length
    · obtain ⟨g1, rfl, hg1, x1⟩ := K1.out k hlt
      obtain ⟨g2, rfl, hg2, x2⟩ := K2.out k (by have := HL.out; omega)
      have a0 : ∀ y : Later wr, y.w.cell? ⟨g1, k * 5, none⟩ = some (.int .i64 (atK segK l1 k).fr) := fun y => Later.at (x1.below HB.out hg1).seg.1 y
      have a1 : ∀ y : Later wr, y.w.cell? ⟨g1, k * 5 + 1, none⟩ = some (.int .i64 (atK segK l1 k).to) := fun y => Later.at (x1.below HB.out hg1).seg.2.1 y
      have a2 : ∀ y : Later wr, y.w.cell? ⟨g1, k * 5 + 2, none⟩ = some (.int .i64 (atK segK l1 k).cal) := fun y => Later.at (x1.below HB.out hg1).seg.2.2.1 y
      have a3 : ∀ y : Later wr, y.w.cell? ⟨g1, k * 5 + 3, none⟩ = some (.int .i64 (atK segK l1 k).sty) := fun y => Later.at (x1.below HB.out hg1).seg.2.2.2.1 y
      have a4 : ∀ y : Later wr, y.w.cell? ⟨g1, k * 5 + 4, none⟩ = some (.int .i64 (atK segK l1 k).off) := fun y => Later.at (x1.below HB.out hg1).seg.2.2.2.2 y
      have d0 : ∀ y : Later wr, y.w.cell? ⟨g2, k * 5, none⟩ = some (.int .i64 (atK segK l2 k).fr) := fun y => Later.at (x2.below HB.out hg2).seg.1 y
      have d1 : ∀ y : Later wr, y.w.cell? ⟨g2, k * 5 + 1, none⟩ = some (.int .i64 (atK segK l2 k).to) := fun y => Later.at (x2.below HB.out hg2).seg.2.1 y
      have d2 : ∀ y : Later wr, y.w.cell? ⟨g2, k * 5 + 2, none⟩ = some (.int .i64 (atK segK l2 k).cal) := fun y => Later.at (x2.below HB.out hg2).seg.2.2.1 y
      have d3 : ∀ y : Later wr, y.w.cell? ⟨g2, k * 5 + 3, none⟩ = some (.int .i64 (atK segK l2 k).sty) := fun y => Later.at (x2.below HB.out hg2).seg.2.2.2.1 y
      have d4 : ∀ y : Later wr, y.w.cell? ⟨g2, k * 5 + 4, none⟩ = some (.int .i64 (atK segK l2 k).off) := fun y => Later.at (x2.below HB.out hg2).seg.2.2.2.2 y
      have HJ : Hid ((atK segK l1 k) = (atK segK l2 k) → ∀ j, j < k + 1 → (atK segK l1 j) = (atK segK l2 j)) := fun g j hj => by
        by_cases e : j = k
        · subst e; exact g
        · exact HF.out j (by omega)
      have HO : Hid (¬ (atK segK l1 k) = (atK segK l2 k) → sameL l1 l2 = false) := fun g => sameL_no (fun e => g (by rw [e]))
      clear x1 x2
      generalize (atK segK l1 k) = r1 at *
      generalize (atK segK l2 k) = r2 at *
      by_cases q0 : r1.fr = r2.fr
      case neg =>
        have HN := hideP (HO.out (fun e => q0 (by rw [e])))
        go_wp2_with fail
        refine wp_region_later (W := wr) (Below.refl _ _) (by kernel_rfl) (by kernel_rfl) ?_
        repeat (go_big_quiet_step (fail))
        refine wpQuiet_nil ?_
        intro _ hw'
        obtain ⟨x, rfl⟩ := hw'
        have HB1 : Hid (Below w.heap.size w x.w) := HB.out.trans (x.below.mono HB.out.size)
        go_wp2
        go_ret
        exact ⟨ret_bool HN.out.symm, HB1.out⟩
      by_cases q1 : r1.to = r2.to
      case neg =>
        have HN := hideP (HO.out (fun e => q1 (by rw [e])))
        go_wp2_with fail
        refine wp_region_later (W := wr) (Below.refl _ _) (by kernel_rfl) (by kernel_rfl) ?_
        repeat (go_big_quiet_step (fail))
        refine wpQuiet_nil ?_
        intro _ hw'
        obtain ⟨x, rfl⟩ := hw'
        have HB1 : Hid (Below w.heap.size w x.w) := HB.out.trans (x.below.mono HB.out.size)
        go_wp2
        go_ret
        exact ⟨ret_bool HN.out.symm, HB1.out⟩
      by_cases q2 : r1.cal = r2.cal
      case neg =>
        have HN := hideP (HO.out (fun e => q2 (by rw [e])))
        go_wp2_with fail
        refine wp_region_later (W := wr) (Below.refl _ _) (by kernel_rfl) (by kernel_rfl) ?_
        repeat (go_big_quiet_step (fail))
        refine wpQuiet_nil ?_
        intro _ hw'
        obtain ⟨x, rfl⟩ := hw'
        have HB1 : Hid (Below w.heap.size w x.w) := HB.out.trans (x.below.mono HB.out.size)
        go_wp2
        go_ret
        exact ⟨ret_bool HN.out.symm, HB1.out⟩
      by_cases q3 : r1.sty = r2.sty
      case neg =>
        have HN := hideP (HO.out (fun e => q3 (by rw [e])))
        go_wp2_with fail
        refine wp_region_later (W := wr) (Below.refl _ _) (by kernel_rfl) (by kernel_rfl) ?_
        repeat (go_big_quiet_step (fail))
        refine wpQuiet_nil ?_
        intro _ hw'
        obtain ⟨x, rfl⟩ := hw'
        have HB1 : Hid (Below w.heap.size w x.w) := HB.out.trans (x.below.mono HB.out.size)
        go_wp2
        go_ret
        exact ⟨ret_bool HN.out.symm, HB1.out⟩
      by_cases q4 : r1.off = r2.off
      case neg =>
        have HN := hideP (HO.out (fun e => q4 (by rw [e])))
        go_wp2_with fail
        refine wp_region_later (W := wr) (Below.refl _ _) (by kernel_rfl) (by kernel_rfl) ?_
        repeat (go_big_quiet_step (fail))
        refine wpQuiet_nil ?_
        intro _ hw'
        obtain ⟨x, rfl⟩ := hw'
        have HB1 : Hid (Below w.heap.size w x.w) := HB.out.trans (x.below.mono HB.out.size)
        go_wp2
        go_ret
        exact ⟨ret_bool HN.out.symm, HB1.out⟩
      have HN : Hid _ := HJ.out (by
        obtain ⟨x0, x1, x2, x3, x4⟩ := r1
        obtain ⟨y0, y1, y2, y3, y4⟩ := r2
        simp_all)
      go_wp2_with fail
      refine wp_region_later (W := wr) (Below.refl _ _) (by kernel_rfl) (by kernel_rfl) ?_
      repeat (go_big_quiet_step (fail))
      refine wpQuiet_nil ?_
      intro _ hw'
      obtain ⟨x, rfl⟩ := hw'
      have HB1 : Hid (Below w.heap.size w x.w) := HB.out.trans (x.below.mono HB.out.size)
      go_wp2
      exact ⟨⟨k + 1, by omega, by go_num, HN.out, HB1.out⟩, by simp [intOf]; omega⟩
    · have HN : Hid (sameL l1 l2 = true) := sameL_yes (ext_seg HL.out (fun j hj => HF.out j (by omega)))
      go_wp2
      go_ret
      exact ⟨ret_bool HN.out.symm, HB.out⟩

theorem ext_pat {l1 l2 : List Pat} (hl : l1.length = l2.length) (h : ∀ j, j < l1.length → (atK patK l1 j) = (atK patK l2 j)) : l1 = l2 := by
  refine List.ext_getElem hl fun j h1 h2 => ?_
  have := h j h1
  rw [atK_eq h1, atK_eq h2] at this
  exact this

set_option maxHeartbeats 1000000 in
theorem equal_pat (v1 v2 : Value) (l1 l2 : List Pat) (w : World) (h1 : IRow patK w v1 l1) (h2 : IRow patK w v2 l2) : Calls Try.prog 48 #[v1, v2] w fun e w' => e = .returned (.bool (sameL l1 l2)) ∧ Below w.heap.size w w' := by
  obtain ⟨a1, c1, rfl, b1, m1, H1⟩ := h1
  obtain ⟨a2, c2, rfl, b2, m2, H2⟩ := h2
  have K1 := hideP H1
  have K2 := hideP H2
  unfold maxLen at m1 m2
  clear H1 H2
  by_cases hlen : l1.length = l2.length
  case neg =>
    rw [sameL_no (fun e => hlen (by rw [e]))]
    have hq : ((l1.length : Int) == (l2.length : Int)) = false := by simp; omega
    go_enter Try.func48, Try.ntmps48
    go_wp2
    go_ret
    exact ⟨rfl, Below.refl _ _⟩
  have HL := hideP hlen
  have b2' : l1.length ≤ c2 := by omega
  rw [← hlen]
  clear hlen b2
  go_enter Try.func48, Try.ntmps48
  go_wp2
  go_loopw [13] (fun i wr => ∃ k : Nat, k ≤ l1.length ∧ i = .int .i64 (k : Int) ∧ Hid (∀ j, j < k → (atK patK l1 j) = (atK patK l2 j)) ∧ Below w.heap.size w wr) (fun i _ => l1.length - (intOf i).toNat)
  case atStart => exact ⟨0, Nat.zero_le _, rfl, fun j hj => by omega, Below.refl _ _⟩
  case round =>
    obtain ⟨k, hk, rfl, HF, hB⟩ := hrel
    have HB := hideP hB
    clear hB
    by_cases hlt : k < l1.length
    · obtain ⟨g1, rfl, hg1, x1⟩ := K1.out k hlt
      obtain ⟨g2, rfl, hg2, x2⟩ := K2.out k (by have := HL.out; omega)
      have a0 : ∀ y : Later wr, y.w.cell? ⟨g1, k * 3, none⟩ = some (.int .i64 (atK patK l1 k).day) := fun y => Later.at (x1.below HB.out hg1).pat.1 y
      have a1 : ∀ y : Later wr, y.w.cell? ⟨g1, k * 3 + 1, none⟩ = some (.int .i64 (atK patK l1 k).mon) := fun y => Later.at (x1.below HB.out hg1).pat.2.1 y
      have a2 : ∀ y : Later wr, y.w.cell? ⟨g1, k * 3 + 2, none⟩ = some (.int .i64 (atK patK l1 k).dom) := fun y => Later.at (x1.below HB.out hg1).pat.2.2 y
      have d0 : ∀ y : Later wr, y.w.cell? ⟨g2, k * 3, none⟩ = some (.int .i64 (atK patK l2 k).day) := fun y => Later.at (x2.below HB.out hg2).pat.1 y
      have d1 : ∀ y : Later wr, y.w.cell? ⟨g2, k * 3 + 1, none⟩ = some (.int .i64 (atK patK l2 k).mon) := fun y => Later.at (x2.below HB.out hg2).pat.2.1 y
      have d2 : ∀ y : Later wr, y.w.cell? ⟨g2, k * 3 + 2, none⟩ = some (.int .i64 (atK patK l2 k).dom) := fun y => Later.at (x2.below HB.out hg2).pat.2.2 y
      have HJ : Hid ((atK patK l1 k) = (atK patK l2 k) → ∀ j, j < k + 1 → (atK patK l1 j) = (atK patK l2 j)) := fun g j hj => by
        by_cases e : j = k
        · subst e; exact g
        · exact HF.out j (by omega)
      have HO : Hid (¬ (atK patK l1 k) = (atK patK l2 k) → sameL l1 l2 = false) := fun g => sameL_no (fun e => g (by rw [e]))
      clear x1 x2
      generalize (atK patK l1 k) = r1 at *
      generalize (atK patK l2 k) = r2 at *
      by_cases q0 : r1.day = r2.day
      case neg =>
        have HN := hideP (HO.out (fun e => q0 (by rw [e])))
        go_wp2_with fail
        refine wp_region_later (W := wr) (Below.refl _ _) (by kernel_rfl) (by kernel_rfl) ?_
        repeat (go_big_quiet_step (fail))
        refine wpQuiet_nil ?_
        intro _ hw'
        obtain ⟨x, rfl⟩ := hw'
        have HB1 : Hid (Below w.heap.size w x.w) := HB.out.trans (x.below.mono HB.out.size)
        go_wp2
        go_ret
        exact ⟨ret_bool HN.out.symm, HB1.out⟩
      by_cases q1 : r1.mon = r2.mon
      case neg =>
        have HN := hideP (HO.out (fun e => q1 (by rw [e])))
        go_wp2_with fail
        refine wp_region_later (W := wr) (Below.refl _ _) (by kernel_rfl) (by kernel_rfl) ?_
        repeat (go_big_quiet_step (fail))
        refine wpQuiet_nil ?_
        intro _ hw'
        obtain ⟨x, rfl⟩ := hw'
        have HB1 : Hid (Below w.heap.size w x.w) := HB.out.trans (x.below.mono HB.out.size)
        go_wp2
        go_ret
        exact ⟨ret_bool HN.out.symm, HB1.out⟩
      by_cases q2 : r1.dom = r2.dom
      case neg =>
        have HN := hideP (HO.out (fun e => q2 (by rw [e])))
        go_wp2_with fail
        refine wp_region_later (W := wr) (Below.refl _ _) (by kernel_rfl) (by kernel_rfl) ?_
        repeat (go_big_quiet_step (fail))
        refine wpQuiet_nil ?_
        intro _ hw'
        obtain ⟨x, rfl⟩ := hw'
        have HB1 : Hid (Below w.heap.size w x.w) := HB.out.trans (x.below.mono HB.out.size)
        go_wp2
        go_ret
        exact ⟨ret_bool HN.out.symm, HB1.out⟩
      have HN : Hid _ := HJ.out (by
        obtain ⟨x0, x1, x2⟩ := r1
        obtain ⟨y0, y1, y2⟩ := r2
        simp_all)
      go_wp2_with fail
      refine wp_region_later (W := wr) (Below.refl _ _) (by kernel_rfl) (by kernel_rfl) ?_
      repeat (go_big_quiet_step (fail))
      refine wpQuiet_nil ?_
      intro _ hw'
      obtain ⟨x, rfl⟩ := hw'
      have HB1 : Hid (Below w.heap.size w x.w) := HB.out.trans (x.below.mono HB.out.size)
      go_wp2
      exact ⟨⟨k + 1, by omega, by go_num, HN.out, HB1.out⟩, by simp [intOf]; omega⟩
    · have HN : Hid (sameL l1 l2 = true) := sameL_yes (ext_pat HL.out (fun j hj => HF.out j (by omega)))
      go_wp2
      go_ret
      exact ⟨ret_bool HN.out.symm, HB.out⟩

theorem ext_rgn {l1 l2 : List Rgn} (hl : l1.length = l2.length) (h : ∀ j, j < l1.length → (rgA l1 j) = (rgA l2 j)) : l1 = l2 := by
  refine List.ext_getElem hl fun j h1 h2 => ?_
  have := h j h1
  rw [rgA_eq h1, rgA_eq h2] at this
  exact this

set_option maxHeartbeats 1000000 in
theorem equal_rgn (v1 v2 : Value) (l1 l2 : List Rgn) (w : World) (h1 : RRow w v1 l1) (h2 : RRow w v2 l2) : Calls Try.prog 49 #[v1, v2] w fun e w' => e = .returned (.bool (sameL l1 l2)) ∧ Below w.heap.size w w' := by
  obtain ⟨a1, c1, rfl, b1, m1, _, H1⟩ := h1
  obtain ⟨a2, c2, rfl, b2, m2, _, H2⟩ := h2
  have K1 := hideP H1
  have K2 := hideP H2
  unfold maxLen at m1 m2
  clear H1 H2
  by_cases hlen : l1.length = l2.length
  case neg =>
    rw [sameL_no (fun e => hlen (by rw [e]))]
    have hq : ((l1.length : Int) == (l2.length : Int)) = false := by simp; omega
    go_enter Try.func49, Try.ntmps49
    go_wp2
    go_ret
    exact ⟨rfl, Below.refl _ _⟩
  have HL := hideP hlen
  have b2' : l1.length ≤ c2 := by omega
  rw [← hlen]
  clear hlen b2
  go_enter Try.func49, Try.ntmps49
  go_wp2
  go_loopw [13] (fun i wr => ∃ k : Nat, k ≤ l1.length ∧ i = .int .i64 (k : Int) ∧ Hid (∀ j, j < k → (rgA l1 j) = (rgA l2 j)) ∧ Below w.heap.size w wr) (fun i _ => l1.length - (intOf i).toNat)
  case atStart => exact ⟨0, Nat.zero_le _, rfl, fun j hj => by omega, Below.refl _ _⟩
  case round =>
    obtain ⟨k, hk, rfl, HF, hB⟩ := hrel
    have HB := hideP hB
    clear hB
    by_cases hlt : k < l1.length
    · obtain ⟨g1, rfl, hg1, x1⟩ := K1.out k hlt
      obtain ⟨g2, rfl, hg2, x2⟩ := K2.out k (by have := HL.out; omega)
      have a0 : ∀ y : Later wr, y.w.cell? ⟨g1, k * 3, none⟩ = some (.string (rgA l1 k).name) := fun y => Later.at (x1.below HB.out hg1).1 y
      have a1 : ∀ y : Later wr, y.w.cell? ⟨g1, k * 3 + 1, none⟩ = some (.int .i64 (rgA l1 k).fr) := fun y => Later.at (x1.below HB.out hg1).2.1 y
      have a2 : ∀ y : Later wr, y.w.cell? ⟨g1, k * 3 + 2, none⟩ = some (.int .i64 (rgA l1 k).to) := fun y => Later.at (x1.below HB.out hg1).2.2 y
      have d0 : ∀ y : Later wr, y.w.cell? ⟨g2, k * 3, none⟩ = some (.string (rgA l2 k).name) := fun y => Later.at (x2.below HB.out hg2).1 y
      have d1 : ∀ y : Later wr, y.w.cell? ⟨g2, k * 3 + 1, none⟩ = some (.int .i64 (rgA l2 k).fr) := fun y => Later.at (x2.below HB.out hg2).2.1 y
      have d2 : ∀ y : Later wr, y.w.cell? ⟨g2, k * 3 + 2, none⟩ = some (.int .i64 (rgA l2 k).to) := fun y => Later.at (x2.below HB.out hg2).2.2 y
      have HJ : Hid ((rgA l1 k) = (rgA l2 k) → ∀ j, j < k + 1 → (rgA l1 j) = (rgA l2 j)) := fun g j hj => by
        by_cases e : j = k
        · subst e; exact g
        · exact HF.out j (by omega)
      have HO : Hid (¬ (rgA l1 k) = (rgA l2 k) → sameL l1 l2 = false) := fun g => sameL_no (fun e => g (by rw [e]))
      clear x1 x2
      generalize (rgA l1 k) = r1 at *
      generalize (rgA l2 k) = r2 at *
      by_cases q0 : r1.name.toList = r2.name.toList
      case neg =>
        have HN := hideP (HO.out (fun e => q0 (by rw [e])))
        go_wp2_with fail
        refine wp_region_later (W := wr) (Below.refl _ _) (by kernel_rfl) (by kernel_rfl) ?_
        repeat (go_big_quiet_step (fail))
        refine wpQuiet_nil ?_
        intro _ hw'
        obtain ⟨x, rfl⟩ := hw'
        have HB1 : Hid (Below w.heap.size w x.w) := HB.out.trans (x.below.mono HB.out.size)
        go_wp2
        go_ret
        exact ⟨ret_bool HN.out.symm, HB1.out⟩
      by_cases q1 : r1.fr = r2.fr
      case neg =>
        have HN := hideP (HO.out (fun e => q1 (by rw [e])))
        go_wp2_with fail
        refine wp_region_later (W := wr) (Below.refl _ _) (by kernel_rfl) (by kernel_rfl) ?_
        repeat (go_big_quiet_step (fail))
        refine wpQuiet_nil ?_
        intro _ hw'
        obtain ⟨x, rfl⟩ := hw'
        have HB1 : Hid (Below w.heap.size w x.w) := HB.out.trans (x.below.mono HB.out.size)
        go_wp2
        go_ret
        exact ⟨ret_bool HN.out.symm, HB1.out⟩
      by_cases q2 : r1.to = r2.to
      case neg =>
        have HN := hideP (HO.out (fun e => q2 (by rw [e])))
        go_wp2_with fail
        refine wp_region_later (W := wr) (Below.refl _ _) (by kernel_rfl) (by kernel_rfl) ?_
        repeat (go_big_quiet_step (fail))
        refine wpQuiet_nil ?_
        intro _ hw'
        obtain ⟨x, rfl⟩ := hw'
        have HB1 : Hid (Below w.heap.size w x.w) := HB.out.trans (x.below.mono HB.out.size)
        go_wp2
        go_ret
        exact ⟨ret_bool HN.out.symm, HB1.out⟩
      have HN : Hid _ := HJ.out (by
        obtain ⟨x0, x1, x2⟩ := r1
        obtain ⟨y0, y1, y2⟩ := r2
        have q0' := str_eq (a := x0) (b := y0) (by simpa using q0)
        simp_all)
      go_wp2_with fail
      refine wp_region_later (W := wr) (Below.refl _ _) (by kernel_rfl) (by kernel_rfl) ?_
      repeat (go_big_quiet_step (fail))
      refine wpQuiet_nil ?_
      intro _ hw'
      obtain ⟨x, rfl⟩ := hw'
      have HB1 : Hid (Below w.heap.size w x.w) := HB.out.trans (x.below.mono HB.out.size)
      go_wp2
      exact ⟨⟨k + 1, by omega, by go_num, HN.out, HB1.out⟩, by simp [intOf]; omega⟩
    · have HN : Hid (sameL l1 l2 = true) := sameL_yes (ext_rgn HL.out (fun j hj => HF.out j (by omega)))
      go_wp2
      go_ret
      exact ⟨ret_bool HN.out.symm, HB.out⟩

end Go.Proofs.Ytkinapfoigibcaa.ctr
