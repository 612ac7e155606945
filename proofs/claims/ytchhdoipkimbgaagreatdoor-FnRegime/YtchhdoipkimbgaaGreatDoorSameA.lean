/- What '==' says of two segments, two patches, two reigns, in this program; contracts of slices.Equal at lists of them and of both SameRegime: true just where both regimes are alike. Contracts of both SameRegime: true just where both regimes are alike. Contract of the laws' own same: true just where both regimes are alike. -/
import Derived.Test.YtchhdoipkimbgaaGreatDoorRgmHelpM
import Derived.Laws.StructEq
import Derived.KernelRfl
namespace Go.Proofs.YtchhdoipkimbgaaGreatDoor.ctr
open Go.RowKit

noncomputable def sameL {α : Type} (l l' : List α) : Bool := @decide (l = l') (Classical.propDecidable _)
theorem sameL_yes {α : Type} {l l' : List α} (h : l = l') : sameL l l' = true := by unfold sameL; simp [h]
theorem sameL_no {α : Type} {l l' : List α} (h : ¬ l = l') : sameL l l' = false := by unfold sameL; simp [h]

theorem ext_seg {l1 l2 : List Seg} (hl : l1.length = l2.length) (h : ∀ j, j < l1.length → (atK segK l1 j) = (atK segK l2 j)) : l1 = l2 := by
  refine List.ext_getElem hl fun j h1 h2 => ?_
  have := h j h1
  rw [atK_eq h1, atK_eq h2] at this
  exact this

set_option maxHeartbeats 1000000 in
theorem equal_seg (v1 v2 : Value) (l1 l2 : List Seg) (w : World) (h1 : IRow segK w v1 l1) (h2 : IRow segK w v2 l2) : Calls Tryz.prog 102 #[v1, v2] w fun e w' => e = .returned (.bool (sameL l1 l2)) ∧ Below w.heap.size w w' := by
  obtain ⟨a1, c1, rfl, b1, m1, H1⟩ := h1
  obtain ⟨a2, c2, rfl, b2, m2, H2⟩ := h2
  have K1 := hideP H1
  have K2 := hideP H2
  unfold maxLen at m1 m2
  clear H1 H2
  by_cases hlen : l1.length = l2.length
  case neg =>
    rw [sameL_no (fun e => hlen (by rw [e]))]
    have hq : ((l1.length : Int) == (l2.length : Int)) = false := by simp; omega
    go_enter Tryz.func102, Tryz.ntmps102
    go_wp2
    go_ret
    exact ⟨rfl, Below.refl _ _⟩
  have HL := hideP hlen
  have b2' : l1.length ≤ c2 := by omega
  rw [← hlen]
  clear hlen b2
  go_enter Tryz.func102, Tryz.ntmps102
  go_wp2
  go_loopw [13] (fun i wr => ∃ k : Nat, k ≤ l1.length ∧ i = .int .i64 (k : Int) ∧ Hid (∀ j, j < k → (atK segK l1 j) = (atK segK l2 j)) ∧ Below w.heap.size w wr) (fun i _ => l1.length - (intOf i).toNat)
  case atStart => exact ⟨0, Nat.zero_le _, rfl, fun j hj => by omega, Below.refl _ _⟩
  case round =>
    obtain ⟨k, hk, rfl, HF, hB⟩ := hrel
    have HB := hideP hB
    clear hB
    by_cases hlt : k < l1.length
    · obtain ⟨g1, rfl, hg1, x1⟩ := K1.out k hlt
      obtain ⟨g2, rfl, hg2, x2⟩ := K2.out k (by have := HL.out; omega)
      have a0 : ∀ y : Later wr, y.w.cell? ⟨g1, k * 5, none⟩ = some (.int .i64 (atK segK l1 k).fr) := fun y => Later.at (x1.below HB.out hg1).seg.1 y
      have a1 : ∀ y : Later wr, y.w.cell? ⟨g1, k * 5 + 1, none⟩ = some (.int .i64 (atK segK l1 k).to) := fun y => Later.at (x1.below HB.out hg1).seg.2.1 y
      have a2 : ∀ y : Later wr, y.w.cell? ⟨g1, k * 5 + 2, none⟩ = some (.int .i64 (atK segK l1 k).cal) := fun y => Later.at (x1.below HB.out hg1).seg.2.2.1 y
      have a3 : ∀ y : Later wr, y.w.cell? ⟨g1, k * 5 + 3, none⟩ = some (.int .i64 (atK segK l1 k).sty) := fun y => Later.at (x1.below HB.out hg1).seg.2.2.2.1 y
      have a4 : ∀ y : Later wr, y.w.cell? ⟨g1, k * 5 + 4, none⟩ = some (.int .i64 (atK segK l1 k).off) := fun y => Later.at (x1.below HB.out hg1).seg.2.2.2.2 y
      have d0 : ∀ y : Later wr, y.w.cell? ⟨g2, k * 5, none⟩ = some (.int .i64 (atK segK l2 k).fr) := fun y => Later.at (x2.below HB.out hg2).seg.1 y
      have d1 : ∀ y : Later wr, y.w.cell? ⟨g2, k * 5 + 1, none⟩ = some (.int .i64 (atK segK l2 k).to) := fun y => Later.at (x2.below HB.out hg2).seg.2.1 y
      have d2 : ∀ y : Later wr, y.w.cell? ⟨g2, k * 5 + 2, none⟩ = some (.int .i64 (atK segK l2 k).cal) := fun y => Later.at (x2.below HB.out hg2).seg.2.2.1 y
      have d3 : ∀ y : Later wr, y.w.cell? ⟨g2, k * 5 + 3, none⟩ = some (.int .i64 (atK segK l2 k).sty) := fun y => Later.at (x2.below HB.out hg2).seg.2.2.2.1 y
      have d4 : ∀ y : Later wr, y.w.cell? ⟨g2, k * 5 + 4, none⟩ = some (.int .i64 (atK segK l2 k).off) := fun y => Later.at (x2.below HB.out hg2).seg.2.2.2.2 y
      have HJ : Hid ((atK segK l1 k) = (atK segK l2 k) → ∀ j, j < k + 1 → (atK segK l1 j) = (atK segK l2 j)) := fun g j hj => by
        by_cases e : j = k
        · subst e; exact g
        · exact HF.out j (by omega)
      have HO : Hid (¬ (atK segK l1 k) = (atK segK l2 k) → sameL l1 l2 = false) := fun g => sameL_no (fun e => g (by rw [e]))
      clear x1 x2
      generalize (atK segK l1 k) = r1 at *
      generalize (atK segK l2 k) = r2 at *
      by_cases q0 : r1.fr = r2.fr
      case neg =>
        have HN := hideP (HO.out (fun e => q0 (by rw [e])))
        go_wp2_with fail
        refine wp_region_later (W := wr) (Below.refl _ _) (by kernel_rfl) (by kernel_rfl) ?_
        repeat (go_big_quiet_step (fail))
        refine wpQuiet_nil ?_
        intro _ hw'
        obtain ⟨x, rfl⟩ := hw'
        have HB1 : Hid (Below w.heap.size w x.w) := HB.out.trans (x.below.mono HB.out.size)
        go_wp2
        go_ret
        exact ⟨ret_bool HN.out.symm, HB1.out⟩
      by_cases q1 : r1.to = r2.to
      case neg =>
        have HN := hideP (HO.out (fun e => q1 (by rw [e])))
        go_wp2_with fail
        refine wp_region_later (W := wr) (Below.refl _ _) (by kernel_rfl) (by kernel_rfl) ?_
        repeat (go_big_quiet_step (fail))
        refine wpQuiet_nil ?_
        intro _ hw'
        obtain ⟨x, rfl⟩ := hw'
        have HB1 : Hid (Below w.heap.size w x.w) := HB.out.trans (x.below.mono HB.out.size)
        go_wp2
        go_ret
        exact ⟨ret_bool HN.out.symm, HB1.out⟩
      by_cases q2 : r1.cal = r2.cal
      case neg =>
        have HN := hideP (HO.out (fun e => q2 (by rw [e])))
        go_wp2_with fail
        refine wp_region_later (W := wr) (Below.refl _ _) (by kernel_rfl) (by kernel_rfl) ?_
        repeat (go_big_quiet_step (fail))
        refine wpQuiet_nil ?_
        intro _ hw'
        obtain ⟨x, rfl⟩ := hw'
        have HB1 : Hid (Below w.heap.size w x.w) := HB.out.trans (x.below.mono HB.out.size)
        go_wp2
        go_ret
        exact ⟨ret_bool HN.out.symm, HB1.out⟩
      by_cases q3 : r1.sty = r2.sty
      case neg =>
        have HN := hideP (HO.out (fun e => q3 (by rw [e])))
        go_wp2_with fail
        refine wp_region_later (W := wr) (Below.refl _ _) (by kernel_rfl) (by kernel_rfl) ?_
        repeat (go_big_quiet_step (fail))
        refine wpQuiet_nil ?_
        intro _ hw'
        obtain ⟨x, rfl⟩ := hw'
        have HB1 : Hid (Below w.heap.size w x.w) := HB.out.trans (x.below.mono HB.out.size)
        go_wp2
        go_ret
        exact ⟨ret_bool HN.out.symm, HB1.out⟩
      by_cases q4 : r1.off = r2.off
      case neg =>
        have HN := hideP (HO.out (fun e => q4 (by rw [e])))
        go_wp2_with fail
        refine wp_region_later (W := wr) (Below.refl _ _) (by kernel_rfl) (by kernel_rfl) ?_
        repeat (go_big_quiet_step (fail))
        refine wpQuiet_nil ?_
        intro _ hw'
        obtain ⟨x, rfl⟩ := hw'
        have HB1 : Hid (Below w.heap.size w x.w) := HB.out.trans (x.below.mono HB.out.size)
        go_wp2
        go_ret
        exact ⟨ret_bool HN.out.symm, HB1.out⟩
      have HN : Hid _ := HJ.out (by
        obtain ⟨x0, x1, x2, x3, x4⟩ := r1
        obtain ⟨y0, y1, y2, y3, y4⟩ := r2
        simp_all)
      go_wp2_with fail
      refine wp_region_later (W := wr) (Below.refl _ _) (by kernel_rfl) (by kernel_rfl) ?_
      repeat (go_big_quiet_step (fail))
      refine wpQuiet_nil ?_
      intro _ hw'
      obtain ⟨x, rfl⟩ := hw'
      have HB1 : Hid (Below w.heap.size w x.w) := HB.out.trans (x.below.mono HB.out.size)
      go_wp2
      exact ⟨⟨k + 1, by omega, by go_num, HN.out, HB1.out⟩, by simp [intOf]; omega⟩
    · have HN : Hid (sameL l1 l2 = true) := sameL_yes (ext_seg HL.out (fun j hj => HF.out j (by omega)))
      go_wp2
      go_ret
      exact ⟨ret_bool HN.out.symm, HB.out⟩

theorem ext_pat {l1 l2 : List Pat} (hl : l1.length = l2.length) (h : ∀ j, j < l1.length → (atK patK l1 j) = (atK patK l2 j)) : l1 = l2 := by
  refine List.ext_getElem hl fun j h1 h2 => ?_
  have := h j h1
  rw [atK_eq h1, atK_eq h2] at this
  exact this

set_option maxHeartbeats 1000000 in
theorem equal_pat (v1 v2 : Value) (l1 l2 : List Pat) (w : World) (h1 : IRow patK w v1 l1) (h2 : IRow patK w v2 l2) : Calls Tryz.prog 103 #[v1, v2] w fun e w' => e = .returned (.bool (sameL l1 l2)) ∧ Below w.heap.size w w' := by
  obtain ⟨a1, c1, rfl, b1, m1, H1⟩ := h1
  obtain ⟨a2, c2, rfl, b2, m2, H2⟩ := h2
  have K1 := hideP H1
  have K2 := hideP H2
  unfold maxLen at m1 m2
  clear H1 H2
  by_cases hlen : l1.length = l2.length
  case neg =>
    rw [sameL_no (fun e => hlen (by rw [e]))]
    have hq : ((l1.length : Int) == (l2.length : Int)) = false := by simp; omega
    go_enter Tryz.func103, Tryz.ntmps103
    go_wp2
    go_ret
    exact ⟨rfl, Below.refl _ _⟩
  have HL := hideP hlen
  have b2' : l1.length ≤ c2 := by omega
  rw [← hlen]
  clear hlen b2
  go_enter Tryz.func103, Tryz.ntmps103
  go_wp2
  go_loopw [13] (fun i wr => ∃ k : Nat, k ≤ l1.length ∧ i = .int .i64 (k : Int) ∧ Hid (∀ j, j < k → (atK patK l1 j) = (atK patK l2 j)) ∧ Below w.heap.size w wr) (fun i _ => l1.length - (intOf i).toNat)
  case atStart => exact ⟨0, Nat.zero_le _, rfl, fun j hj => by omega, Below.refl _ _⟩
  case round =>
    obtain ⟨k, hk, rfl, HF, hB⟩ := hrel
    have HB := hideP hB
    clear hB
    by_cases hlt : k < l1.length
    · obtain ⟨g1, rfl, hg1, x1⟩ := K1.out k hlt
      obtain ⟨g2, rfl, hg2, x2⟩ := K2.out k (by have := HL.out; omega)
      have a0 : ∀ y : Later wr, y.w.cell? ⟨g1, k * 3, none⟩ = some (.int .i64 (atK patK l1 k).day) := fun y => Later.at (x1.below HB.out hg1).pat.1 y
      have a1 : ∀ y : Later wr, y.w.cell? ⟨g1, k * 3 + 1, none⟩ = some (.int .i64 (atK patK l1 k).mon) := fun y => Later.at (x1.below HB.out hg1).pat.2.1 y
      have a2 : ∀ y : Later wr, y.w.cell? ⟨g1, k * 3 + 2, none⟩ = some (.int .i64 (atK patK l1 k).dom) := fun y => Later.at (x1.below HB.out hg1).pat.2.2 y
      have d0 : ∀ y : Later wr, y.w.cell? ⟨g2, k * 3, none⟩ = some (.int .i64 (atK patK l2 k).day) := fun y => Later.at (x2.below HB.out hg2).pat.1 y
      have d1 : ∀ y : Later wr, y.w.cell? ⟨g2, k * 3 + 1, none⟩ = some (.int .i64 (atK patK l2 k).mon) := fun y => Later.at (x2.below HB.out hg2).pat.2.1 y
      have d2 : ∀ y : Later wr, y.w.cell? ⟨g2, k * 3 + 2, none⟩ = some (.int .i64 (atK patK l2 k).dom) := fun y => Later.at (x2.below HB.out hg2).pat.2.2 y
      have HJ : Hid ((atK patK l1 k) = (atK patK l2 k) → ∀ j, j < k + 1 → (atK patK l1 j) = (atK patK l2 j)) := fun g j hj => by
        by_cases e : j = k
        · subst e; exact g
        · exact HF.out j (by omega)
      have HO : Hid (¬ (atK patK l1 k) = (atK patK l2 k) → sameL l1 l2 = false) := fun g => sameL_no (fun e => g (by rw [e]))
      clear x1 x2
      generalize (atK patK l1 k) = r1 at *
      generalize (atK patK l2 k) = r2 at *
      by_cases q0 : r1.day = r2.day
      case neg =>
        have HN := hideP (HO.out (fun e => q0 (by rw [e])))
        go_wp2_with fail
        refine wp_region_later (W := wr) (Below.refl _ _) (by kernel_rfl) (by kernel_rfl) ?_
        repeat (go_big_quiet_step (fail))
        refine wpQuiet_nil ?_
        intro _ hw'
        obtain ⟨x, rfl⟩ := hw'
        have HB1 : Hid (Below w.heap.size w x.w) := HB.out.trans (x.below.mono HB.out.size)
        go_wp2
        go_ret
        exact ⟨ret_bool HN.out.symm, HB1.out⟩
      by_cases q1 : r1.mon = r2.mon
      case neg =>
        have HN := hideP (HO.out (fun e => q1 (by rw [e])))
        go_wp2_with fail
        refine wp_region_later (W := wr) (Below.refl _ _) (by kernel_rfl) (by kernel_rfl) ?_
        repeat (go_big_quiet_step (fail))
        refine wpQuiet_nil ?_
        intro _ hw'
        obtain ⟨x, rfl⟩ := hw'
        have HB1 : Hid (Below w.heap.size w x.w) := HB.out.trans (x.below.mono HB.out.size)
        go_wp2
        go_ret
        exact ⟨ret_bool HN.out.symm, HB1.out⟩
      by_cases q2 : r1.dom = r2.dom
      case neg =>
        have HN := hideP (HO.out (fun e => q2 (by rw [e])))
        go_wp2_with fail
        refine wp_region_later (W := wr) (Below.refl _ _) (by kernel_rfl) (by kernel_rfl) ?_
        repeat (go_big_quiet_step (fail))
        refine wpQuiet_nil ?_
        intro _ hw'
        obtain ⟨x, rfl⟩ := hw'
        have HB1 : Hid (Below w.heap.size w x.w) := HB.out.trans (x.below.mono HB.out.size)
        go_wp2
        go_ret
        exact ⟨ret_bool HN.out.symm, HB1.out⟩
      have HN : Hid _ := HJ.out (by
        obtain ⟨x0, x1, x2⟩ := r1
        obtain ⟨y0, y1, y2⟩ := r2
        simp_all)
      go_wp2_with fail
      refine wp_region_later (W := wr) (Below.refl _ _) (by kernel_rfl) (by kernel_rfl) ?_
      repeat (go_big_quiet_step (fail))
      refine wpQuiet_nil ?_
      intro _ hw'
      obtain ⟨x, rfl⟩ := hw'
      have HB1 : Hid (Below w.heap.size w x.w) := HB.out.trans (x.below.mono HB.out.size)
      go_wp2
      exact ⟨⟨k + 1, by omega, by go_num, HN.out, HB1.out⟩, by simp [intOf]; omega⟩
    · have HN : Hid (sameL l1 l2 = true) := sameL_yes (ext_pat HL.out (fun j hj => HF.out j (by omega)))
      go_wp2
      go_ret
      exact ⟨ret_bool HN.out.symm, HB.out⟩

theorem ext_rgn {l1 l2 : List Rgn} (hl : l1.length = l2.length) (h : ∀ j, j < l1.length → (rgA l1 j) = (rgA l2 j)) : l1 = l2 := by
  refine List.ext_getElem hl fun j h1 h2 => ?_
  have := h j h1
  rw [rgA_eq h1, rgA_eq h2] at this
  exact this

set_option maxHeartbeats 1000000 in
theorem equal_rgn (v1 v2 : Value) (l1 l2 : List Rgn) (w : World) (h1 : RRow w v1 l1) (h2 : RRow w v2 l2) : Calls Tryz.prog 104 #[v1, v2] w fun e w' => e = .returned (.bool (sameL l1 l2)) ∧ Below w.heap.size w w' := by
  obtain ⟨a1, c1, rfl, b1, m1, _, H1⟩ := h1
  obtain ⟨a2, c2, rfl, b2, m2, _, H2⟩ := h2
  have K1 := hideP H1
  have K2 := hideP H2
  unfold maxLen at m1 m2
  clear H1 H2
  by_cases hlen : l1.length = l2.length
  case neg =>
    rw [sameL_no (fun e => hlen (by rw [e]))]
    have hq : ((l1.length : Int) == (l2.length : Int)) = false := by simp; omega
    go_enter Tryz.func104, Tryz.ntmps104
    go_wp2
    go_ret
    exact ⟨rfl, Below.refl _ _⟩
  have HL := hideP hlen
  have b2' : l1.length ≤ c2 := by omega
  rw [← hlen]
  clear hlen b2
  go_enter Tryz.func104, Tryz.ntmps104
  go_wp2
  go_loopw [13] (fun i wr => ∃ k : Nat, k ≤ l1.length ∧ i = .int .i64 (k : Int) ∧ Hid (∀ j, j < k → (rgA l1 j) = (rgA l2 j)) ∧ Below w.heap.size w wr) (fun i _ => l1.length - (intOf i).toNat)
  case atStart => exact ⟨0, Nat.zero_le _, rfl, fun j hj => by omega, Below.refl _ _⟩
  case round =>
    obtain ⟨k, hk, rfl, HF, hB⟩ := hrel
    have HB := hideP hB
    clear hB
    by_cases hlt : k < l1.length
    · obtain ⟨g1, rfl, hg1, x1⟩ := K1.out k hlt
      obtain ⟨g2, rfl, hg2, x2⟩ := K2.out k (by have := HL.out; omega)
      have a0 : ∀ y : Later wr, y.w.cell? ⟨g1, k * 3, none⟩ = some (.string (rgA l1 k).name) := fun y => Later.at (x1.below HB.out hg1).1 y
      have a1 : ∀ y : Later wr, y.w.cell? ⟨g1, k * 3 + 1, none⟩ = some (.int .i64 (rgA l1 k).fr) := fun y => Later.at (x1.below HB.out hg1).2.1 y
      have a2 : ∀ y : Later wr, y.w.cell? ⟨g1, k * 3 + 2, none⟩ = some (.int .i64 (rgA l1 k).to) := fun y => Later.at (x1.below HB.out hg1).2.2 y
      have d0 : ∀ y : Later wr, y.w.cell? ⟨g2, k * 3, none⟩ = some (.string (rgA l2 k).name) := fun y => Later.at (x2.below HB.out hg2).1 y
      have d1 : ∀ y : Later wr, y.w.cell? ⟨g2, k * 3 + 1, none⟩ = some (.int .i64 (rgA l2 k).fr) := fun y => Later.at (x2.below HB.out hg2).2.1 y
      have d2 : ∀ y : Later wr, y.w.cell? ⟨g2, k * 3 + 2, none⟩ = some (.int .i64 (rgA l2 k).to) := fun y => Later.at (x2.below HB.out hg2).2.2 y
      have HJ : Hid ((rgA l1 k) = (rgA l2 k) → ∀ j, j < k + 1 → (rgA l1 j) = (rgA l2 j)) := fun g j hj => by
        by_cases e : j = k
        · subst e; exact g
        · exact HF.out j (by omega)
      have HO : Hid (¬ (rgA l1 k) = (rgA l2 k) → sameL l1 l2 = false) := fun g => sameL_no (fun e => g (by rw [e]))
      clear x1 x2
      generalize (rgA l1 k) = r1 at *
      generalize (rgA l2 k) = r2 at *
      by_cases q0 : r1.name.toList = r2.name.toList
      case neg =>
        have HN := hideP (HO.out (fun e => q0 (by rw [e])))
        go_wp2_with fail
        refine wp_region_later (W := wr) (Below.refl _ _) (by kernel_rfl) (by kernel_rfl) ?_
        repeat (go_big_quiet_step (fail))
        refine wpQuiet_nil ?_
        intro _ hw'
        obtain ⟨x, rfl⟩ := hw'
        have HB1 : Hid (Below w.heap.size w x.w) := HB.out.trans (x.below.mono HB.out.size)
        go_wp2
        go_ret
        exact ⟨ret_bool HN.out.symm, HB1.out⟩
      by_cases q1 : r1.fr = r2.fr
      case neg =>
        have HN := hideP (HO.out (fun e => q1 (by rw [e])))
        go_wp2_with fail
        refine wp_region_later (W := wr) (Below.refl _ _) (by kernel_rfl) (by kernel_rfl) ?_
        repeat (go_big_quiet_step (fail))
        refine wpQuiet_nil ?_
        intro _ hw'
        obtain ⟨x, rfl⟩ := hw'
        have HB1 : Hid (Below w.heap.size w x.w) := HB.out.trans (x.below.mono HB.out.size)
        go_wp2
        go_ret
        exact ⟨ret_bool HN.out.symm, HB1.out⟩
      by_cases q2 : r1.to = r2.to
      case neg =>
        have HN := hideP (HO.out (fun e => q2 (by rw [e])))
        go_wp2_with fail
        refine wp_region_later (W := wr) (Below.refl _ _) (by kernel_rfl) (by kernel_rfl) ?_
        repeat (go_big_quiet_step (fail))
        refine wpQuiet_nil ?_
        intro _ hw'
        obtain ⟨x, rfl⟩ := hw'
        have HB1 : Hid (Below w.heap.size w x.w) := HB.out.trans (x.below.mono HB.out.size)
        go_wp2
        go_ret
        exact ⟨ret_bool HN.out.symm, HB1.out⟩
      have HN : Hid _ := HJ.out (by
        obtain ⟨x0, x1, x2⟩ := r1
        obtain ⟨y0, y1, y2⟩ := r2
        have q0' := str_eq (a := x0) (b := y0) (by simpa using q0)
        simp_all)
      go_wp2_with fail
      refine wp_region_later (W := wr) (Below.refl _ _) (by kernel_rfl) (by kernel_rfl) ?_
      repeat (go_big_quiet_step (fail))
      refine wpQuiet_nil ?_
      intro _ hw'
      obtain ⟨x, rfl⟩ := hw'
      have HB1 : Hid (Below w.heap.size w x.w) := HB.out.trans (x.below.mono HB.out.size)
      go_wp2
      exact ⟨⟨k + 1, by omega, by go_num, HN.out, HB1.out⟩, by simp [intOf]; omega⟩
    · have HN : Hid (sameL l1 l2 = true) := sameL_yes (ext_rgn HL.out (fun j hj => HF.out j (by omega)))
      go_wp2
      go_ret
      exact ⟨ret_bool HN.out.symm, HB.out⟩

end Go.Proofs.YtchhdoipkimbgaaGreatDoor.ctr

namespace Go.Proofs.YtchhdoipkimbgaaGreatDoor.ctr
open Go.RowKit

noncomputable def sameG (a b : Rgm) : Bool := (a.name.toList == b.name.toList) && ((a.fr == b.fr) && ((a.to == b.to) && ((a.rule == b.rule) && (sameL a.segs b.segs && (sameL a.pats b.pats && sameL a.rgns b.rgns)))))

set_option maxHeartbeats 4000000 in
theorem implSameG (v1 v2 : Value) (a b : Rgm) (w : World) (h1 : GRow w v1 a) (h2 : GRow w v2 b) : Calls Tryz.prog 39 #[v1, v2] w fun e w' => e = .returned (.bool (sameG a b)) ∧ Below w.heap.size w w' := by
  obtain ⟨an, af, at', sa, ap, ar, au⟩ := a
  obtain ⟨bn, bf, bt, sb, bp, br, bu⟩ := b
  obtain ⟨p1, p2, p3, rfl, hn, x1, x2, x3⟩ := h1
  obtain ⟨q1, q2, q3, rfl, _, y1, y2, y3⟩ := h2
  have KX : Hid (∀ W, Below w.heap.size w W → Calls Tryz.prog 102 #[p1, q1] W fun e w' => e = .returned (.bool (sameL sa sb)) ∧ Below W.heap.size W w') := fun W hb => equal_seg _ _ _ _ W (x1.below hb) (y1.below hb)
  have KY : Hid (∀ W, Below w.heap.size w W → Calls Tryz.prog 103 #[p2, q2] W fun e w' => e = .returned (.bool (sameL ap bp)) ∧ Below W.heap.size W w') := fun W hb => equal_pat _ _ _ _ W (x2.below hb) (y2.below hb)
  have KZ : Hid (∀ W, Below w.heap.size w W → Calls Tryz.prog 104 #[p3, q3] W fun e w' => e = .returned (.bool (sameL ar br)) ∧ Below W.heap.size W w') := fun W hb => equal_rgn _ _ _ _ W (x3.below hb) (y3.below hb)
  obtain ⟨a11, c11, rfl, b11, m11, R11⟩ := x1
  obtain ⟨a12, c12, rfl, b12, m12, R12⟩ := x2
  obtain ⟨a13, c13, rfl, b13, m13, _, R13⟩ := x3
  obtain ⟨a21, c21, rfl, b21, m21, R21⟩ := y1
  obtain ⟨a22, c22, rfl, b22, m22, R22⟩ := y2
  obtain ⟨a23, c23, rfl, b23, m23, _, R23⟩ := y3
  generalize e11 : sa.length = n11 at *
  generalize e12 : ap.length = n12 at *
  generalize e13 : ar.length = n13 at *
  generalize e21 : sb.length = n21 at *
  generalize e22 : bp.length = n22 at *
  generalize e23 : br.length = n23 at *
  have E11 := hideP e11
  have E12 := hideP e12
  have E13 := hideP e13
  have E21 := hideP e21
  have E22 := hideP e22
  have E23 := hideP e23
  clear e11 e12 e13 e21 e22 e23
  have Q11 := hideP R11
  have Q12 := hideP R12
  have Q13 := hideP R13
  have Q21 := hideP R21
  have Q22 := hideP R22
  have Q23 := hideP R23
  clear R11 R12 R13 R21 R22 R23
  unfold maxLen at m11 m12 m13 m21 m22 m23
  obtain ⟨W0, hW0⟩ : ∃ W0, W0 = (w.alloc (.cells #[.string an, .int .i64 af, .int .i64 at', .slice a11 n11 c11, .slice a12 n12 c12, .slice a13 n13 c13, .int .i64 au] 29)).alloc (.cells #[.string bn, .int .i64 bf, .int .i64 bt, .slice a21 n21 c21, .slice a22 n22 c22, .slice a23 n23 c23, .int .i64 bu] 29) := ⟨_, rfl⟩
  have hX1 : Blk W0 w.heap.size #[.string an, .int .i64 af, .int .i64 at', .slice a11 n11 c11, .slice a12 n12 c12, .slice a13 n13 c13, .int .i64 au] 29 := by rw [hW0]; exact (Blk.new w _ _).alloc _
  have hX2 : Blk W0 (w.heap.size + 1) #[.string bn, .int .i64 bf, .int .i64 bt, .slice a21 n21 c21, .slice a22 n22 c22, .slice a23 n23 c23, .int .i64 bu] 29 := by rw [hW0]; have := Blk.new (w.alloc (.cells #[.string an, .int .i64 af, .int .i64 at', .slice a11 n11 c11, .slice a12 n12 c12, .slice a13 n13 c13, .int .i64 au] 29)) #[.string bn, .int .i64 bf, .int .i64 bt, .slice a21 n21 c21, .slice a22 n22 c22, .slice a23 n23 c23, .int .i64 bu] 29; rw [World.size_alloc] at this; exact this
  have hW : Below w.heap.size w W0 := by rw [hW0]; exact ((Below.refl _ _).alloc (Nat.le_refl _) _).alloc (by rw [World.size_alloc]; omega) _
  have hBl : ∀ x : Later W0, Below w.heap.size w x.w := fun x => hW.trans (x.below.mono hW.size)
  have HX1 := hideP hX1
  have HX2 := hideP hX2
  have HBl := hideP hBl
  have HW0 := hideP hW0
  have HW := hideP hW
  clear hX1 hX2 hBl hW0 hW hn
  have d0 : ∀ x : Later W0, x.w.cell? ⟨w.heap.size, 0, none⟩ = some (.string an) := fun x => (HX1.out.later x).cell 0 rfl
  have d1 : ∀ x : Later W0, x.w.cell? ⟨w.heap.size, 1, none⟩ = some (.int .i64 af) := fun x => (HX1.out.later x).cell 1 rfl
  have d2 : ∀ x : Later W0, x.w.cell? ⟨w.heap.size, 2, none⟩ = some (.int .i64 at') := fun x => (HX1.out.later x).cell 2 rfl
  have d3 : ∀ x : Later W0, x.w.cell? ⟨w.heap.size, 3, none⟩ = some (.slice a11 n11 c11) := fun x => (HX1.out.later x).cell 3 rfl
  have d4 : ∀ x : Later W0, x.w.cell? ⟨w.heap.size, 4, none⟩ = some (.slice a12 n12 c12) := fun x => (HX1.out.later x).cell 4 rfl
  have d5 : ∀ x : Later W0, x.w.cell? ⟨w.heap.size, 5, none⟩ = some (.slice a13 n13 c13) := fun x => (HX1.out.later x).cell 5 rfl
  have d6 : ∀ x : Later W0, x.w.cell? ⟨w.heap.size, 6, none⟩ = some (.int .i64 au) := fun x => (HX1.out.later x).cell 6 rfl
  have f0 : ∀ x : Later W0, x.w.cell? ⟨w.heap.size + 1, 0, none⟩ = some (.string bn) := fun x => (HX2.out.later x).cell 0 rfl
  have f1 : ∀ x : Later W0, x.w.cell? ⟨w.heap.size + 1, 1, none⟩ = some (.int .i64 bf) := fun x => (HX2.out.later x).cell 1 rfl
  have f2 : ∀ x : Later W0, x.w.cell? ⟨w.heap.size + 1, 2, none⟩ = some (.int .i64 bt) := fun x => (HX2.out.later x).cell 2 rfl
  have f3 : ∀ x : Later W0, x.w.cell? ⟨w.heap.size + 1, 3, none⟩ = some (.slice a21 n21 c21) := fun x => (HX2.out.later x).cell 3 rfl
  have f4 : ∀ x : Later W0, x.w.cell? ⟨w.heap.size + 1, 4, none⟩ = some (.slice a22 n22 c22) := fun x => (HX2.out.later x).cell 4 rfl
  have f5 : ∀ x : Later W0, x.w.cell? ⟨w.heap.size + 1, 5, none⟩ = some (.slice a23 n23 c23) := fun x => (HX2.out.later x).cell 5 rfl
  have f6 : ∀ x : Later W0, x.w.cell? ⟨w.heap.size + 1, 6, none⟩ = some (.int .i64 bu) := fun x => (HX2.out.later x).cell 6 rfl
  unfold sameG
  dsimp only
  clear d0 d1 d2 d6 f0 f1 f2 f6
  generalize sameL sa sb = b1 at *
  generalize sameL ap bp = b2 at *
  generalize sameL ar br = b3 at *
  by_cases q0 : an = bn
  case neg =>
    have hq : (an.toList == bn.toList) = false := by cases hh : (an.toList == bn.toList); rfl; exact absurd (str_eq hh) q0
    rw [hq, Bool.false_and]
    go_enter Tryz.func39, Tryz.ntmps39
    go_wp2_with fail
    go_ret
    exact ⟨rfl, ((Below.refl _ _).alloc (Nat.le_refl _) _).alloc (by rw [World.size_alloc]; omega) _⟩
  subst q0
  simp only [beq_self_eq_true, Bool.true_and]
  by_cases q1 : af = bf
  case neg =>
    have hq : (af == bf) = false := by simp [q1]
    rw [hq, Bool.false_and]
    go_enter Tryz.func39, Tryz.ntmps39
    go_wp2_with fail
    go_ret
    exact ⟨rfl, ((Below.refl _ _).alloc (Nat.le_refl _) _).alloc (by rw [World.size_alloc]; omega) _⟩
  subst q1
  simp only [beq_self_eq_true, Bool.true_and]
  by_cases q2 : at' = bt
  case neg =>
    have hq : (at' == bt) = false := by simp [q2]
    rw [hq, Bool.false_and]
    go_enter Tryz.func39, Tryz.ntmps39
    go_wp2_with fail
    go_ret
    exact ⟨rfl, ((Below.refl _ _).alloc (Nat.le_refl _) _).alloc (by rw [World.size_alloc]; omega) _⟩
  subst q2
  simp only [beq_self_eq_true, Bool.true_and]
  by_cases q3 : au = bu
  case neg =>
    have hq : (au == bu) = false := by simp [q3]
    rw [hq, Bool.false_and]
    go_enter Tryz.func39, Tryz.ntmps39
    go_wp2_with fail
    go_ret
    exact ⟨rfl, ((Below.refl _ _).alloc (Nat.le_refl _) _).alloc (by rw [World.size_alloc]; omega) _⟩
  subst q3
  simp only [beq_self_eq_true, Bool.true_and]
  cases b1
  · rw [Bool.false_and]
    go_enter Tryz.func39, Tryz.ntmps39
    go_wp2_with fail
    rw [← HW0.out]
    refine (KX.out _ (HBl.out ⟨W0, Below.refl _ _⟩)).mono ?_
    rintro e w1 ⟨rfl, hb⟩
    obtain ⟨x1, rfl⟩ := Later.of hb
    clear hb
    go_wp2_with fail
    go_ret
    exact ⟨rfl, HBl.out x1⟩
  rw [Bool.true_and]
  cases b2
  · rw [Bool.false_and]
    go_enter Tryz.func39, Tryz.ntmps39
    go_wp2_with fail
    rw [← HW0.out]
    refine (KX.out _ (HBl.out ⟨W0, Below.refl _ _⟩)).mono ?_
    rintro e w1 ⟨rfl, hb⟩
    obtain ⟨x1, rfl⟩ := Later.of hb
    clear hb
    go_wp2_with fail
    refine (KY.out _ (HBl.out x1)).mono ?_
    rintro e w2 ⟨rfl, hb⟩
    obtain ⟨x2, rfl⟩ := x1.next hb
    clear hb
    go_wp2_with fail
    go_ret
    exact ⟨rfl, HBl.out x2⟩
  rw [Bool.true_and]
  go_enter Tryz.func39, Tryz.ntmps39
  go_wp2_with fail
  rw [← HW0.out]
  refine (KX.out _ (HBl.out ⟨W0, Below.refl _ _⟩)).mono ?_
  rintro e w1 ⟨rfl, hb⟩
  obtain ⟨x1, rfl⟩ := Later.of hb
  clear hb
  go_wp2_with fail
  refine (KY.out _ (HBl.out x1)).mono ?_
  rintro e w2 ⟨rfl, hb⟩
  obtain ⟨x2, rfl⟩ := x1.next hb
  clear hb
  go_wp2_with fail
  refine (KZ.out _ (HBl.out x2)).mono ?_
  rintro e w3 ⟨rfl, hb⟩
  obtain ⟨x3, rfl⟩ := x2.next hb
  clear hb
  go_wp2_with fail
  go_ret
  exact ⟨rfl, HBl.out x3⟩

end Go.Proofs.YtchhdoipkimbgaaGreatDoor.ctr

namespace Go.Proofs.YtchhdoipkimbgaaGreatDoor.ctr
open Go.RowKit

set_option maxHeartbeats 4000000 in
theorem lawsSame (v1 v2 : Value) (a b : Rgm) (w : World) (h1 : GRow w v1 a) (h2 : GRow w v2 b) : Calls Tryz.prog 19 #[v1, v2] w fun e w' => e = .returned (.bool (sameG a b)) ∧ Below w.heap.size w w' := by
  obtain ⟨an, af, at', sa, ap, ar, au⟩ := a
  obtain ⟨bn, bf, bt, sb, bp, br, bu⟩ := b
  obtain ⟨p1, p2, p3, rfl, hn, x1, x2, x3⟩ := h1
  obtain ⟨q1, q2, q3, rfl, _, y1, y2, y3⟩ := h2
  obtain ⟨a11, c11, rfl, b11, m11, R11⟩ := x1
  obtain ⟨a12, c12, rfl, b12, m12, R12⟩ := x2
  obtain ⟨a13, c13, rfl, b13, m13, _, R13⟩ := x3
  obtain ⟨a21, c21, rfl, b21, m21, R21⟩ := y1
  obtain ⟨a22, c22, rfl, b22, m22, R22⟩ := y2
  obtain ⟨a23, c23, rfl, b23, m23, _, R23⟩ := y3
  generalize e11 : sa.length = n11 at *
  generalize e12 : ap.length = n12 at *
  generalize e13 : ar.length = n13 at *
  generalize e21 : sb.length = n21 at *
  generalize e22 : bp.length = n22 at *
  generalize e23 : br.length = n23 at *
  have E11 := hideP e11
  have E12 := hideP e12
  have E13 := hideP e13
  have E21 := hideP e21
  have E22 := hideP e22
  have E23 := hideP e23
  clear e11 e12 e13 e21 e22 e23
  have Q11 := hideP R11
  have Q12 := hideP R12
  have Q13 := hideP R13
  have Q21 := hideP R21
  have Q22 := hideP R22
  have Q23 := hideP R23
  clear R11 R12 R13 R21 R22 R23
  unfold maxLen at m11 m12 m13 m21 m22 m23
  obtain ⟨W0, hW0⟩ : ∃ W0, W0 = (w.alloc (.cells #[.string an, .int .i64 af, .int .i64 at', .slice a11 n11 c11, .slice a12 n12 c12, .slice a13 n13 c13, .int .i64 au] 29)).alloc (.cells #[.string bn, .int .i64 bf, .int .i64 bt, .slice a21 n21 c21, .slice a22 n22 c22, .slice a23 n23 c23, .int .i64 bu] 29) := ⟨_, rfl⟩
  have hX1 : Blk W0 w.heap.size #[.string an, .int .i64 af, .int .i64 at', .slice a11 n11 c11, .slice a12 n12 c12, .slice a13 n13 c13, .int .i64 au] 29 := by rw [hW0]; exact (Blk.new w _ _).alloc _
  have hX2 : Blk W0 (w.heap.size + 1) #[.string bn, .int .i64 bf, .int .i64 bt, .slice a21 n21 c21, .slice a22 n22 c22, .slice a23 n23 c23, .int .i64 bu] 29 := by rw [hW0]; have := Blk.new (w.alloc (.cells #[.string an, .int .i64 af, .int .i64 at', .slice a11 n11 c11, .slice a12 n12 c12, .slice a13 n13 c13, .int .i64 au] 29)) #[.string bn, .int .i64 bf, .int .i64 bt, .slice a21 n21 c21, .slice a22 n22 c22, .slice a23 n23 c23, .int .i64 bu] 29; rw [World.size_alloc] at this; exact this
  have hW : Below w.heap.size w W0 := by rw [hW0]; exact ((Below.refl _ _).alloc (Nat.le_refl _) _).alloc (by rw [World.size_alloc]; omega) _
  have hBl : ∀ x : Later W0, Below w.heap.size w x.w := fun x => hW.trans (x.below.mono hW.size)
  have HX1 := hideP hX1
  have HX2 := hideP hX2
  have HBl := hideP hBl
  have HW0 := hideP hW0
  have HW := hideP hW
  clear hX1 hX2 hBl hW0 hW hn
  have d0 : ∀ x : Later W0, x.w.cell? ⟨w.heap.size, 0, none⟩ = some (.string an) := fun x => (HX1.out.later x).cell 0 rfl
  have d1 : ∀ x : Later W0, x.w.cell? ⟨w.heap.size, 1, none⟩ = some (.int .i64 af) := fun x => (HX1.out.later x).cell 1 rfl
  have d2 : ∀ x : Later W0, x.w.cell? ⟨w.heap.size, 2, none⟩ = some (.int .i64 at') := fun x => (HX1.out.later x).cell 2 rfl
  have d3 : ∀ x : Later W0, x.w.cell? ⟨w.heap.size, 3, none⟩ = some (.slice a11 n11 c11) := fun x => (HX1.out.later x).cell 3 rfl
  have d4 : ∀ x : Later W0, x.w.cell? ⟨w.heap.size, 4, none⟩ = some (.slice a12 n12 c12) := fun x => (HX1.out.later x).cell 4 rfl
  have d5 : ∀ x : Later W0, x.w.cell? ⟨w.heap.size, 5, none⟩ = some (.slice a13 n13 c13) := fun x => (HX1.out.later x).cell 5 rfl
  have d6 : ∀ x : Later W0, x.w.cell? ⟨w.heap.size, 6, none⟩ = some (.int .i64 au) := fun x => (HX1.out.later x).cell 6 rfl
  have f0 : ∀ x : Later W0, x.w.cell? ⟨w.heap.size + 1, 0, none⟩ = some (.string bn) := fun x => (HX2.out.later x).cell 0 rfl
  have f1 : ∀ x : Later W0, x.w.cell? ⟨w.heap.size + 1, 1, none⟩ = some (.int .i64 bf) := fun x => (HX2.out.later x).cell 1 rfl
  have f2 : ∀ x : Later W0, x.w.cell? ⟨w.heap.size + 1, 2, none⟩ = some (.int .i64 bt) := fun x => (HX2.out.later x).cell 2 rfl
  have f3 : ∀ x : Later W0, x.w.cell? ⟨w.heap.size + 1, 3, none⟩ = some (.slice a21 n21 c21) := fun x => (HX2.out.later x).cell 3 rfl
  have f4 : ∀ x : Later W0, x.w.cell? ⟨w.heap.size + 1, 4, none⟩ = some (.slice a22 n22 c22) := fun x => (HX2.out.later x).cell 4 rfl
  have f5 : ∀ x : Later W0, x.w.cell? ⟨w.heap.size + 1, 5, none⟩ = some (.slice a23 n23 c23) := fun x => (HX2.out.later x).cell 5 rfl
  have f6 : ∀ x : Later W0, x.w.cell? ⟨w.heap.size + 1, 6, none⟩ = some (.int .i64 bu) := fun x => (HX2.out.later x).cell 6 rfl
  unfold sameG
  dsimp only
  by_cases q0 : an = bn
  case neg =>
    have hq : (an.toList == bn.toList) = false := by cases hh : (an.toList == bn.toList); rfl; exact absurd (str_eq hh) q0
    rw [hq, Bool.false_and]
    go_enter Tryz.func19, Tryz.ntmps19
    go_wp2_with fail
    go_ret
    exact ⟨rfl, ((Below.refl _ _).alloc (Nat.le_refl _) _).alloc (by rw [World.size_alloc]; omega) _⟩
  subst q0
  simp only [beq_self_eq_true, Bool.true_and]
  by_cases q1 : af = bf
  case neg =>
    have hq : (af == bf) = false := by simp [q1]
    rw [hq, Bool.false_and]
    go_enter Tryz.func19, Tryz.ntmps19
    go_wp2_with fail
    go_ret
    exact ⟨rfl, ((Below.refl _ _).alloc (Nat.le_refl _) _).alloc (by rw [World.size_alloc]; omega) _⟩
  subst q1
  simp only [beq_self_eq_true, Bool.true_and]
  by_cases q2 : at' = bt
  case neg =>
    have hq : (at' == bt) = false := by simp [q2]
    rw [hq, Bool.false_and]
    go_enter Tryz.func19, Tryz.ntmps19
    go_wp2_with fail
    go_ret
    exact ⟨rfl, ((Below.refl _ _).alloc (Nat.le_refl _) _).alloc (by rw [World.size_alloc]; omega) _⟩
  subst q2
  simp only [beq_self_eq_true, Bool.true_and]
  by_cases q3 : au = bu
  case neg =>
    have hq : (au == bu) = false := by simp [q3]
    rw [hq, Bool.false_and]
    go_enter Tryz.func19, Tryz.ntmps19
    go_wp2_with fail
    go_ret
    exact ⟨rfl, ((Below.refl _ _).alloc (Nat.le_refl _) _).alloc (by rw [World.size_alloc]; omega) _⟩
  subst q3
  simp only [beq_self_eq_true, Bool.true_and]
  by_cases g1 : n11 = n21
  case neg =>
    have hq : ((n11 : Int) == (n21 : Int)) = false := by simp; omega
    have HN : Hid (sameL sa sb = false) := sameL_no (fun e => g1 (by rw [← E11.out, ← E21.out, e]))
    rw [HN.out]
    simp only [Bool.false_and]
    go_enter Tryz.func19, Tryz.ntmps19
    go_wp2_with fail
    go_ret
    exact ⟨rfl, ((Below.refl _ _).alloc (Nat.le_refl _) _).alloc (by rw [World.size_alloc]; omega) _⟩
  subst g1
  by_cases g2 : n12 = n22
  case neg =>
    have hq : ((n12 : Int) == (n22 : Int)) = false := by simp; omega
    have HN : Hid (sameL ap bp = false) := sameL_no (fun e => g2 (by rw [← E12.out, ← E22.out, e]))
    rw [HN.out]
    simp only [Bool.false_and, Bool.and_false]
    go_enter Tryz.func19, Tryz.ntmps19
    go_wp2_with fail
    go_ret
    exact ⟨rfl, ((Below.refl _ _).alloc (Nat.le_refl _) _).alloc (by rw [World.size_alloc]; omega) _⟩
  subst g2
  by_cases g3 : n13 = n23
  case neg =>
    have hq : ((n13 : Int) == (n23 : Int)) = false := by simp; omega
    have HN : Hid (sameL ar br = false) := sameL_no (fun e => g3 (by rw [← E13.out, ← E23.out, e]))
    rw [HN.out]
    simp only [Bool.and_false]
    go_enter Tryz.func19, Tryz.ntmps19
    go_wp2_with fail
    go_ret
    exact ⟨rfl, ((Below.refl _ _).alloc (Nat.le_refl _) _).alloc (by rw [World.size_alloc]; omega) _⟩
  subst g3
  go_enter Tryz.func19, Tryz.ntmps19
  go_wp2
  rw [← HW0.out]
  go_loopw [5] (fun i wr => ∃ k : Nat, k ≤ n11 ∧ i = .int .i64 (k : Int) ∧ Hid (∀ j, j < k → (atK segK sa j) = (atK segK sb j)) ∧ ∃ y : Later W0, wr = y.w) (fun i _ => n11 - (intOf i).toNat)
  case atStart => exact ⟨0, Nat.zero_le _, rfl, fun j hj => by omega, ⟨W0, Below.refl _ _⟩, rfl⟩
  case round =>
    obtain ⟨k, hk, rfl, HF, y, rfl⟩ := hrel
    by_cases hlt : k < n11
    case pos =>
      obtain ⟨z1, rfl, hz1, w1⟩ := Q11.out k hlt
      obtain ⟨z2, rfl, hz2, w2⟩ := Q21.out k hlt
      have u0 : ∀ y : Later W0, y.w.cell? ⟨z1, k * 5, none⟩ = some (.int .i64 (atK segK sa k).fr) := fun y => (w1.below (HBl.out y) hz1).seg.1
      have u1 : ∀ y : Later W0, y.w.cell? ⟨z1, k * 5 + 1, none⟩ = some (.int .i64 (atK segK sa k).to) := fun y => (w1.below (HBl.out y) hz1).seg.2.1
      have u2 : ∀ y : Later W0, y.w.cell? ⟨z1, k * 5 + 2, none⟩ = some (.int .i64 (atK segK sa k).cal) := fun y => (w1.below (HBl.out y) hz1).seg.2.2.1
      have u3 : ∀ y : Later W0, y.w.cell? ⟨z1, k * 5 + 3, none⟩ = some (.int .i64 (atK segK sa k).sty) := fun y => (w1.below (HBl.out y) hz1).seg.2.2.2.1
      have u4 : ∀ y : Later W0, y.w.cell? ⟨z1, k * 5 + 4, none⟩ = some (.int .i64 (atK segK sa k).off) := fun y => (w1.below (HBl.out y) hz1).seg.2.2.2.2
      have v0 : ∀ y : Later W0, y.w.cell? ⟨z2, k * 5, none⟩ = some (.int .i64 (atK segK sb k).fr) := fun y => (w2.below (HBl.out y) hz2).seg.1
      have v1 : ∀ y : Later W0, y.w.cell? ⟨z2, k * 5 + 1, none⟩ = some (.int .i64 (atK segK sb k).to) := fun y => (w2.below (HBl.out y) hz2).seg.2.1
      have v2 : ∀ y : Later W0, y.w.cell? ⟨z2, k * 5 + 2, none⟩ = some (.int .i64 (atK segK sb k).cal) := fun y => (w2.below (HBl.out y) hz2).seg.2.2.1
      have v3 : ∀ y : Later W0, y.w.cell? ⟨z2, k * 5 + 3, none⟩ = some (.int .i64 (atK segK sb k).sty) := fun y => (w2.below (HBl.out y) hz2).seg.2.2.2.1
      have v4 : ∀ y : Later W0, y.w.cell? ⟨z2, k * 5 + 4, none⟩ = some (.int .i64 (atK segK sb k).off) := fun y => (w2.below (HBl.out y) hz2).seg.2.2.2.2
      have HJ : Hid ((atK segK sa k) = (atK segK sb k) → ∀ j, j < k + 1 → (atK segK sa j) = (atK segK sb j)) := fun g j hj => by
        by_cases e : j = k
        · subst e; exact g
        · exact HF.out j (by omega)
      have HO : Hid (¬ (atK segK sa k) = (atK segK sb k) → sameL sa sb = false) := fun g => sameL_no (fun e => g (by rw [e]))
      clear w1 w2
      generalize (atK segK sa k) = r1 at *
      generalize (atK segK sb k) = r2 at *
      by_cases t0 : r1.fr = r2.fr
      case neg =>
        have HN := hideP (HO.out (fun e => t0 (by rw [e])))
        go_wp2_with fail
        refine wp_region_later (W := W0) y.below (by kernel_rfl) (by kernel_rfl) ?_
        repeat (go_big_quiet_step (fail))
        refine wpQuiet_nil ?_
        intro _ hw'
        obtain ⟨x, rfl⟩ := hw'
        go_wp2
        go_ret
        exact ⟨ret_bool (by rw [HN.out]; simp), HBl.out x⟩
      by_cases t1 : r1.to = r2.to
      case neg =>
        have HN := hideP (HO.out (fun e => t1 (by rw [e])))
        go_wp2_with fail
        refine wp_region_later (W := W0) y.below (by kernel_rfl) (by kernel_rfl) ?_
        repeat (go_big_quiet_step (fail))
        refine wpQuiet_nil ?_
        intro _ hw'
        obtain ⟨x, rfl⟩ := hw'
        go_wp2
        go_ret
        exact ⟨ret_bool (by rw [HN.out]; simp), HBl.out x⟩
      by_cases t2 : r1.cal = r2.cal
      case neg =>
        have HN := hideP (HO.out (fun e => t2 (by rw [e])))
        go_wp2_with fail
        refine wp_region_later (W := W0) y.below (by kernel_rfl) (by kernel_rfl) ?_
        repeat (go_big_quiet_step (fail))
        refine wpQuiet_nil ?_
        intro _ hw'
        obtain ⟨x, rfl⟩ := hw'
        go_wp2
        go_ret
        exact ⟨ret_bool (by rw [HN.out]; simp), HBl.out x⟩
      by_cases t3 : r1.sty = r2.sty
      case neg =>
        have HN := hideP (HO.out (fun e => t3 (by rw [e])))
        go_wp2_with fail
        refine wp_region_later (W := W0) y.below (by kernel_rfl) (by kernel_rfl) ?_
        repeat (go_big_quiet_step (fail))
        refine wpQuiet_nil ?_
        intro _ hw'
        obtain ⟨x, rfl⟩ := hw'
        go_wp2
        go_ret
        exact ⟨ret_bool (by rw [HN.out]; simp), HBl.out x⟩
      by_cases t4 : r1.off = r2.off
      case neg =>
        have HN := hideP (HO.out (fun e => t4 (by rw [e])))
        go_wp2_with fail
        refine wp_region_later (W := W0) y.below (by kernel_rfl) (by kernel_rfl) ?_
        repeat (go_big_quiet_step (fail))
        refine wpQuiet_nil ?_
        intro _ hw'
        obtain ⟨x, rfl⟩ := hw'
        go_wp2
        go_ret
        exact ⟨ret_bool (by rw [HN.out]; simp), HBl.out x⟩
      have HN : Hid _ := HJ.out (by
        obtain ⟨x0, x1, x2, x3, x4⟩ := r1
        obtain ⟨y0, y1, y2, y3, y4⟩ := r2
        simp_all)
      go_wp2_with fail
      refine wp_region_later (W := W0) y.below (by kernel_rfl) (by kernel_rfl) ?_
      repeat (go_big_quiet_step (fail))
      refine wpQuiet_nil ?_
      intro _ hw'
      obtain ⟨x, rfl⟩ := hw'
      go_wp2
      exact ⟨⟨k + 1, by omega, by go_num, HN.out, x, rfl⟩, by simp [intOf]; omega⟩
    have E5 : Hid (sameL sa sb = true) := sameL_yes (ext_seg (E11.out.trans E21.out.symm) (fun j hj => HF.out j (by rw [E11.out] at hj; omega)))
    clear HF
    go_wp2
    go_loopw [6] (fun i wr => ∃ k : Nat, k ≤ n12 ∧ i = .int .i64 (k : Int) ∧ Hid (∀ j, j < k → (atK patK ap j) = (atK patK bp j)) ∧ ∃ y : Later W0, wr = y.w) (fun i _ => n12 - (intOf i).toNat)
    case atStart => exact ⟨0, Nat.zero_le _, rfl, fun j hj => by omega, y, rfl⟩
    case round =>
      obtain ⟨k, hk, rfl, HF, y, rfl⟩ := hrel
      by_cases hlt : k < n12
      case pos =>
        obtain ⟨z1, rfl, hz1, w1⟩ := Q12.out k hlt
        obtain ⟨z2, rfl, hz2, w2⟩ := Q22.out k hlt
        have u0 : ∀ y : Later W0, y.w.cell? ⟨z1, k * 3, none⟩ = some (.int .i64 (atK patK ap k).day) := fun y => (w1.below (HBl.out y) hz1).pat.1
        have u1 : ∀ y : Later W0, y.w.cell? ⟨z1, k * 3 + 1, none⟩ = some (.int .i64 (atK patK ap k).mon) := fun y => (w1.below (HBl.out y) hz1).pat.2.1
        have u2 : ∀ y : Later W0, y.w.cell? ⟨z1, k * 3 + 2, none⟩ = some (.int .i64 (atK patK ap k).dom) := fun y => (w1.below (HBl.out y) hz1).pat.2.2
        have v0 : ∀ y : Later W0, y.w.cell? ⟨z2, k * 3, none⟩ = some (.int .i64 (atK patK bp k).day) := fun y => (w2.below (HBl.out y) hz2).pat.1
        have v1 : ∀ y : Later W0, y.w.cell? ⟨z2, k * 3 + 1, none⟩ = some (.int .i64 (atK patK bp k).mon) := fun y => (w2.below (HBl.out y) hz2).pat.2.1
        have v2 : ∀ y : Later W0, y.w.cell? ⟨z2, k * 3 + 2, none⟩ = some (.int .i64 (atK patK bp k).dom) := fun y => (w2.below (HBl.out y) hz2).pat.2.2
        have HJ : Hid ((atK patK ap k) = (atK patK bp k) → ∀ j, j < k + 1 → (atK patK ap j) = (atK patK bp j)) := fun g j hj => by
          by_cases e : j = k
          · subst e; exact g
          · exact HF.out j (by omega)
        have HO : Hid (¬ (atK patK ap k) = (atK patK bp k) → sameL ap bp = false) := fun g => sameL_no (fun e => g (by rw [e]))
        clear w1 w2
        generalize (atK patK ap k) = r1 at *
        generalize (atK patK bp k) = r2 at *
        by_cases t0 : r1.day = r2.day
        case neg =>
          have HN := hideP (HO.out (fun e => t0 (by rw [e])))
          go_wp2_with fail
          refine wp_region_later (W := W0) y.below (by kernel_rfl) (by kernel_rfl) ?_
          repeat (go_big_quiet_step (fail))
          refine wpQuiet_nil ?_
          intro _ hw'
          obtain ⟨x, rfl⟩ := hw'
          go_wp2
          go_ret
          exact ⟨ret_bool (by rw [HN.out]; simp), HBl.out x⟩
        by_cases t1 : r1.mon = r2.mon
        case neg =>
          have HN := hideP (HO.out (fun e => t1 (by rw [e])))
          go_wp2_with fail
          refine wp_region_later (W := W0) y.below (by kernel_rfl) (by kernel_rfl) ?_
          repeat (go_big_quiet_step (fail))
          refine wpQuiet_nil ?_
          intro _ hw'
          obtain ⟨x, rfl⟩ := hw'
          go_wp2
          go_ret
          exact ⟨ret_bool (by rw [HN.out]; simp), HBl.out x⟩
        by_cases t2 : r1.dom = r2.dom
        case neg =>
          have HN := hideP (HO.out (fun e => t2 (by rw [e])))
          go_wp2_with fail
          refine wp_region_later (W := W0) y.below (by kernel_rfl) (by kernel_rfl) ?_
          repeat (go_big_quiet_step (fail))
          refine wpQuiet_nil ?_
          intro _ hw'
          obtain ⟨x, rfl⟩ := hw'
          go_wp2
          go_ret
          exact ⟨ret_bool (by rw [HN.out]; simp), HBl.out x⟩
        have HN : Hid _ := HJ.out (by
          obtain ⟨x0, x1, x2⟩ := r1
          obtain ⟨y0, y1, y2⟩ := r2
          simp_all)
        go_wp2_with fail
        refine wp_region_later (W := W0) y.below (by kernel_rfl) (by kernel_rfl) ?_
        repeat (go_big_quiet_step (fail))
        refine wpQuiet_nil ?_
        intro _ hw'
        obtain ⟨x, rfl⟩ := hw'
        go_wp2
        exact ⟨⟨k + 1, by omega, by go_num, HN.out, x, rfl⟩, by simp [intOf]; omega⟩
      have E6 : Hid (sameL ap bp = true) := sameL_yes (ext_pat (E12.out.trans E22.out.symm) (fun j hj => HF.out j (by rw [E12.out] at hj; omega)))
      clear HF
      go_wp2
      go_loopw [7] (fun i wr => ∃ k : Nat, k ≤ n13 ∧ i = .int .i64 (k : Int) ∧ Hid (∀ j, j < k → (rgA ar j) = (rgA br j)) ∧ ∃ y : Later W0, wr = y.w) (fun i _ => n13 - (intOf i).toNat)
      case atStart => exact ⟨0, Nat.zero_le _, rfl, fun j hj => by omega, y, rfl⟩
      case round =>
        obtain ⟨k, hk, rfl, HF, y, rfl⟩ := hrel
        by_cases hlt : k < n13
        case pos =>
          obtain ⟨z1, rfl, hz1, w1⟩ := Q13.out k hlt
          obtain ⟨z2, rfl, hz2, w2⟩ := Q23.out k hlt
          have u0 : ∀ y : Later W0, y.w.cell? ⟨z1, k * 3, none⟩ = some (.string (rgA ar k).name) := fun y => (w1.below (HBl.out y) hz1).1
          have u1 : ∀ y : Later W0, y.w.cell? ⟨z1, k * 3 + 1, none⟩ = some (.int .i64 (rgA ar k).fr) := fun y => (w1.below (HBl.out y) hz1).2.1
          have u2 : ∀ y : Later W0, y.w.cell? ⟨z1, k * 3 + 2, none⟩ = some (.int .i64 (rgA ar k).to) := fun y => (w1.below (HBl.out y) hz1).2.2
          have v0 : ∀ y : Later W0, y.w.cell? ⟨z2, k * 3, none⟩ = some (.string (rgA br k).name) := fun y => (w2.below (HBl.out y) hz2).1
          have v1 : ∀ y : Later W0, y.w.cell? ⟨z2, k * 3 + 1, none⟩ = some (.int .i64 (rgA br k).fr) := fun y => (w2.below (HBl.out y) hz2).2.1
          have v2 : ∀ y : Later W0, y.w.cell? ⟨z2, k * 3 + 2, none⟩ = some (.int .i64 (rgA br k).to) := fun y => (w2.below (HBl.out y) hz2).2.2
          have HJ : Hid ((rgA ar k) = (rgA br k) → ∀ j, j < k + 1 → (rgA ar j) = (rgA br j)) := fun g j hj => by
            by_cases e : j = k
            · subst e; exact g
            · exact HF.out j (by omega)
          have HO : Hid (¬ (rgA ar k) = (rgA br k) → sameL ar br = false) := fun g => sameL_no (fun e => g (by rw [e]))
          clear w1 w2
          generalize (rgA ar k) = r1 at *
          generalize (rgA br k) = r2 at *
          by_cases t0 : r1.name.toList = r2.name.toList
          case neg =>
            have HN := hideP (HO.out (fun e => t0 (by rw [e])))
            go_wp2_with fail
            refine wp_region_later (W := W0) y.below (by kernel_rfl) (by kernel_rfl) ?_
            repeat (go_big_quiet_step (fail))
            refine wpQuiet_nil ?_
            intro _ hw'
            obtain ⟨x, rfl⟩ := hw'
            go_wp2
            go_ret
            exact ⟨ret_bool (by rw [HN.out]; simp), HBl.out x⟩
          by_cases t1 : r1.fr = r2.fr
          case neg =>
            have HN := hideP (HO.out (fun e => t1 (by rw [e])))
            go_wp2_with fail
            refine wp_region_later (W := W0) y.below (by kernel_rfl) (by kernel_rfl) ?_
            repeat (go_big_quiet_step (fail))
            refine wpQuiet_nil ?_
            intro _ hw'
            obtain ⟨x, rfl⟩ := hw'
            go_wp2
            go_ret
            exact ⟨ret_bool (by rw [HN.out]; simp), HBl.out x⟩
          by_cases t2 : r1.to = r2.to
          case neg =>
            have HN := hideP (HO.out (fun e => t2 (by rw [e])))
            go_wp2_with fail
            refine wp_region_later (W := W0) y.below (by kernel_rfl) (by kernel_rfl) ?_
            repeat (go_big_quiet_step (fail))
            refine wpQuiet_nil ?_
            intro _ hw'
            obtain ⟨x, rfl⟩ := hw'
            go_wp2
            go_ret
            exact ⟨ret_bool (by rw [HN.out]; simp), HBl.out x⟩
          have HN : Hid _ := HJ.out (by
            obtain ⟨x0, x1, x2⟩ := r1
            obtain ⟨y0, y1, y2⟩ := r2
            have t0' := str_eq (a := x0) (b := y0) (by simpa using t0)
            simp_all)
          go_wp2_with fail
          refine wp_region_later (W := W0) y.below (by kernel_rfl) (by kernel_rfl) ?_
          repeat (go_big_quiet_step (fail))
          refine wpQuiet_nil ?_
          intro _ hw'
          obtain ⟨x, rfl⟩ := hw'
          go_wp2
          exact ⟨⟨k + 1, by omega, by go_num, HN.out, x, rfl⟩, by simp [intOf]; omega⟩
        have E7 : Hid (sameL ar br = true) := sameL_yes (ext_rgn (E13.out.trans E23.out.symm) (fun j hj => HF.out j (by rw [E13.out] at hj; omega)))
        clear HF
        go_wp2
        go_ret
        exact ⟨ret_bool (by rw [E5.out, E6.out, E7.out]; rfl), HBl.out y⟩
end Go.Proofs.YtchhdoipkimbgaaGreatDoor.ctr
