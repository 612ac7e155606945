/- The program's dayIn of each kind, whenDays and patchedDays: the days that a saying may lead to. What the program makes of the days that it gathers: those that can be meant, put in order, none twice: they are the model's. Plain, of no program. slices.IndexFunc and slices.DeleteFunc at the closure of impl.DaysSaid$1, which makes memory at each call: what it keeps, in order, at the head of the row. -/
import Derived.Test.YtilpencbbdpgfaaGreatDoorJnQbm
import Derived.Test.YtilpencbbdpgfaaGreatDoorWhnKndQ
import Derived.Test.YtilpencbbdpgfaaGreatDoorJnQas
import Derived.Test.YtilpencbbdpgfaaGreatDoorJnQbc
import Derived.PlainAid
import Derived.Lib.SlicesCompact
import Derived.Lib.SliceRun
import Derived.Shelf.Abstract
import Derived.Deep.CutRange
namespace Go.Proofs.YtilpencbbdpgfaaGreatDoor.ctr
open Go.RowKit
def patTo (l : List Pat) (k : Nat) : List Int := (l.take k).map Pat.day
theorem patTo_next {l : List Pat} {k : Nat} (h : k < l.length) : patTo l (k + 1) = patTo l k ++ [(atK patK l k).day] := by
  unfold patTo
  rw [List.take_succ_eq_append_getElem h, List.map_append, atK_eq h]
  rfl
theorem patTo_len (l : List Pat) (k : Nat) : (patTo l k).length ≤ k := by
  unfold patTo
  rw [List.length_map, List.length_take]
  omega
set_option maxRecDepth 100000 in
set_option maxHeartbeats 4000000 in
theorem implPatched (v : Value) (r : Rgm) (w : World) (h : GRow w v r) (hl : r.pats.length ≤ 8) : Calls Tryz.prog 71 #[v] w fun e w' => ∃ o, e = .returned o ∧ ISt w o (r.pats.map Pat.day) w' := by
  obtain ⟨i0, hi, hz0, hz1, hz2⟩ := info_parts info_int
  obtain ⟨v1, v2, v3, rfl, _, x1, x2, x3⟩ := h
  obtain ⟨a1, c1, rfl, _⟩ := x1
  obtain ⟨a2, c2, rfl, _, _, hcP⟩ := x2
  obtain ⟨a3, c3, rfl, _⟩ := x3
  obtain ⟨W0, hW0, d0, d1, d2, d3, d4, d5, d6, hBl⟩ := seven_box w (.string r.name) (.int .i64 r.fr) (.int .i64 r.to) (.slice a1 r.segs.length c1) (.slice a2 r.pats.length c2) (.slice a3 r.rgns.length c3) (.int .i64 r.rule) 36
  have HK : Hid (∀ (V : World), Below W0.heap.size W0 V → ∀ k, k < r.pats.length → ∃ g, a2 = some ⟨g, 0, none⟩ ∧ IAt patK V g k (atK patK r.pats k)) := fun V hb k hk => by
    obtain ⟨g, e, hg, x⟩ := hcP k hk
    exact ⟨g, e, x.below (hBl ⟨V, hb⟩) hg⟩
  have HW0 := hideP hW0
  have HB0 : Hid (Below w.heap.size w W0) := hBl ⟨W0, Below.refl _ _⟩
  have k4 := d4 ⟨W0, Below.refl _ _⟩
  dsimp only at k4
  rw [show r.pats.map Pat.day = patTo r.pats r.pats.length by unfold patTo; rw [List.take_length]]
  clear hW0 hBl hcP d0 d1 d2 d3 d4 d5 d6
  have S0 : Hid (ISt W0 (.slice none 0 0) [] W0) := ISt.nil W0
  go_enter Tryz.func71, Tryz.ntmps71
  go_upto_region 2 with fail
  rw [← HW0.out]
  go_wp2_with fail
  clear k4
  go_loopw [3, 9] (fun o i wr => ∃ k : Nat, k ≤ r.pats.length ∧ i = .int .i64 (k : Int) ∧ ISt W0 o (patTo r.pats k) wr) (fun _ i _ => ((r.pats.length : Int) - intOf i).toNat)
  case atStart => exact ⟨0, Nat.zero_le _, rfl, S0.out⟩
  case round =>
    obtain ⟨k, hk, rfl, hS⟩ := hrel
    have S := hideP hS
    clear hS S0
    by_cases hlt : (k : Int) < (r.pats.length : Int)
    case neg =>
      obtain rfl : k = r.pats.length := by omega
      go_wp2
      go_ret
      exact ⟨_, rfl, own_mono1 S.out.row HB0.out.size, HB0.out.trans (S.out.below.mono HB0.out.size)⟩
    have hkn : k < r.pats.length := by omega
    obtain ⟨g, rfl, x⟩ := HK.out wr S.out.below k hkn
    have g0 : wr.cell? ⟨g, k * 3, none⟩ = some (.int .i64 (atK patK r.pats k).day) := x 0 _ rfl
    have g1 : wr.cell? ⟨g, k * 3 + 1, none⟩ = some (.int .i64 (atK patK r.pats k).mon) := x 1 _ rfl
    have g2 : wr.cell? ⟨g, k * 3 + 2, none⟩ = some (.int .i64 (atK patK r.pats k).dom) := x 2 _ rfl
    have hln := patTo_len r.pats k
    have HN := hideP (patTo_next (l := r.pats) hkn)
    clear x
    generalize patTo r.pats k = xs at *
    generalize atK patK r.pats k = q at *
    obtain ⟨V, hV⟩ : ∃ V, V = wr.alloc (.cells #[.int .i64 q.day, .int .i64 q.mon, .int .i64 q.dom] 99) := ⟨_, rfl⟩
    have SV0 : ISt W0 u3 xs V := by rw [hV]; exact S.out.later ((Below.refl _ _).alloc (Nat.le_refl _) _)
    have bV : Blk V wr.heap.size #[.int .i64 q.day, .int .i64 q.mon, .int .i64 q.dom] 99 := by rw [hV]; exact Blk.new _ _ _
    have HV := hideP hV
    have SV := hideP SV0
    have b0 := bV.cell 0 rfl
    clear hV SV0 bV
    go_upto_region 5 with fail
    rw [← HV.out]
    clear HV S g0 g1 g2
    generalize wr.heap.size = gb at *
    go_wp2_with (at_builtin; refine wpList_append_own _ rfl _ _ 42 rfl W0.heap.size 3 i0 (.int .i64 0) 1 8 Tryz.underlying42 hi hz0 hz1 hz2 rfl (by decide) _ _ _ rfl (SV.out.row.alloc _) ⟨V.heap.size, 0, none⟩ 1 1 [.int .i64 q.day] rfl rfl (cell_one_new _ _ _) (by simp [Value.oneCell']) (by unfold maxLen; omega) (by omega) (by have := SV.out.below.size; rw [inew]; omega) ?_; intro v' w9 hown' hgrow _)
    refine ⟨⟨k + 1, by omega, by apply congrArg (Value.int .i64); omega, ?_⟩, by simp [intOf]; omega⟩
    rw [HN.out]
    exact SV.out.app q.day hown' hgrow
end Go.Proofs.YtilpencbbdpgfaaGreatDoor.ctr
namespace Go.Proofs.YtilpencbbdpgfaaGreatDoor.ctr
open Go.RowKit
theorem compact_set (zs : List Int) (h : zs.Pairwise (· ≤ ·)) : DSet (Lib.compact zs) (fun z => z ∈ zs) := by
  have hat : ∀ j, j < zs.length → (zs.toArray)[j]! = zs.getD j 0 := fun j hj => by simp [List.getD, hj, getElem!_pos]
  have hle : ∀ i j, i ≤ j → j < zs.length → zs.getD i 0 ≤ zs.getD j 0 := fun i j hij hj => by
    by_cases e : i = j
    · rw [e]; exact Int.le_refl _
    · have := List.pairwise_iff_getElem.1 h i j (by omega) hj (by omega)
      simpa [List.getD, hj, show i < zs.length by omega] using this
  unfold Lib.compact Lib.compactUpTo
  refine ⟨List.pairwise_map.2 ?_, fun z => ?_⟩
  · have hp : ((List.range zs.length).filter (Lib.keeps zs.toArray)).Pairwise (fun i j => i < j ∧ j < zs.length ∧ Lib.keeps zs.toArray j = true) := by
      have h1 : ((List.range zs.length).filter (Lib.keeps zs.toArray)).Pairwise (· < ·) := List.Pairwise.filter _ List.pairwise_lt_range
      refine List.Pairwise.imp_of_mem ?_ h1
      intro a b ha hb hab
      have := List.mem_filter.1 hb
      exact ⟨hab, List.mem_range.1 this.1, this.2⟩
    refine hp.imp ?_
    rintro i j ⟨hij, hj, hk⟩
    unfold Lib.keeps at hk
    have hk := of_decide_eq_true hk
    rcases hk with hk | hk
    · omega
    · rw [hat j hj, hat (j - 1) (by omega)] at hk
      rw [hat i (by omega), hat j hj]
      have a := hle i (j - 1) (by omega) (by omega)
      have b := hle (j - 1) j (by omega) hj
      omega
  · rw [List.mem_map]
    constructor
    · rintro ⟨j, hj, rfl⟩
      have hj := List.mem_range.1 (List.mem_filter.1 hj).1
      rw [hat j hj]
      simp [List.getD, hj]
    · intro hz
      obtain ⟨j0, hj0, e0⟩ := List.getElem_of_mem hz
      have hex : ∃ j, j < zs.length ∧ zs.getD j 0 = z := ⟨j0, hj0, by simpa [List.getD, hj0] using e0⟩
      have hmin : ∀ m, (∃ j, j < zs.length ∧ zs.getD j 0 = z ∧ j ≤ m) → ∃ j, j < zs.length ∧ zs.getD j 0 = z ∧ ∀ i, i < j → zs.getD i 0 ≠ z := by
        intro m
        induction m with
        | zero => rintro ⟨j, a, b, c⟩; exact ⟨j, a, b, fun i hi => by omega⟩
        | succ m ih =>
          rintro ⟨j, a, b, c⟩
          by_cases e : ∃ i, i < j ∧ zs.getD i 0 = z
          · obtain ⟨i, hi, q⟩ := e
            exact ih ⟨i, by omega, q, by omega⟩
          · exact ⟨j, a, b, fun i hi q => e ⟨i, hi, q⟩⟩
      obtain ⟨j, a, b⟩ := hex
      obtain ⟨j, a, b, c⟩ := hmin j ⟨j, a, b, Nat.le_refl _⟩
      refine ⟨j, List.mem_filter.2 ⟨List.mem_range.2 a, ?_⟩, by rw [hat j a]; exact b⟩
      unfold Lib.keeps
      refine decide_eq_true ?_
      by_cases e : j = 0
      · exact .inl e
      · refine .inr ?_
        rw [hat j a, hat (j - 1) (by omega), b]
        exact fun q => c (j - 1) (by omega) q.symm
theorem sort_set {xs : List Int} : (xs.mergeSort (fun x y => decide (x ≤ y))).Pairwise (· ≤ ·) ∧ ∀ z, z ∈ xs.mergeSort (fun x y => decide (x ≤ y)) ↔ z ∈ xs := by
  refine ⟨?_, fun z => (List.mergeSort_perm xs _).mem_iff⟩
  have := List.pairwise_mergeSort (le := fun x y : Int => decide (x ≤ y)) (fun a b c h1 h2 => by simp at *; omega) (fun a b => by simp; omega) xs
  exact this.imp (fun h => of_decide_eq_true h)
theorem tidy_set (xs : List Int) : DSet (Lib.compact (xs.mergeSort (fun x y => decide (x ≤ y)))) (fun z => z ∈ xs) := (compact_set _ sort_set.1).imp sort_set.2
theorem pat_days {r : Rgm} (hr : regimeB r = true) {z : Int} (hz : z ∈ r.pats.map Pat.day) : r.fr ≤ z ∧ z ≤ r.to := by
  obtain ⟨p, hp, rfl⟩ := List.mem_map.1 hz
  obtain ⟨k, hk, rfl⟩ := List.getElem_of_mem hp
  unfold regimeB patsB at hr
  simp only [Bool.and_eq_true] at hr
  have := allTo_at hr.2.2.2.2.1.2 hk
  unfold patFit at this
  simp only [Bool.and_eq_true] at this
  rw [atK_eq hk] at this
  exact of_inB this.2.1
theorem pat_mem {l : List Pat} {n : Int} (h : 0 ≤ patAt l n) : n ∈ l.map Pat.day := by
  unfold patAt ifind at h
  rcases ifc_cases patK (patIs n) l 0 with ⟨a, _⟩ | ⟨k, hk, a, b⟩
  · omega
  · unfold patIs at b
    have b := of_decide_eq_true b
    rw [atK_eq hk] at b
    rw [← b]
    exact List.mem_map.2 ⟨_, List.getElem_mem hk, rfl⟩
end Go.Proofs.YtilpencbbdpgfaaGreatDoor.ctr
namespace Go.Proofs.YtilpencbbdpgfaaGreatDoor.ctr
open Go.RowKit
end Go.Proofs.YtilpencbbdpgfaaGreatDoor.ctr
