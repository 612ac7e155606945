/- Contracts of both Changes: in a row of its own, the first days of all segments but the first. Contracts of both SegAt and both PatchAt: the number of the first segment that has the day, of the first patch of the day; -1 for none. Plain facts on right regimes (each day of From .. To is in a segment, no other day is; their changes rise) and the contract of the laws' rising. -/
import Derived.Test.YtdgolaaheakfoaaGreatDoorJnSaw
import Derived.Test.YtdgolaaheakfoaaGreatDoorJnSaq
namespace Go.Proofs.YtdgolaaheakfoaaGreatDoor.ctr
open Go.RowKit
set_option linter.unusedSimpArgs false
def chTo (l : List Seg) (k : Nat) : List Int := ((l.drop 1).take k).map Seg.fr
noncomputable def changes (r : Rgm) : List Int := if regimeB r = true then chTo r.segs (r.segs.length - 1) else []
end Go.Proofs.YtdgolaaheakfoaaGreatDoor.ctr
namespace Go.Proofs.YtdgolaaheakfoaaGreatDoor.ctr
open Go.RowKit
def segHas (n : Int) (s : Seg) : Bool := inB n s.fr s.to
def patIs (n : Int) (p : Pat) : Bool := decide (p.day = n)
def segAt (l : List Seg) (n : Int) : Int := ifind (segHas n) l
def patAt (l : List Pat) (n : Int) : Int := ifind (patIs n) l
theorem implPatIs (s : Pat) (n : Int) (b : Addr) (w : World) (hb : w.cell? b = some (.int .i64 n)) : Calls Tryz.prog 123 #[.agg #[.int .i64 s.day, .int .i64 s.mon, .int .i64 s.dom], .pointer (some b)] w fun e w' => e = .returned (.bool (patIs n s)) ∧ Below w.heap.size w w' := by
  have hb' : (w.alloc (.cells #[.int .i64 s.day, .int .i64 s.mon, .int .i64 s.dom] 120)).cell? b = some (.int .i64 n) := Later.at hb ⟨_, (Below.refl _ _).alloc (Nat.le_refl _) _⟩
  unfold patIs
  by_cases h1 : s.day = n
  · rw [decide_eq_true h1]
    have hd : (s.day == n) = true := by simp [h1]
    clear h1
    go_enter Tryz.func123, Tryz.ntmps123
    go_wp2
    go_ret
    exact ⟨rfl, (Below.refl _ _).alloc (Nat.le_refl _) _⟩
  · rw [decide_eq_false h1]
    have hd : (s.day == n) = false := by simp [h1]
    go_enter Tryz.func123, Tryz.ntmps123
    go_wp2
    go_ret
    exact ⟨rfl, (Below.refl _ _).alloc (Nat.le_refl _) _⟩
set_option maxHeartbeats 1000000 in
theorem indexPat (v : Value) (l : List Pat) (n : Int) (b : Addr) (w : World) (h : IRow patK w v l) (hc : w.cell? b = some (.int .i64 n)) : Calls Tryz.prog 122 #[v, .func (.func 123) #[] #[.pointer (some b)]] w fun e w' => e = .returned (.int .i64 (ifind (patIs n) l)) ∧ Below w.heap.size w w' := by
  obtain ⟨a, c, rfl, hl, hm, H⟩ := h
  have HK := hideP H
  have KC : ∀ (r : Pat) (W : World), Below w.heap.size w W → Calls Tryz.prog 123 #[.agg #[.int .i64 r.day, .int .i64 r.mon, .int .i64 r.dom], .pointer (some b)] W fun e w' => e = .returned (.bool (patIs n r)) ∧ Below W.heap.size W w' := fun r W hb => implPatIs r n b W (Later.at hc ⟨W, hb⟩)
  have HC := hideP KC
  unfold maxLen at hm
  clear H KC hc
  go_enter Tryz.func122, Tryz.ntmps122
  go_wp2
  go_loopw [8] (fun i wr => ∃ k : Nat, k ≤ l.length ∧ i = .int .i64 (k : Int) ∧ Hid (ifFrom (patIs n) (l.drop k) k = ifind (patIs n) l) ∧ Below w.heap.size w wr) (fun i _ => l.length - (intOf i).toNat)
  case atStart => exact ⟨0, Nat.zero_le _, rfl, rfl, Below.refl _ _⟩
  case round =>
    obtain ⟨k, hk, rfl, HF, hB⟩ := hrel
    have HB := hideP hB
    clear hB
    by_cases hlt : k < l.length
    · obtain ⟨g, rfl, hg, x⟩ := HK.out k hlt
      obtain ⟨c0, c1, c2⟩ := (x.below HB.out hg).pat
      have K1 := hideP (fun h => if_hit (K := patK) (p := patIs n) hlt h HF.out)
      have K2 := hideP (fun h => if_miss (K := patK) (p := patIs n) hlt h HF.out)
      have KD := hideP (HC.out (atK patK l k) wr HB.out)
      clear x
      generalize atK patK l k = r at *
      go_wp2_with fail
      refine KD.out.mono ?_
      rintro e w1 ⟨rfl, hb⟩
      have HB1 : Hid (Below w.heap.size w w1) := HB.out.trans (hb.mono HB.out.size)
      clear hb c0 c1 c2
      cases hq : patIs n r
      · have HN := hideP (K2.out hq)
        go_wp2
        exact ⟨⟨k + 1, by omega, by go_num, HN.out, HB1.out⟩, by simp [intOf]; omega⟩
      · have HN := hideP (K1.out hq)
        go_wp2
        go_ret
        exact ⟨ret_int HN.out.symm, HB1.out⟩
    · have HN := hideP (if_end (by omega) HF.out)
      go_wp2
      go_ret
      exact ⟨ret_int HN.out.symm, HB.out⟩
set_option maxHeartbeats 1000000 in
theorem implPatAt (v : Value) (r : Rgm) (n : Int) (w : World) (h : GRow w v r) : Calls Tryz.prog 86 #[v, .int .i64 n] w fun e w' => e = .returned (.int .i64 (patAt r.pats n)) ∧ Below w.heap.size w w' := by
  obtain ⟨v1, v2, v3, rfl, _, x1, x2, x3⟩ := h
  obtain ⟨W0, hW0⟩ : ∃ W0, W0 = (w.alloc (.cells #[.string r.name, .int .i64 r.fr, .int .i64 r.to, v1, v2, v3, .int .i64 r.rule] 40)).alloc (.cells #[.int .i64 n] 3) := ⟨_, rfl⟩
  have hW : Below w.heap.size w W0 := by rw [hW0]; exact ((Below.refl _ _).alloc (Nat.le_refl _) _).alloc (by rw [World.size_alloc]; omega) _
  have hc : W0.cell? ⟨w.heap.size + 1, 0, none⟩ = some (.int .i64 n) := by
    rw [hW0]
    have := (Blk.new (w.alloc (.cells #[.string r.name, .int .i64 r.fr, .int .i64 r.to, v1, v2, v3, .int .i64 r.rule] 40)) #[.int .i64 n] 3).cell 0 rfl
    rw [World.size_alloc] at this
    exact this
  have KI := hideP (indexPat v2 r.pats n ⟨w.heap.size + 1, 0, none⟩ W0 (x2.below hW) hc)
  have HW := hideP hW
  have HW0 := hideP hW0
  obtain ⟨a1, c1, rfl, _⟩ := x1
  obtain ⟨a2, c2, rfl, _⟩ := x2
  obtain ⟨a3, c3, rfl, _⟩ := x3
  clear hW hc hW0
  go_enter Tryz.func86, Tryz.ntmps86
  go_wp2_with fail
  rw [← HW0.out]
  refine KI.out.mono ?_
  rintro e w1 ⟨rfl, hb⟩
  have HB : Hid (Below w.heap.size w w1) := HW.out.trans (hb.mono HW.out.size)
  clear hb
  go_wp2_with fail
  go_ret
  exact ⟨rfl, HB.out⟩
set_option maxHeartbeats 1000000 in
theorem specSegAt (v : Value) (r : Rgm) (n : Int) (w : World) (h : GRow w v r) : Calls Tryz.prog 90 #[v, .int .i64 n] w fun e w' => e = .returned (.int .i64 (segAt r.segs n)) ∧ Below w.heap.size w w' := by
  obtain ⟨v1, v2, v3, rfl, _, x1, x2, x3⟩ := h
  obtain ⟨W0, hW0, d0, d1, d2, d3, d4, d5, d6, hBl⟩ := seven_box w (.string r.name) (.int .i64 r.fr) (.int .i64 r.to) v1 v2 v3 (.int .i64 r.rule) 40
  have hrow := x1.below (hBl ⟨W0, Below.refl _ _⟩)
  obtain ⟨a1, c1, rfl, _⟩ := x1
  obtain ⟨a2, c2, rfl, _⟩ := x2
  obtain ⟨a3, c3, rfl, _⟩ := x3
  obtain ⟨a, c, ev, hl, hm, H⟩ := hrow
  cases ev
  have HK := hideP H
  have HW0 := hideP hW0
  have HBl := hideP hBl
  unfold maxLen at hm
  clear H hW0 hBl d0 d1 d2 d6
  generalize r.segs = l at *
  have hst : Hid (Below W0.heap.size W0 W0) := Below.refl _ _
  go_enter Tryz.func90, Tryz.ntmps90
  go_wp2
  rw [← HW0.out]
  go_loopw [5] (fun i wr => ∃ k : Nat, k ≤ l.length ∧ i = .int .i64 (k : Int) ∧ Hid (ifFrom (segHas n) (l.drop k) k = segAt l n) ∧ ∃ y : Later W0, wr = y.w) (fun i _ => l.length - (intOf i).toNat)
  case atStart => exact ⟨0, Nat.zero_le _, rfl, rfl, ⟨W0, hst.out⟩, rfl⟩
  case round =>
    obtain ⟨k, hk, rfl, HF, y, rfl⟩ := hrel
    by_cases hlt : k < l.length
    · obtain ⟨g, rfl, hg, x⟩ := HK.out k hlt
      have e0 : ∀ y : Later W0, y.w.cell? ⟨g, k * 5, none⟩ = some (.int .i64 (atK segK l k).fr) := fun y => ((x.below y.below hg).seg).1
      have e1 : ∀ y : Later W0, y.w.cell? ⟨g, k * 5 + 1, none⟩ = some (.int .i64 (atK segK l k).to) := fun y => ((x.below y.below hg).seg).2.1
      have K1 := hideP (fun h => if_hit (K := segK) (p := segHas n) hlt h HF.out)
      have K2 := hideP (fun h => if_miss (K := segK) (p := segHas n) hlt h HF.out)
      clear x
      generalize atK segK l k = r at *
      have HD : Hid (segHas n r = inB n r.fr r.to) := rfl
      have KI : ∀ y : Later W0, Calls Tryz.prog 54 #[.int .i64 n, .int .i64 r.fr, .int .i64 r.to] y.w fun e w' => e = .returned (.bool (inB n r.fr r.to)) ∧ w' = y.w := fun y => l01In _ _ _ y.w
      generalize inB n r.fr r.to = b at *
      go_wp2_with fail
      refine wp_region_later (W := W0) y.below (by kernel_rfl) (by kernel_rfl) ?_
      repeat (go_big_quiet_step (first | (go_at_call 54; exact calls_same (KI _)) | fail))
      refine wpQuiet_nil ?_
      intro _ hw'
      obtain ⟨x, rfl⟩ := hw'
      cases b
      · have HN := hideP (K2.out HD.out)
        go_wp2
        exact ⟨⟨k + 1, by omega, by go_num, HN.out, x, rfl⟩, by simp [intOf]; omega⟩
      · have HN := hideP (K1.out HD.out)
        go_wp2
        go_ret
        exact ⟨ret_int HN.out.symm, HBl.out x⟩
    · have HN := hideP (if_end (by omega) HF.out)
      go_wp2
      go_ret
      exact ⟨ret_int HN.out.symm, HBl.out y⟩
set_option maxHeartbeats 1000000 in
theorem specPatAt (v : Value) (r : Rgm) (n : Int) (w : World) (h : GRow w v r) : Calls Tryz.prog 92 #[v, .int .i64 n] w fun e w' => e = .returned (.int .i64 (patAt r.pats n)) ∧ Below w.heap.size w w' := by
  obtain ⟨v1, v2, v3, rfl, _, x1, x2, x3⟩ := h
  obtain ⟨W0, hW0, d0, d1, d2, d3, d4, d5, d6, hBl⟩ := seven_box w (.string r.name) (.int .i64 r.fr) (.int .i64 r.to) v1 v2 v3 (.int .i64 r.rule) 40
  have hrow := x2.below (hBl ⟨W0, Below.refl _ _⟩)
  obtain ⟨a1, c1, rfl, _⟩ := x1
  obtain ⟨a2, c2, rfl, _⟩ := x2
  obtain ⟨a3, c3, rfl, _⟩ := x3
  obtain ⟨a, c, ev, hl, hm, H⟩ := hrow
  cases ev
  have HK := hideP H
  have HW0 := hideP hW0
  have HBl := hideP hBl
  unfold maxLen at hm
  clear H hW0 hBl d0 d1 d2 d6
  generalize r.pats = l at *
  have hst : Hid (Below W0.heap.size W0 W0) := Below.refl _ _
  go_enter Tryz.func92, Tryz.ntmps92
  go_wp2
  rw [← HW0.out]
  go_loopw [5] (fun i wr => ∃ k : Nat, k ≤ l.length ∧ i = .int .i64 (k : Int) ∧ Hid (ifFrom (patIs n) (l.drop k) k = patAt l n) ∧ ∃ y : Later W0, wr = y.w) (fun i _ => l.length - (intOf i).toNat)
  case atStart => exact ⟨0, Nat.zero_le _, rfl, rfl, ⟨W0, hst.out⟩, rfl⟩
  case round =>
    obtain ⟨k, hk, rfl, HF, y, rfl⟩ := hrel
    by_cases hlt : k < l.length
    · obtain ⟨g, rfl, hg, x⟩ := HK.out k hlt
      have e0 : ∀ y : Later W0, y.w.cell? ⟨g, k * 3, none⟩ = some (.int .i64 (atK patK l k).day) := fun y => ((x.below y.below hg).pat).1
      have K1 := hideP (fun h => if_hit (K := patK) (p := patIs n) hlt h HF.out)
      have K2 := hideP (fun h => if_miss (K := patK) (p := patIs n) hlt h HF.out)
      clear x
      generalize atK patK l k = r at *
      by_cases hd : r.day = n
      · have HN := hideP (K1.out (decide_eq_true hd))
        have hq : (r.day == n) = true := by simp [hd]
        go_wp2
        go_ret
        exact ⟨ret_int HN.out.symm, HBl.out y⟩
      · have HN := hideP (K2.out (decide_eq_false hd))
        have hq : (r.day == n) = false := by simp [hd]
        go_wp2
        exact ⟨⟨k + 1, by omega, by go_num, HN.out, y, rfl⟩, by simp [intOf]; omega⟩
    · have HN := hideP (if_end (by omega) HF.out)
      go_wp2
      go_ret
      exact ⟨ret_int HN.out.symm, HBl.out y⟩
end Go.Proofs.YtdgolaaheakfoaaGreatDoor.ctr
namespace Go.Proofs.YtdgolaaheakfoaaGreatDoor.ctr
open Go.RowKit
theorem bare_has {t : Int} : ∀ (L : List Seg) (f n : Int), bareS t L f = false → f ≤ n → n ≤ t → ∃ s ∈ L, s.fr ≤ n ∧ n ≤ s.to
  | [], f, n, h, h1, h2 => by
    rw [bareS] at h
    have := of_decide_eq_false h
    omega
  | s :: l, f, n, h, h1, h2 => by
    rw [bareS, if_pos (by omega)] at h
    by_cases a : s.to < f
    · rw [if_pos a] at h
      obtain ⟨x, hx, hh⟩ := bare_has l f n h h1 h2
      exact ⟨x, List.mem_cons_of_mem _ hx, hh⟩
    · rw [if_neg a] at h
      by_cases b : f < s.fr
      · rw [if_pos b] at h; cases h
      · rw [if_neg b] at h
        by_cases c : n ≤ s.to
        · exact ⟨s, List.mem_cons_self, by omega, c⟩
        · rw [if_neg (by omega)] at h
          obtain ⟨x, hx, hh⟩ := bare_has l (s.to + 1) n h (by omega) h2
          exact ⟨x, List.mem_cons_of_mem _ hx, hh⟩
theorem tiles_has {f t n : Int} {l : List Seg} (h : tilesZ f t l = 0) (h1 : f ≤ n) (h2 : n ≤ t) : ∃ s ∈ l, s.fr ≤ n ∧ n ≤ s.to := by
  unfold tilesZ tileC at h
  by_cases a : sharedB (fullS l) = true
  · rw [if_pos a] at h; omega
  · rw [if_neg a] at h
    by_cases b : bareS t (fullS l) f = true
    · rw [if_pos b] at h; omega
    · obtain ⟨s, hs, hh⟩ := bare_has (fullS l) f n (by simpa using b) h1 h2
      exact ⟨s, full_mem hs, hh⟩
theorem ifc_cases {α : Type} (K : IK α) (p : α → Bool) : ∀ (l : List α) (j : Nat), (ifFrom p l j = -1 ∧ ∀ x ∈ l, p x = false) ∨ ∃ k, k < l.length ∧ ifFrom p l j = ((j + k : Nat) : Int) ∧ p (atK K l k) = true
  | [], j => .inl ⟨rfl, fun x hx => by cases hx⟩
  | a :: l, j => by
    rw [ifFrom]
    cases h : p a
    · rw [if_neg (by simp)]
      rcases ifc_cases K p l (j + 1) with ⟨h1, h2⟩ | ⟨k, hk, h1, h2⟩
      · exact .inl ⟨h1, fun x hx => by rcases List.mem_cons.1 hx with rfl | hx; exact h; exact h2 x hx⟩
      · exact .inr ⟨k + 1, by simp; omega, by rw [h1]; congr 1; omega, by simpa [atK] using h2⟩
    · rw [if_pos rfl]
      exact .inr ⟨0, by simp, by simp, by simpa [atK] using h⟩
theorem segAt_cases (l : List Seg) (n : Int) : (segAt l n = -1 ∧ ∀ x ∈ l, segHas n x = false) ∨ ∃ k, k < l.length ∧ segAt l n = (k : Int) ∧ (atK segK l k).fr ≤ n ∧ n ≤ (atK segK l k).to := by
  rcases ifc_cases segK (segHas n) l 0 with h | ⟨k, hk, h1, h2⟩
  · exact .inl h
  · refine .inr ⟨k, hk, by unfold segAt ifind; rw [h1]; congr 1; omega, ?_⟩
    unfold segHas at h2
    by_cases a : (atK segK l k).fr ≤ n
    · by_cases b : n ≤ (atK segK l k).to
      · exact ⟨a, b⟩
      · rw [inB_false (.inr (by omega))] at h2; cases h2
    · rw [inB_false (.inl (by omega))] at h2; cases h2
theorem regime_parts {r : Rgm} (h : regimeB r = true) : allTo (segFit r.fr r.to r.segs) r.segs.length = true ∧ tilesZ r.fr r.to r.segs = 0 := by
  unfold regimeB segsB at h
  simp only [Bool.and_eq_true, decide_eq_true_eq] at h
  exact h.2.2.2.1.2
theorem seg_fact {r : Rgm} (h : regimeB r = true) (n : Int) : 0 ≤ segAt r.segs n ↔ (r.fr ≤ n ∧ n ≤ r.to) := by
  obtain ⟨ha, ht⟩ := regime_parts h
  constructor
  · intro h0
    rcases segAt_cases r.segs n with ⟨h1, _⟩ | ⟨k, hk, h1, h2, h3⟩
    · omega
    · have := segFit_ok (allTo_at ha hk)
      omega
  · rintro ⟨h1, h2⟩
    rcases segAt_cases r.segs n with ⟨_, h3⟩ | ⟨k, hk, h3, _⟩
    · obtain ⟨s, hs, h4, h5⟩ := tiles_has ht h1 h2
      have := h3 s hs
      unfold segHas at this
      rw [inB_true h4 h5] at this
      cases this
    · omega
end Go.Proofs.YtdgolaaheakfoaaGreatDoor.ctr
