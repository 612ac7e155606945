/- Contract of the model's l11Read: in a right regime, at a day of it, its reading. Contracts of both ReadingOf: in a right regime, at a day of it, its reading; else the zero reading and false. What a tied card's proof wants of the listed handle errors.errorType. -/
import Derived.Test.YtilpencbbdpgfaaGreatDoorJnQav
import Derived.Test.YtilpencbbdpgfaaGreatDoorJnQay
import Derived.Test.YtilpencbbdpgfaaGreatDoorJnQaj
import Derived.Test.YtilpencbbdpgfaaGreatDoorJnQas
import Derived.Test.YtilpencbbdpgfaaGreatDoorJnQap
import Derived.LaidLaws
import Derived.LaidHandle
namespace Go.Proofs.YtilpencbbdpgfaaGreatDoor.ctr
open Go.RowKit
set_option maxHeartbeats 4000000 in
theorem specRead (v : Value) (r : Rgm) (n : Int) (w : World) (h : GRow w v r) (hr : regimeB r = true) (h1 : r.fr ≤ n) (h2 : n ≤ r.to) : Calls Tryz.prog 57 #[v, .int .i64 n] w fun e w' => e = .returned (.tuple #[rdgV (rdgOn r n), .bool true]) ∧ Below w.heap.size w w' := by
  obtain ⟨m, hm, hmS, hm1, hm2⟩ : ∃ m : Nat, m < r.segs.length ∧ segAt r.segs n = (m : Int) ∧ (atK segK r.segs m).fr ≤ n ∧ n ≤ (atK segK r.segs m).to := by
    have h0 := (seg_fact hr n).2 ⟨h1, h2⟩
    rcases segAt_cases r.segs n with ⟨h3, _⟩ | ⟨j, hj, h3, h4, h5⟩
    · omega
    · exact ⟨j, hj, h3, h4, h5⟩
  obtain ⟨n1, n2, n3, n4, _, n5, n6⟩ := segOk_nums (right_seg hr hm).1
  have hrd : rdgOn r n = rdgAt r (atK segK r.segs m) n := by unfold rdgOn; rw [hmS, Int.toNat_natCast]
  rw [hrd]
  clear hrd
  have hG := h
  obtain ⟨v1, v2, v3, rfl, _, x1, x2, x3⟩ := h
  obtain ⟨W0, e0⟩ : ∃ W0, W0 = (w.alloc (.cells #[.string r.name, .int .i64 r.fr, .int .i64 r.to, v1, v2, v3, .int .i64 r.rule] 36)).alloc (.cells #[.int .i64 0, .int .i64 0, .int .i64 0, .int .i64 0, .int .i64 0] 29) := ⟨_, rfl⟩
  have hB0' : ∀ w1, Below W0.heap.size W0 w1 → Below w.heap.size w w1 := by
    rw [e0]
    exact fun w1 h => below_alloc (below_alloc h)
  have hB0 : Hid (∀ y : Later W0, Below w.heap.size w y.w) := fun y => hB0' y.w y.below
  clear hB0'
  have hG0 : Hid (∀ y : Later W0, GRow y.w (.agg #[.string r.name, .int .i64 r.fr, .int .i64 r.to, v1, v2, v3, .int .i64 r.rule]) r) := fun y => GRow.below hG (hB0.out y)
  have KS : ∀ y : Later W0, Calls Tryz.prog 105 #[.agg #[.string r.name, .int .i64 r.fr, .int .i64 r.to, v1, v2, v3, .int .i64 r.rule], .int .i64 n] y.w fun e w' => e = .returned (.int .i64 (m : Int)) ∧ Below y.w.heap.size y.w w' := fun y => by
    have k := specSegAt _ r n y.w (hG0.out y)
    rw [hmS] at k
    exact k
  have KD : ∀ W, Hid (Below w.heap.size w W) → Calls Tryz.prog 106 #[.int .i64 (atK segK r.segs m).cal, .int .i64 (n + (atK segK r.segs m).off)] W fun e w' => e = .returned (dateR (atK segK r.segs m).cal (n + (atK segK r.segs m).off)) ∧ Below W.heap.size W w' := fun W hb => specDateOf _ _ W
  have KY : ∀ W, Hid (Below w.heap.size w W) → Calls Tryz.prog 107 #[.int .i64 (atK segK r.segs m).cal, .int .i64 (atK segK r.segs m).sty, .int .i64 (n + (atK segK r.segs m).off)] W fun e w' => e = .returned (styR (atK segK r.segs m).cal (atK segK r.segs m).sty (n + (atK segK r.segs m).off)) ∧ Below W.heap.size W w' := fun W hb => specStyleYear _ _ _ W
  have KP : ∀ y : Later W0, Calls Tryz.prog 108 #[.agg #[.string r.name, .int .i64 r.fr, .int .i64 r.to, v1, v2, v3, .int .i64 r.rule], .int .i64 n] y.w fun e w' => e = .returned (.int .i64 (patAt r.pats n)) ∧ Below y.w.heap.size y.w w' := fun y => specPatAt _ r n y.w (hG0.out y)
  unfold dateR at KD
  unfold styR at KY
  obtain ⟨p, hp⟩ : ∃ p, patAt r.pats n = p := ⟨_, rfl⟩
  have hpc : (p = -1) ∨ ∃ k : Nat, k < r.pats.length ∧ p = (k : Int) := by
    rw [← hp]
    rcases ifc_cases patK (patIs n) r.pats 0 with ⟨a, _⟩ | ⟨k, a, b, _⟩
    · exact .inl a
    · exact .inr ⟨k, a, by unfold patAt ifind; rw [b]; congr 1; omega⟩
  unfold rdgAt
  rw [hp] at KP ⊢
  obtain ⟨a1, c1, rfl, _, _, hcS⟩ := x1
  obtain ⟨a2, c2, rfl, _, _, hcP⟩ := x2
  obtain ⟨a3, c3, rfl, _⟩ := x3
  obtain ⟨gs, rfl, hgs, xs⟩ := hcS m hm
  have hgS : ∀ y : Later W0, IAt segK y.w gs m (atK segK r.segs m) := fun y => xs.below (hB0.out y) hgs
  have g00 : ∀ y : Later W0, y.w.cell? ⟨gs, m * 5, none⟩ = some (.int .i64 (atK segK r.segs m).fr) := fun y => ((hgS y).seg).1
  have g01 : ∀ y : Later W0, y.w.cell? ⟨gs, m * 5 + 1, none⟩ = some (.int .i64 (atK segK r.segs m).to) := fun y => ((hgS y).seg).2.1
  have g02 : ∀ y : Later W0, y.w.cell? ⟨gs, m * 5 + 2, none⟩ = some (.int .i64 (atK segK r.segs m).cal) := fun y => ((hgS y).seg).2.2.1
  have g03 : ∀ y : Later W0, y.w.cell? ⟨gs, m * 5 + 3, none⟩ = some (.int .i64 (atK segK r.segs m).sty) := fun y => ((hgS y).seg).2.2.2.1
  have g04 : ∀ y : Later W0, y.w.cell? ⟨gs, m * 5 + 4, none⟩ = some (.int .i64 (atK segK r.segs m).off) := fun y => ((hgS y).seg).2.2.2.2
  have hmz : (m : Int) < (r.segs.length : Int) := by omega
  clear xs hgS
  have HR0 : Hid (∀ y : Later W0, Blk y.w w.heap.size #[.string r.name, .int .i64 r.fr, .int .i64 r.to, .slice (some ⟨gs, 0, none⟩) r.segs.length c1, .slice a2 r.pats.length c2, .slice a3 r.rgns.length c3, .int .i64 r.rule] 36) := by unfold Hid; rw [e0]; exact fun y => ((Blk.new _ _ _).alloc _).later y
  have HZ0 : Hid (∀ y : Later W0, Blk y.w (w.heap.size + 1) #[.int .i64 0, .int .i64 0, .int .i64 0, .int .i64 0, .int .i64 0] 29) := by
    unfold Hid
    rw [e0]
    intro y
    have k := Blk.new (w.alloc (.cells #[.string r.name, .int .i64 r.fr, .int .i64 r.to, .slice (some ⟨gs, 0, none⟩) r.segs.length c1, .slice a2 r.pats.length c2, .slice a3 r.rgns.length c3, .int .i64 r.rule] 36)) #[.int .i64 0, .int .i64 0, .int .i64 0, .int .i64 0, .int .i64 0] 29
    rw [World.size_alloc] at k
    exact k.later y
  have R00 : ∀ y : Later W0, y.w.cell? ⟨w.heap.size, 0, none⟩ = some (.string r.name) := fun y => (HR0.out y).cell 0 rfl
  have R01 : ∀ y : Later W0, y.w.cell? ⟨w.heap.size, 1, none⟩ = some (.int .i64 r.fr) := fun y => (HR0.out y).cell 1 rfl
  have R02 : ∀ y : Later W0, y.w.cell? ⟨w.heap.size, 2, none⟩ = some (.int .i64 r.to) := fun y => (HR0.out y).cell 2 rfl
  have R03 : ∀ y : Later W0, y.w.cell? ⟨w.heap.size, 3, none⟩ = some (.slice (some ⟨gs, 0, none⟩) r.segs.length c1) := fun y => (HR0.out y).cell 3 rfl
  have R04 : ∀ y : Later W0, y.w.cell? ⟨w.heap.size, 4, none⟩ = some (.slice a2 r.pats.length c2) := fun y => (HR0.out y).cell 4 rfl
  have R05 : ∀ y : Later W0, y.w.cell? ⟨w.heap.size, 5, none⟩ = some (.slice a3 r.rgns.length c3) := fun y => (HR0.out y).cell 5 rfl
  have R06 : ∀ y : Later W0, y.w.cell? ⟨w.heap.size, 6, none⟩ = some (.int .i64 r.rule) := fun y => (HR0.out y).cell 6 rfl
  have Z00 : ∀ y : Later W0, y.w.cell? ⟨w.heap.size + 1, 0, none⟩ = some (.int .i64 0) := fun y => (HZ0.out y).cell 0 rfl
  have Z01 : ∀ y : Later W0, y.w.cell? ⟨w.heap.size + 1, 1, none⟩ = some (.int .i64 0) := fun y => (HZ0.out y).cell 1 rfl
  have Z02 : ∀ y : Later W0, y.w.cell? ⟨w.heap.size + 1, 2, none⟩ = some (.int .i64 0) := fun y => (HZ0.out y).cell 2 rfl
  have Z03 : ∀ y : Later W0, y.w.cell? ⟨w.heap.size + 1, 3, none⟩ = some (.int .i64 0) := fun y => (HZ0.out y).cell 3 rfl
  have Z04 : ∀ y : Later W0, y.w.cell? ⟨w.heap.size + 1, 4, none⟩ = some (.int .i64 0) := fun y => (HZ0.out y).cell 4 rfl
  have fZ00 : ∀ y : Later W0, y.w.frozen? ⟨w.heap.size + 1, 0, none⟩ = false := fun y => (HZ0.out y).thaw 0
  have fZ01 : ∀ y : Later W0, y.w.frozen? ⟨w.heap.size + 1, 1, none⟩ = false := fun y => (HZ0.out y).thaw 1
  have fZ02 : ∀ y : Later W0, y.w.frozen? ⟨w.heap.size + 1, 2, none⟩ = false := fun y => (HZ0.out y).thaw 2
  have fZ03 : ∀ y : Later W0, y.w.frozen? ⟨w.heap.size + 1, 3, none⟩ = false := fun y => (HZ0.out y).thaw 3
  have fZ04 : ∀ y : Later W0, y.w.frozen? ⟨w.heap.size + 1, 4, none⟩ = false := fun y => (HZ0.out y).thaw 4
  have E0 := hideP e0
  have HP : Hid (∀ W, Below w.heap.size w W → ∀ k : Nat, k < r.pats.length → ∃ g, a2 = some ⟨g, 0, none⟩ ∧ g < w.heap.size ∧ IAt patK W g k (atK patK r.pats k)) := fun W hb k hk => by
    obtain ⟨g, e, hg, x⟩ := hcP k hk
    exact ⟨g, e, hg, x.below hb hg⟩
  clear e0 hcS hcP hG hr h1 h2 hp hmS hm
  generalize atK segK r.segs m = s at *
  generalize (styYear s.cal s.sty (n + s.off)).1 = y0 at *
  generalize (styYear s.cal s.sty (n + s.off)).2 = yb at *
  generalize (dateOf s.cal (n + s.off)).1 = d0 at *
  generalize (dateOf s.cal (n + s.off)).2.1 = d1 at *
  generalize (dateOf s.cal (n + s.off)).2.2.1 = d2 at *
  generalize (dateOf s.cal (n + s.off)).2.2.2.1 = d3 at *
  generalize (dateOf s.cal (n + s.off)).2.2.2.2 = db at *
  obtain ⟨mo, hmo⟩ : ∃ mo, (if 0 ≤ p then (atK patK r.pats p.toNat).mon else d2) = mo := ⟨_, rfl⟩
  obtain ⟨dy, hdy⟩ : ∃ dy, (if 0 ≤ p then (atK patK r.pats p.toNat).dom else d3) = dy := ⟨_, rfl⟩
  rw [hmo, hdy]
  go_enter Tryz.func57, Tryz.ntmps57
  go_wp2_with fail
  rw [← E0.out]
  refine (KS ⟨W0, Below.refl _ _⟩).mono ?_
  rintro e w1 ⟨rfl, hb⟩
  obtain ⟨x1, rfl⟩ := Later.of hb
  clear hb KS
  go_wp2_with fail
  obtain ⟨W1, e1⟩ : ∃ W1, W1 = x1.w.alloc (.cells #[.int .i64 s.fr, .int .i64 s.to, .int .i64 s.cal, .int .i64 s.sty, .int .i64 s.off] 95) := ⟨_, rfl⟩
  have t1 : Hid (∀ y : Later W1, Below W0.heap.size W0 y.w) := by unfold Hid; rw [e1]; exact fun y => x1.on (below_alloc y.below)
  have HR1 : Hid (∀ y : Later W1, Blk y.w (w.heap.size) #[.string r.name, .int .i64 r.fr, .int .i64 r.to, .slice (some ⟨gs, 0, none⟩) r.segs.length c1, .slice a2 r.pats.length c2, .slice a3 r.rgns.length c3, .int .i64 r.rule] 36) := fun y => HR0.out ⟨y.w, t1.out y⟩
  have HZ1 : Hid (∀ y : Later W1, Blk y.w (w.heap.size + 1) #[.int .i64 0, .int .i64 0, .int .i64 0, .int .i64 0, .int .i64 0] 29) := fun y => HZ0.out ⟨y.w, t1.out y⟩
  have HS1 : Hid (∀ y : Later W1, Blk y.w x1.w.heap.size #[.int .i64 s.fr, .int .i64 s.to, .int .i64 s.cal, .int .i64 s.sty, .int .i64 s.off] 95) := by unfold Hid; rw [e1]; exact fun y => (Blk.new _ _ _).later y
  have S10 : ∀ y : Later W1, y.w.cell? ⟨x1.w.heap.size, 0, none⟩ = some (.int .i64 s.fr) := fun y => (HS1.out y).cell 0 rfl
  have S11 : ∀ y : Later W1, y.w.cell? ⟨x1.w.heap.size, 1, none⟩ = some (.int .i64 s.to) := fun y => (HS1.out y).cell 1 rfl
  have S12 : ∀ y : Later W1, y.w.cell? ⟨x1.w.heap.size, 2, none⟩ = some (.int .i64 s.cal) := fun y => (HS1.out y).cell 2 rfl
  have S13 : ∀ y : Later W1, y.w.cell? ⟨x1.w.heap.size, 3, none⟩ = some (.int .i64 s.sty) := fun y => (HS1.out y).cell 3 rfl
  have S14 : ∀ y : Later W1, y.w.cell? ⟨x1.w.heap.size, 4, none⟩ = some (.int .i64 s.off) := fun y => (HS1.out y).cell 4 rfl
  have B1 : Hid (∀ y : Later W1, Below w.heap.size w y.w) := fun y => hB0.out ⟨y.w, t1.out y⟩
  rw [← e1]
  clear e1
  refine (KD W1 (B1.out ⟨W1, Below.refl _ _⟩)).mono ?_
  rintro e w2 ⟨rfl, hb⟩
  obtain ⟨x2, rfl⟩ := Later.of hb
  clear hb KD
  have A12 : ∀ (y : Later W1) (ob : Obj), (y.w.alloc ob).cell? ⟨x1.w.heap.size, 2, none⟩ = some (.int .i64 s.cal) := fun y ob => S12 ⟨y.w.alloc ob, y.below.alloc y.below.size ob⟩
  have A13 : ∀ (y : Later W1) (ob : Obj), (y.w.alloc ob).cell? ⟨x1.w.heap.size, 3, none⟩ = some (.int .i64 s.sty) := fun y ob => S13 ⟨y.w.alloc ob, y.below.alloc y.below.size ob⟩
  have A14 : ∀ (y : Later W1) (ob : Obj), (y.w.alloc ob).cell? ⟨x1.w.heap.size, 4, none⟩ = some (.int .i64 s.off) := fun y ob => S14 ⟨y.w.alloc ob, y.below.alloc y.below.size ob⟩
  go_wp2_with fail
  obtain ⟨W2, e2⟩ : ∃ W2, W2 = x2.w.alloc (.cells #[.int .i64 d0, .int .i64 d1, .int .i64 d2, .int .i64 d3] 92) := ⟨_, rfl⟩
  have t2 : Hid (∀ y : Later W2, Below W1.heap.size W1 y.w) := by unfold Hid; rw [e2]; exact fun y => x2.on (below_alloc y.below)
  have HR2 : Hid (∀ y : Later W2, Blk y.w (w.heap.size) #[.string r.name, .int .i64 r.fr, .int .i64 r.to, .slice (some ⟨gs, 0, none⟩) r.segs.length c1, .slice a2 r.pats.length c2, .slice a3 r.rgns.length c3, .int .i64 r.rule] 36) := fun y => HR1.out ⟨y.w, t2.out y⟩
  have HZ2 : Hid (∀ y : Later W2, Blk y.w (w.heap.size + 1) #[.int .i64 0, .int .i64 0, .int .i64 0, .int .i64 0, .int .i64 0] 29) := fun y => HZ1.out ⟨y.w, t2.out y⟩
  have HS2 : Hid (∀ y : Later W2, Blk y.w (x1.w.heap.size) #[.int .i64 s.fr, .int .i64 s.to, .int .i64 s.cal, .int .i64 s.sty, .int .i64 s.off] 95) := fun y => HS1.out ⟨y.w, t2.out y⟩
  have HD2 : Hid (∀ y : Later W2, Blk y.w x2.w.heap.size #[.int .i64 d0, .int .i64 d1, .int .i64 d2, .int .i64 d3] 92) := by unfold Hid; rw [e2]; exact fun y => (Blk.new _ _ _).later y
  have S20 : ∀ y : Later W2, y.w.cell? ⟨x1.w.heap.size, 0, none⟩ = some (.int .i64 s.fr) := fun y => (HS2.out y).cell 0 rfl
  have S21 : ∀ y : Later W2, y.w.cell? ⟨x1.w.heap.size, 1, none⟩ = some (.int .i64 s.to) := fun y => (HS2.out y).cell 1 rfl
  have S22 : ∀ y : Later W2, y.w.cell? ⟨x1.w.heap.size, 2, none⟩ = some (.int .i64 s.cal) := fun y => (HS2.out y).cell 2 rfl
  have S23 : ∀ y : Later W2, y.w.cell? ⟨x1.w.heap.size, 3, none⟩ = some (.int .i64 s.sty) := fun y => (HS2.out y).cell 3 rfl
  have S24 : ∀ y : Later W2, y.w.cell? ⟨x1.w.heap.size, 4, none⟩ = some (.int .i64 s.off) := fun y => (HS2.out y).cell 4 rfl
  have D20 : ∀ y : Later W2, y.w.cell? ⟨x2.w.heap.size, 0, none⟩ = some (.int .i64 d0) := fun y => (HD2.out y).cell 0 rfl
  have D21 : ∀ y : Later W2, y.w.cell? ⟨x2.w.heap.size, 1, none⟩ = some (.int .i64 d1) := fun y => (HD2.out y).cell 1 rfl
  have D22 : ∀ y : Later W2, y.w.cell? ⟨x2.w.heap.size, 2, none⟩ = some (.int .i64 d2) := fun y => (HD2.out y).cell 2 rfl
  have D23 : ∀ y : Later W2, y.w.cell? ⟨x2.w.heap.size, 3, none⟩ = some (.int .i64 d3) := fun y => (HD2.out y).cell 3 rfl
  have R20 : ∀ y : Later W2, y.w.cell? ⟨w.heap.size, 0, none⟩ = some (.string r.name) := fun y => (HR2.out y).cell 0 rfl
  have R21 : ∀ y : Later W2, y.w.cell? ⟨w.heap.size, 1, none⟩ = some (.int .i64 r.fr) := fun y => (HR2.out y).cell 1 rfl
  have R22 : ∀ y : Later W2, y.w.cell? ⟨w.heap.size, 2, none⟩ = some (.int .i64 r.to) := fun y => (HR2.out y).cell 2 rfl
  have R23 : ∀ y : Later W2, y.w.cell? ⟨w.heap.size, 3, none⟩ = some (.slice (some ⟨gs, 0, none⟩) r.segs.length c1) := fun y => (HR2.out y).cell 3 rfl
  have R24 : ∀ y : Later W2, y.w.cell? ⟨w.heap.size, 4, none⟩ = some (.slice a2 r.pats.length c2) := fun y => (HR2.out y).cell 4 rfl
  have R25 : ∀ y : Later W2, y.w.cell? ⟨w.heap.size, 5, none⟩ = some (.slice a3 r.rgns.length c3) := fun y => (HR2.out y).cell 5 rfl
  have R26 : ∀ y : Later W2, y.w.cell? ⟨w.heap.size, 6, none⟩ = some (.int .i64 r.rule) := fun y => (HR2.out y).cell 6 rfl
  have B2 : Hid (∀ y : Later W2, Below w.heap.size w y.w) := fun y => B1.out ⟨y.w, t2.out y⟩
  rw [← e2]
  clear e2 A12 A13 A14 S10 S11 S12 S13 S14
  refine (KY W2 (B2.out ⟨W2, Below.refl _ _⟩)).mono ?_
  rintro e w3 ⟨rfl, hb⟩
  obtain ⟨x3, rfl⟩ := Later.of hb
  clear hb KY
  have A20 : ∀ (y : Later W2) (ob : Obj), (y.w.alloc ob).cell? ⟨w.heap.size, 0, none⟩ = some (.string r.name) := fun y ob => R20 ⟨y.w.alloc ob, y.below.alloc y.below.size ob⟩
  have A21 : ∀ (y : Later W2) (ob : Obj), (y.w.alloc ob).cell? ⟨w.heap.size, 1, none⟩ = some (.int .i64 r.fr) := fun y ob => R21 ⟨y.w.alloc ob, y.below.alloc y.below.size ob⟩
  have A22 : ∀ (y : Later W2) (ob : Obj), (y.w.alloc ob).cell? ⟨w.heap.size, 2, none⟩ = some (.int .i64 r.to) := fun y ob => R22 ⟨y.w.alloc ob, y.below.alloc y.below.size ob⟩
  have A23 : ∀ (y : Later W2) (ob : Obj), (y.w.alloc ob).cell? ⟨w.heap.size, 3, none⟩ = some (.slice (some ⟨gs, 0, none⟩) r.segs.length c1) := fun y ob => R23 ⟨y.w.alloc ob, y.below.alloc y.below.size ob⟩
  have A24 : ∀ (y : Later W2) (ob : Obj), (y.w.alloc ob).cell? ⟨w.heap.size, 4, none⟩ = some (.slice a2 r.pats.length c2) := fun y ob => R24 ⟨y.w.alloc ob, y.below.alloc y.below.size ob⟩
  have A25 : ∀ (y : Later W2) (ob : Obj), (y.w.alloc ob).cell? ⟨w.heap.size, 5, none⟩ = some (.slice a3 r.rgns.length c3) := fun y ob => R25 ⟨y.w.alloc ob, y.below.alloc y.below.size ob⟩
  have A26 : ∀ (y : Later W2) (ob : Obj), (y.w.alloc ob).cell? ⟨w.heap.size, 6, none⟩ = some (.int .i64 r.rule) := fun y ob => R26 ⟨y.w.alloc ob, y.below.alloc y.below.size ob⟩
  go_wp2_with fail
  obtain ⟨W3, e3⟩ : ∃ W3, W3 = x3.w.alloc (.cells #[.int .i64 s.cal, .int .i64 y0, .int .i64 d1, .int .i64 d2, .int .i64 d3] 29) := ⟨_, rfl⟩
  have t3 : Hid (∀ y : Later W3, Below W2.heap.size W2 y.w) := by unfold Hid; rw [e3]; exact fun y => x3.on (below_alloc y.below)
  have HR3 : Hid (∀ y : Later W3, Blk y.w (w.heap.size) #[.string r.name, .int .i64 r.fr, .int .i64 r.to, .slice (some ⟨gs, 0, none⟩) r.segs.length c1, .slice a2 r.pats.length c2, .slice a3 r.rgns.length c3, .int .i64 r.rule] 36) := fun y => HR2.out ⟨y.w, t3.out y⟩
  have HZ3 : Hid (∀ y : Later W3, Blk y.w (w.heap.size + 1) #[.int .i64 0, .int .i64 0, .int .i64 0, .int .i64 0, .int .i64 0] 29) := fun y => HZ2.out ⟨y.w, t3.out y⟩
  have HX3 : Hid (∀ y : Later W3, Blk y.w x3.w.heap.size #[.int .i64 s.cal, .int .i64 y0, .int .i64 d1, .int .i64 d2, .int .i64 d3] 29) := by unfold Hid; rw [e3]; exact fun y => (Blk.new _ _ _).later y
  have R30 : ∀ y : Later W3, y.w.cell? ⟨w.heap.size, 0, none⟩ = some (.string r.name) := fun y => (HR3.out y).cell 0 rfl
  have R31 : ∀ y : Later W3, y.w.cell? ⟨w.heap.size, 1, none⟩ = some (.int .i64 r.fr) := fun y => (HR3.out y).cell 1 rfl
  have R32 : ∀ y : Later W3, y.w.cell? ⟨w.heap.size, 2, none⟩ = some (.int .i64 r.to) := fun y => (HR3.out y).cell 2 rfl
  have R33 : ∀ y : Later W3, y.w.cell? ⟨w.heap.size, 3, none⟩ = some (.slice (some ⟨gs, 0, none⟩) r.segs.length c1) := fun y => (HR3.out y).cell 3 rfl
  have R34 : ∀ y : Later W3, y.w.cell? ⟨w.heap.size, 4, none⟩ = some (.slice a2 r.pats.length c2) := fun y => (HR3.out y).cell 4 rfl
  have R35 : ∀ y : Later W3, y.w.cell? ⟨w.heap.size, 5, none⟩ = some (.slice a3 r.rgns.length c3) := fun y => (HR3.out y).cell 5 rfl
  have R36 : ∀ y : Later W3, y.w.cell? ⟨w.heap.size, 6, none⟩ = some (.int .i64 r.rule) := fun y => (HR3.out y).cell 6 rfl
  have X30 : ∀ y : Later W3, y.w.cell? ⟨x3.w.heap.size, 0, none⟩ = some (.int .i64 s.cal) := fun y => (HX3.out y).cell 0 rfl
  have X31 : ∀ y : Later W3, y.w.cell? ⟨x3.w.heap.size, 1, none⟩ = some (.int .i64 y0) := fun y => (HX3.out y).cell 1 rfl
  have X32 : ∀ y : Later W3, y.w.cell? ⟨x3.w.heap.size, 2, none⟩ = some (.int .i64 d1) := fun y => (HX3.out y).cell 2 rfl
  have X33 : ∀ y : Later W3, y.w.cell? ⟨x3.w.heap.size, 3, none⟩ = some (.int .i64 d2) := fun y => (HX3.out y).cell 3 rfl
  have X34 : ∀ y : Later W3, y.w.cell? ⟨x3.w.heap.size, 4, none⟩ = some (.int .i64 d3) := fun y => (HX3.out y).cell 4 rfl
  have Z30 : ∀ y : Later W3, y.w.cell? ⟨w.heap.size + 1, 0, none⟩ = some (.int .i64 0) := fun y => (HZ3.out y).cell 0 rfl
  have Z31 : ∀ y : Later W3, y.w.cell? ⟨w.heap.size + 1, 1, none⟩ = some (.int .i64 0) := fun y => (HZ3.out y).cell 1 rfl
  have Z32 : ∀ y : Later W3, y.w.cell? ⟨w.heap.size + 1, 2, none⟩ = some (.int .i64 0) := fun y => (HZ3.out y).cell 2 rfl
  have Z33 : ∀ y : Later W3, y.w.cell? ⟨w.heap.size + 1, 3, none⟩ = some (.int .i64 0) := fun y => (HZ3.out y).cell 3 rfl
  have Z34 : ∀ y : Later W3, y.w.cell? ⟨w.heap.size + 1, 4, none⟩ = some (.int .i64 0) := fun y => (HZ3.out y).cell 4 rfl
  have fX33 : ∀ y : Later W3, y.w.frozen? ⟨x3.w.heap.size, 3, none⟩ = false := fun y => (HX3.out y).thaw 3
  have fX34 : ∀ y : Later W3, y.w.frozen? ⟨x3.w.heap.size, 4, none⟩ = false := fun y => (HX3.out y).thaw 4
  have fZ30 : ∀ y : Later W3, y.w.frozen? ⟨w.heap.size + 1, 0, none⟩ = false := fun y => (HZ3.out y).thaw 0
  have fZ31 : ∀ y : Later W3, y.w.frozen? ⟨w.heap.size + 1, 1, none⟩ = false := fun y => (HZ3.out y).thaw 1
  have fZ32 : ∀ y : Later W3, y.w.frozen? ⟨w.heap.size + 1, 2, none⟩ = false := fun y => (HZ3.out y).thaw 2
  have fZ33 : ∀ y : Later W3, y.w.frozen? ⟨w.heap.size + 1, 3, none⟩ = false := fun y => (HZ3.out y).thaw 3
  have fZ34 : ∀ y : Later W3, y.w.frozen? ⟨w.heap.size + 1, 4, none⟩ = false := fun y => (HZ3.out y).thaw 4
  have B3 : Hid (∀ y : Later W3, Below w.heap.size w y.w) := fun y => B2.out ⟨y.w, t3.out y⟩
  have T3 : Hid (∀ y : Later W3, Below W0.heap.size W0 y.w) := fun y => (Later.mk (W := W1) _ (t2.out ⟨y.w, t3.out y⟩)).below.trans (Below.refl _ _) |> fun h => t1.out ⟨y.w, h⟩
  rw [← e3]
  have q3 : Below W0.heap.size W0 W3 := T3.out ⟨W3, Below.refl _ _⟩
  clear e3 A20 A21 A22 A23 A24 A25 A26 R20 R21 R22 R23 R24 R25 R26 S20 S21 S22 S23 S24 D20 D21 D22 D23 R00 R01 R02 R03 R04 R05 R06
  refine (KP ⟨W3, q3⟩).mono ?_
  rintro e w4 ⟨rfl, hb⟩
  obtain ⟨x4, rfl⟩ := Later.of (W := W3) hb
  clear hb KP q3
  rcases hpc with rfl | ⟨k, hk, rfl⟩
  · rw [if_neg (by omega)] at hmo hdy
    subst hmo
    subst hdy
    go_wp2
    obtain ⟨W9, e9⟩ : ∃ W9, W9 = ((((x4.w.setCell ⟨w.heap.size + 1, 0, none⟩ (.int .i64 s.cal)).setCell ⟨w.heap.size + 1, 1, none⟩ (.int .i64 y0)).setCell ⟨w.heap.size + 1, 2, none⟩ (.int .i64 d1)).setCell ⟨w.heap.size + 1, 3, none⟩ (.int .i64 d2)).setCell ⟨w.heap.size + 1, 4, none⟩ (.int .i64 d3) := ⟨_, rfl⟩
    have Z9 : Blk W9 (w.heap.size + 1) #[.int .i64 s.cal, .int .i64 y0, .int .i64 d1, .int .i64 d2, .int .i64 d3] 29 := by rw [e9]; exact ((((((HZ3.out x4).set 0 _).set 1 _).set 2 _).set 3 _).set 4 _)
    have B9 : Below w.heap.size w W9 := by rw [e9]; exact (Below.setCell (Below.setCell (Below.setCell (Below.setCell (Below.setCell (B3.out x4) (p := ⟨w.heap.size + 1, 0, none⟩) (show w.heap.size ≤ w.heap.size + 1 by omega) _) (p := ⟨w.heap.size + 1, 1, none⟩) (show w.heap.size ≤ w.heap.size + 1 by omega) _) (p := ⟨w.heap.size + 1, 2, none⟩) (show w.heap.size ≤ w.heap.size + 1 by omega) _) (p := ⟨w.heap.size + 1, 3, none⟩) (show w.heap.size ≤ w.heap.size + 1 by omega) _) (p := ⟨w.heap.size + 1, 4, none⟩) (show w.heap.size ≤ w.heap.size + 1 by omega) _)
    rw [← e9]
    clear e9
    have q0 : W9.cell? ⟨w.heap.size + 1, 0, none⟩ = some (.int .i64 s.cal) := Z9.cell 0 rfl
    have q1 : W9.cell? ⟨w.heap.size + 1, 1, none⟩ = some (.int .i64 y0) := Z9.cell 1 rfl
    have q2 : W9.cell? ⟨w.heap.size + 1, 2, none⟩ = some (.int .i64 d1) := Z9.cell 2 rfl
    have q3 : W9.cell? ⟨w.heap.size + 1, 3, none⟩ = some (.int .i64 d2) := Z9.cell 3 rfl
    have q4 : W9.cell? ⟨w.heap.size + 1, 4, none⟩ = some (.int .i64 d3) := Z9.cell 4 rfl
    exact bodyPost_ret (by simp [results, Tryz.results57, go_sem, q0, q1, q2, q3, q4]; try rfl) rfl ⟨rfl, B9⟩
  · rw [if_pos (by omega), Int.toNat_natCast] at hmo hdy
    obtain ⟨g, rfl, hgw, xp⟩ := HP.out x4.w (B3.out x4) k hk
    obtain ⟨c0, c1', c2'⟩ := xp.pat
    have hkz : (k : Int) < (r.pats.length : Int) := by omega
    have hx3 : w.heap.size + 1 < x3.w.heap.size := by
      have := (HZ2.out x3).lt
      omega
    have hG : g ≠ x3.w.heap.size := by omega
    have hGr : w.heap.size ≠ x3.w.heap.size := by omega
    have hGz : x3.w.heap.size ≠ w.heap.size + 1 := by omega
    rw [hmo] at c1'
    rw [hdy] at c2'
    clear HP xp hmo hdy
    have k1 : ∀ u : Value, (x4.w.setCell ⟨x3.w.heap.size, 3, none⟩ u).cell? ⟨w.heap.size, 4, none⟩ = some (.slice (some ⟨g, 0, none⟩) r.pats.length c2) := fun u => ((HR3.out x4).other (i := 3) (v := u) (Ne.symm hGr)).cell 4 rfl
    have k2 : ∀ u : Value, (x4.w.setCell ⟨x3.w.heap.size, 3, none⟩ u).cell? ⟨g, k * 3 + 2, none⟩ = some (.int .i64 dy) := fun u => (World.cell?_setCell_other x4.w ⟨x3.w.heap.size, 3, none⟩ ⟨g, k * 3 + 2, none⟩ u (by intro e; exact hG (by first | exact congrArg Addr.block e | exact (congrArg Addr.block e).symm))).trans c2'
    have k3 : ∀ u : Value, (x4.w.setCell ⟨x3.w.heap.size, 3, none⟩ u).frozen? ⟨x3.w.heap.size, 4, none⟩ = false := fun u => ((HX3.out x4).set 3 u).thaw 4
    have k4 : ∀ u : Value, (x4.w.setCell ⟨x3.w.heap.size, 3, none⟩ u).cell? ⟨x3.w.heap.size, 4, none⟩ = some (.int .i64 d3) := fun u => ((HX3.out x4).set 3 u).cell 4 rfl
    have l0 : ∀ u u2 : Value, ((x4.w.setCell ⟨x3.w.heap.size, 3, none⟩ u).setCell ⟨x3.w.heap.size, 4, none⟩ u2).cell? ⟨x3.w.heap.size, 0, none⟩ = some (.int .i64 s.cal) := fun u u2 => (((HX3.out x4).set 3 u).set 4 u2).cell 0 rfl
    have l1 : ∀ u u2 : Value, ((x4.w.setCell ⟨x3.w.heap.size, 3, none⟩ u).setCell ⟨x3.w.heap.size, 4, none⟩ u2).cell? ⟨x3.w.heap.size, 1, none⟩ = some (.int .i64 y0) := fun u u2 => (((HX3.out x4).set 3 u).set 4 u2).cell 1 rfl
    have l2 : ∀ u u2 : Value, ((x4.w.setCell ⟨x3.w.heap.size, 3, none⟩ u).setCell ⟨x3.w.heap.size, 4, none⟩ u2).cell? ⟨x3.w.heap.size, 2, none⟩ = some (.int .i64 d1) := fun u u2 => (((HX3.out x4).set 3 u).set 4 u2).cell 2 rfl
    have l3 : ∀ u u2 : Value, ((x4.w.setCell ⟨x3.w.heap.size, 3, none⟩ u).setCell ⟨x3.w.heap.size, 4, none⟩ u2).cell? ⟨x3.w.heap.size, 3, none⟩ = some (u) := fun u u2 => (((HX3.out x4).set 3 u).set 4 u2).cell 3 rfl
    have l4 : ∀ u u2 : Value, ((x4.w.setCell ⟨x3.w.heap.size, 3, none⟩ u).setCell ⟨x3.w.heap.size, 4, none⟩ u2).cell? ⟨x3.w.heap.size, 4, none⟩ = some (u2) := fun u u2 => (((HX3.out x4).set 3 u).set 4 u2).cell 4 rfl
    have m0 : ∀ u u2 : Value, ((x4.w.setCell ⟨x3.w.heap.size, 3, none⟩ u).setCell ⟨x3.w.heap.size, 4, none⟩ u2).frozen? ⟨w.heap.size + 1, 0, none⟩ = false := fun u u2 => (((HZ3.out x4).other (i := 3) (v := u) hGz).other (i := 4) (v := u2) hGz).thaw 0
    have p0 : ∀ u u2 : Value, ((x4.w.setCell ⟨x3.w.heap.size, 3, none⟩ u).setCell ⟨x3.w.heap.size, 4, none⟩ u2).cell? ⟨w.heap.size + 1, 0, none⟩ = some (.int .i64 0) := fun u u2 => (((HZ3.out x4).other (i := 3) (v := u) hGz).other (i := 4) (v := u2) hGz).cell 0 rfl
    have m1 : ∀ u u2 : Value, ((x4.w.setCell ⟨x3.w.heap.size, 3, none⟩ u).setCell ⟨x3.w.heap.size, 4, none⟩ u2).frozen? ⟨w.heap.size + 1, 1, none⟩ = false := fun u u2 => (((HZ3.out x4).other (i := 3) (v := u) hGz).other (i := 4) (v := u2) hGz).thaw 1
    have p1 : ∀ u u2 : Value, ((x4.w.setCell ⟨x3.w.heap.size, 3, none⟩ u).setCell ⟨x3.w.heap.size, 4, none⟩ u2).cell? ⟨w.heap.size + 1, 1, none⟩ = some (.int .i64 0) := fun u u2 => (((HZ3.out x4).other (i := 3) (v := u) hGz).other (i := 4) (v := u2) hGz).cell 1 rfl
    have m2 : ∀ u u2 : Value, ((x4.w.setCell ⟨x3.w.heap.size, 3, none⟩ u).setCell ⟨x3.w.heap.size, 4, none⟩ u2).frozen? ⟨w.heap.size + 1, 2, none⟩ = false := fun u u2 => (((HZ3.out x4).other (i := 3) (v := u) hGz).other (i := 4) (v := u2) hGz).thaw 2
    have p2 : ∀ u u2 : Value, ((x4.w.setCell ⟨x3.w.heap.size, 3, none⟩ u).setCell ⟨x3.w.heap.size, 4, none⟩ u2).cell? ⟨w.heap.size + 1, 2, none⟩ = some (.int .i64 0) := fun u u2 => (((HZ3.out x4).other (i := 3) (v := u) hGz).other (i := 4) (v := u2) hGz).cell 2 rfl
    have m3 : ∀ u u2 : Value, ((x4.w.setCell ⟨x3.w.heap.size, 3, none⟩ u).setCell ⟨x3.w.heap.size, 4, none⟩ u2).frozen? ⟨w.heap.size + 1, 3, none⟩ = false := fun u u2 => (((HZ3.out x4).other (i := 3) (v := u) hGz).other (i := 4) (v := u2) hGz).thaw 3
    have p3 : ∀ u u2 : Value, ((x4.w.setCell ⟨x3.w.heap.size, 3, none⟩ u).setCell ⟨x3.w.heap.size, 4, none⟩ u2).cell? ⟨w.heap.size + 1, 3, none⟩ = some (.int .i64 0) := fun u u2 => (((HZ3.out x4).other (i := 3) (v := u) hGz).other (i := 4) (v := u2) hGz).cell 3 rfl
    have m4 : ∀ u u2 : Value, ((x4.w.setCell ⟨x3.w.heap.size, 3, none⟩ u).setCell ⟨x3.w.heap.size, 4, none⟩ u2).frozen? ⟨w.heap.size + 1, 4, none⟩ = false := fun u u2 => (((HZ3.out x4).other (i := 3) (v := u) hGz).other (i := 4) (v := u2) hGz).thaw 4
    have p4 : ∀ u u2 : Value, ((x4.w.setCell ⟨x3.w.heap.size, 3, none⟩ u).setCell ⟨x3.w.heap.size, 4, none⟩ u2).cell? ⟨w.heap.size + 1, 4, none⟩ = some (.int .i64 0) := fun u u2 => (((HZ3.out x4).other (i := 3) (v := u) hGz).other (i := 4) (v := u2) hGz).cell 4 rfl
    go_wp2
    obtain ⟨W9, e9⟩ : ∃ W9, W9 = ((((((x4.w.setCell ⟨x3.w.heap.size, 3, none⟩ (.int .i64 mo)).setCell ⟨x3.w.heap.size, 4, none⟩ (.int .i64 dy)).setCell ⟨w.heap.size + 1, 0, none⟩ (.int .i64 s.cal)).setCell ⟨w.heap.size + 1, 1, none⟩ (.int .i64 y0)).setCell ⟨w.heap.size + 1, 2, none⟩ (.int .i64 d1)).setCell ⟨w.heap.size + 1, 3, none⟩ (.int .i64 mo)).setCell ⟨w.heap.size + 1, 4, none⟩ (.int .i64 dy) := ⟨_, rfl⟩
    have Z9 : Blk W9 (w.heap.size + 1) #[.int .i64 s.cal, .int .i64 y0, .int .i64 d1, .int .i64 mo, .int .i64 dy] 29 := by rw [e9]; exact ((((((((HZ3.out x4).other (i := 3) hGz).other (i := 4) hGz).set 0 _).set 1 _).set 2 _).set 3 _).set 4 _)
    have B9 : Below w.heap.size w W9 := by rw [e9]; exact (Below.setCell (Below.setCell (Below.setCell (Below.setCell (Below.setCell (Below.setCell (Below.setCell (B3.out x4) (p := ⟨x3.w.heap.size, 3, none⟩) (show w.heap.size ≤ x3.w.heap.size by omega) _) (p := ⟨x3.w.heap.size, 4, none⟩) (show w.heap.size ≤ x3.w.heap.size by omega) _) (p := ⟨w.heap.size + 1, 0, none⟩) (show w.heap.size ≤ w.heap.size + 1 by omega) _) (p := ⟨w.heap.size + 1, 1, none⟩) (show w.heap.size ≤ w.heap.size + 1 by omega) _) (p := ⟨w.heap.size + 1, 2, none⟩) (show w.heap.size ≤ w.heap.size + 1 by omega) _) (p := ⟨w.heap.size + 1, 3, none⟩) (show w.heap.size ≤ w.heap.size + 1 by omega) _) (p := ⟨w.heap.size + 1, 4, none⟩) (show w.heap.size ≤ w.heap.size + 1 by omega) _)
    rw [← e9]
    clear e9
    have q0 : W9.cell? ⟨w.heap.size + 1, 0, none⟩ = some (.int .i64 s.cal) := Z9.cell 0 rfl
    have q1 : W9.cell? ⟨w.heap.size + 1, 1, none⟩ = some (.int .i64 y0) := Z9.cell 1 rfl
    have q2 : W9.cell? ⟨w.heap.size + 1, 2, none⟩ = some (.int .i64 d1) := Z9.cell 2 rfl
    have q3 : W9.cell? ⟨w.heap.size + 1, 3, none⟩ = some (.int .i64 mo) := Z9.cell 3 rfl
    have q4 : W9.cell? ⟨w.heap.size + 1, 4, none⟩ = some (.int .i64 dy) := Z9.cell 4 rfl
    exact bodyPost_ret (by simp [results, Tryz.results57, go_sem, q0, q1, q2, q3, q4]; try rfl) rfl ⟨rfl, B9⟩
end Go.Proofs.YtilpencbbdpgfaaGreatDoor.ctr
namespace Go.Proofs.YtilpencbbdpgfaaGreatDoor.ctr
open Go.RowKit
theorem boxR (w : World) (cs : Array Value) (t : TypeId) (u : Array Value) (s : TypeId) : ∃ W0, W0 = (w.alloc (.cells cs t)).alloc (.cells u s) ∧ Hid (∀ x : Later W0, Blk x.w w.heap.size cs t) ∧ Hid (∀ x : Later W0, Blk x.w (w.heap.size + 1) u s) ∧ Hid (∀ x : Later W0, Below w.heap.size w x.w) := by
  refine ⟨_, rfl, fun x => ((Blk.new _ _ _).alloc _).later x, fun x => ?_, fun x => below_alloc (below_alloc x.below)⟩
  have h := Blk.new (w.alloc (.cells cs t)) u s
  rw [World.size_alloc] at h
  exact h.later x
theorem sevenL {W : World} {b : Nat} {v0 v1 v2 v3 v4 v5 v6 : Value} {t : TypeId} (h : ∀ x : Later W, Blk x.w b #[v0, v1, v2, v3, v4, v5, v6] t) : (∀ x : Later W, x.w.cell? ⟨b, 0, none⟩ = some v0) ∧ (∀ x : Later W, x.w.cell? ⟨b, 1, none⟩ = some v1) ∧ (∀ x : Later W, x.w.cell? ⟨b, 2, none⟩ = some v2) ∧ (∀ x : Later W, x.w.cell? ⟨b, 3, none⟩ = some v3) ∧ (∀ x : Later W, x.w.cell? ⟨b, 4, none⟩ = some v4) ∧ (∀ x : Later W, x.w.cell? ⟨b, 5, none⟩ = some v5) ∧ ∀ x : Later W, x.w.cell? ⟨b, 6, none⟩ = some v6 :=
  ⟨fun x => (h x).cell 0 rfl, fun x => (h x).cell 1 rfl, fun x => (h x).cell 2 rfl, fun x => (h x).cell 3 rfl, fun x => (h x).cell 4 rfl, fun x => (h x).cell 5 rfl, fun x => (h x).cell 6 rfl⟩
theorem fiveL {W : World} {b : Nat} {v0 v1 v2 v3 v4 : Value} {t : TypeId} (h : ∀ x : Later W, Blk x.w b #[v0, v1, v2, v3, v4] t) : (∀ x : Later W, x.w.cell? ⟨b, 0, none⟩ = some v0) ∧ (∀ x : Later W, x.w.cell? ⟨b, 1, none⟩ = some v1) ∧ (∀ x : Later W, x.w.cell? ⟨b, 2, none⟩ = some v2) ∧ (∀ x : Later W, x.w.cell? ⟨b, 3, none⟩ = some v3) ∧ ∀ x : Later W, x.w.cell? ⟨b, 4, none⟩ = some v4 :=
  ⟨fun x => (h x).cell 0 rfl, fun x => (h x).cell 1 rfl, fun x => (h x).cell 2 rfl, fun x => (h x).cell 3 rfl, fun x => (h x).cell 4 rfl⟩
theorem GRow.parts {w : World} {v : Value} {r : Rgm} (h : GRow w v r) : ∃ a1 c1 a2 c2 a3 c3, v = .agg #[.string r.name, .int .i64 r.fr, .int .i64 r.to, .slice a1 r.segs.length c1, .slice a2 r.pats.length c2, .slice a3 r.rgns.length c3, .int .i64 r.rule] := by
  obtain ⟨v1, v2, v3, rfl, _, ⟨a1, c1, rfl, _⟩, ⟨a2, c2, rfl, _⟩, ⟨a3, c3, rfl, _⟩⟩ := h
  exact ⟨_, _, _, _, _, _, rfl⟩
set_option maxHeartbeats 2000000 in
theorem specReadNo (v : Value) (r : Rgm) (n : Int) (w : World) (h : GRow w v r) (hn : segAt r.segs n = -1) : Calls Tryz.prog 57 #[v, .int .i64 n] w fun e w' => e = .returned (.tuple #[rdgV rdg0, .bool false]) ∧ Below w.heap.size w w' := by
  have hG := h
  obtain ⟨v1, v2, v3, rfl, _, x1, x2, x3⟩ := h
  obtain ⟨a1, c1, rfl, _⟩ := x1
  obtain ⟨a2, c2, rfl, _⟩ := x2
  obtain ⟨a3, c3, rfl, _⟩ := x3
  obtain ⟨W0, e0, HR, HZ, HB⟩ := boxR w #[.string r.name, .int .i64 r.fr, .int .i64 r.to, .slice a1 r.segs.length c1, .slice a2 r.pats.length c2, .slice a3 r.rgns.length c3, .int .i64 r.rule] 36 #[.int .i64 0, .int .i64 0, .int .i64 0, .int .i64 0, .int .i64 0] 29
  have hG0 : Hid (∀ y : Later W0, GRow y.w (.agg #[.string r.name, .int .i64 r.fr, .int .i64 r.to, .slice a1 r.segs.length c1, .slice a2 r.pats.length c2, .slice a3 r.rgns.length c3, .int .i64 r.rule]) r) := fun y => GRow.below hG (HB.out y)
  have R0 : ∀ y : Later W0, y.w.cell? ⟨w.heap.size, 0, none⟩ = some (.string r.name) := fun y => (HR.out y).cell 0 rfl
  have R1 : ∀ y : Later W0, y.w.cell? ⟨w.heap.size, 1, none⟩ = some (.int .i64 r.fr) := fun y => (HR.out y).cell 1 rfl
  have R2 : ∀ y : Later W0, y.w.cell? ⟨w.heap.size, 2, none⟩ = some (.int .i64 r.to) := fun y => (HR.out y).cell 2 rfl
  have R3 : ∀ y : Later W0, y.w.cell? ⟨w.heap.size, 3, none⟩ = some (.slice a1 r.segs.length c1) := fun y => (HR.out y).cell 3 rfl
  have R4 : ∀ y : Later W0, y.w.cell? ⟨w.heap.size, 4, none⟩ = some (.slice a2 r.pats.length c2) := fun y => (HR.out y).cell 4 rfl
  have R5 : ∀ y : Later W0, y.w.cell? ⟨w.heap.size, 5, none⟩ = some (.slice a3 r.rgns.length c3) := fun y => (HR.out y).cell 5 rfl
  have R6 : ∀ y : Later W0, y.w.cell? ⟨w.heap.size, 6, none⟩ = some (.int .i64 r.rule) := fun y => (HR.out y).cell 6 rfl
  have u0 : ∀ y : Later W0, y.w.cell? ⟨w.heap.size + 1, 0, none⟩ = some (.int .i64 0) := fun y => (HZ.out y).cell 0 rfl
  have f0 : ∀ y : Later W0, y.w.frozen? ⟨w.heap.size + 1, 0, none⟩ = false := fun y => (HZ.out y).thaw 0
  have u1 : ∀ y : Later W0, y.w.cell? ⟨w.heap.size + 1, 1, none⟩ = some (.int .i64 0) := fun y => (HZ.out y).cell 1 rfl
  have f1 : ∀ y : Later W0, y.w.frozen? ⟨w.heap.size + 1, 1, none⟩ = false := fun y => (HZ.out y).thaw 1
  have u2 : ∀ y : Later W0, y.w.cell? ⟨w.heap.size + 1, 2, none⟩ = some (.int .i64 0) := fun y => (HZ.out y).cell 2 rfl
  have f2 : ∀ y : Later W0, y.w.frozen? ⟨w.heap.size + 1, 2, none⟩ = false := fun y => (HZ.out y).thaw 2
  have u3 : ∀ y : Later W0, y.w.cell? ⟨w.heap.size + 1, 3, none⟩ = some (.int .i64 0) := fun y => (HZ.out y).cell 3 rfl
  have f3 : ∀ y : Later W0, y.w.frozen? ⟨w.heap.size + 1, 3, none⟩ = false := fun y => (HZ.out y).thaw 3
  have u4 : ∀ y : Later W0, y.w.cell? ⟨w.heap.size + 1, 4, none⟩ = some (.int .i64 0) := fun y => (HZ.out y).cell 4 rfl
  have f4 : ∀ y : Later W0, y.w.frozen? ⟨w.heap.size + 1, 4, none⟩ = false := fun y => (HZ.out y).thaw 4
  have E0 := hideP e0
  have KS : ∀ y : Later W0, Calls Tryz.prog 105 #[.agg #[.string r.name, .int .i64 r.fr, .int .i64 r.to, .slice a1 r.segs.length c1, .slice a2 r.pats.length c2, .slice a3 r.rgns.length c3, .int .i64 r.rule], .int .i64 n] y.w fun e w' => e = .returned (.int .i64 (-1)) ∧ Below y.w.heap.size y.w w' := fun y => by
    have k := specSegAt _ r n y.w (hG0.out y)
    rw [hn] at k
    exact k
  clear e0 hG hn
  go_enter Tryz.func57, Tryz.ntmps57
  go_wp2_with fail
  rw [← E0.out]
  refine (KS ⟨W0, Below.refl _ _⟩).mono ?_
  rintro e w1 ⟨rfl, hb⟩
  obtain ⟨x1, rfl⟩ := Later.of hb
  clear hb
  go_wp2
  obtain ⟨W9, e9⟩ : ∃ W9, W9 = ((((x1.w.setCell ⟨w.heap.size + 1, 0, none⟩ (.int .i64 0)).setCell ⟨w.heap.size + 1, 1, none⟩ (.int .i64 0)).setCell ⟨w.heap.size + 1, 2, none⟩ (.int .i64 0)).setCell ⟨w.heap.size + 1, 3, none⟩ (.int .i64 0)).setCell ⟨w.heap.size + 1, 4, none⟩ (.int .i64 0) := ⟨_, rfl⟩
  have Z9 : Blk W9 (w.heap.size + 1) #[.int .i64 0, .int .i64 0, .int .i64 0, .int .i64 0, .int .i64 0] 29 := by rw [e9]; exact ((((((HZ.out x1).set 0 _).set 1 _).set 2 _).set 3 _).set 4 _)
  have B9 : Below w.heap.size w W9 := by rw [e9]; exact (Below.setCell (Below.setCell (Below.setCell (Below.setCell (Below.setCell (HB.out x1) (p := ⟨w.heap.size + 1, 0, none⟩) (show w.heap.size ≤ w.heap.size + 1 by omega) _) (p := ⟨w.heap.size + 1, 1, none⟩) (show w.heap.size ≤ w.heap.size + 1 by omega) _) (p := ⟨w.heap.size + 1, 2, none⟩) (show w.heap.size ≤ w.heap.size + 1 by omega) _) (p := ⟨w.heap.size + 1, 3, none⟩) (show w.heap.size ≤ w.heap.size + 1 by omega) _) (p := ⟨w.heap.size + 1, 4, none⟩) (show w.heap.size ≤ w.heap.size + 1 by omega) _)
  rw [← e9]
  clear e9
  have q0 : W9.cell? ⟨w.heap.size + 1, 0, none⟩ = some (.int .i64 0) := Z9.cell 0 rfl
  have q1 : W9.cell? ⟨w.heap.size + 1, 1, none⟩ = some (.int .i64 0) := Z9.cell 1 rfl
  have q2 : W9.cell? ⟨w.heap.size + 1, 2, none⟩ = some (.int .i64 0) := Z9.cell 2 rfl
  have q3 : W9.cell? ⟨w.heap.size + 1, 3, none⟩ = some (.int .i64 0) := Z9.cell 3 rfl
  have q4 : W9.cell? ⟨w.heap.size + 1, 4, none⟩ = some (.int .i64 0) := Z9.cell 4 rfl
  exact bodyPost_ret (by simp [results, Tryz.results57, go_sem, q0, q1, q2, q3, q4]; try rfl) rfl ⟨rfl, B9⟩
end Go.Proofs.YtilpencbbdpgfaaGreatDoor.ctr
namespace Go.Proofs.YtilpencbbdpgfaaGreatDoor.kit
open Go.RowKit
theorem a_et : Tryz.prog.globalNamed "errors.errorType" = some 3 := by kernel_rfl
theorem a_rt : (Tryz.prog.cutTypes.find? (·.1 == "internal/reflectlite.rtype")).map (·.2) = some 300 := by kernel_rfl
theorem a_row : ((List.range 411).filter fun t => Tryz.prog.rowNamed t [101, 114, 114, 111, 114]) = [192] := by kernel_rfl
theorem a_size : Tryz.prog.types.size = 411 := by kernel_rfl
theorem err_of {W : World} (h : handlesMet Tryz.prog [("errors.errorType", .iface "internal/reflectlite.rtype" (.agg [.ptr (.lit (.string [101, 114, 114, 111, 114]))]))] W) : ctr.ErrT W := by
  obtain ⟨name, u, ty, e1, e2, e3, e4, e5⟩ := h _ (List.mem_singleton.2 rfl)
  have en : name = [101, 114, 114, 111, 114] := (Option.some.inj e1).symm
  subst en
  obtain rfl := Option.some.inj (a_rt.symm.trans e2)
  have hm : ty ∈ (List.range 411).filter fun t => Tryz.prog.rowNamed t [101, 114, 114, 111, 114] := List.mem_filter.2 ⟨List.mem_range.2 (by rw [← a_size]; exact e3), e4⟩
  rw [a_row] at hm
  obtain rfl := List.mem_singleton.1 hm
  have hh : typeHandle Tryz.prog 192 = .pointer (some ⟨10, 192, none⟩) := by kernel_rfl
  rw [hh] at e5
  unfold ctr.ErrT
  simpa using World.var?_cell a_et e5 0
end Go.Proofs.YtilpencbbdpgfaaGreatDoor.kit
