/- Contract of the program's readingOn: in a right regime, at a day of it, its reading. Contract of the model's l11Read: in a right regime, at a day of it, its reading. Contracts of both ReadingOf: in a right regime, at a day of it, its reading; else the zero reading and false. Contracts of both Shift: how far a day of a right regime is from the day that its date is by CGre; 0 and false where there is none. Plain laws of the years of reigns, of no program: how often the day has come that has the month and the day of the first one, by how much the year of a style is above the first one's; that these years go up one by one. A right When is one of three kinds; a feast that is found has its name. Whether a day of a right regime is told by a saying: plain, of no program. Rows of days, ascending and none twice: such a row is told by what is in it. Plain, of no program. The days of a right regime that a predicate wants, segment by segment: plain facts, of no program. The days that a When may lead to: three of each segment; all that can be meant are among them, or patched. Plain, of no program. -/
import Derived.Test.YtjojgfdfbkmlkaaGreatDoorJnDbi
import Derived.Test.YtjojgfdfbkmlkaaGreatDoorJnDas
import Derived.Test.YtjojgfdfbkmlkaaGreatDoorJnDbh
import Derived.Test.YtjojgfdfbkmlkaaGreatDoorJnDap
import Derived.Test.YtjojgfdfbkmlkaaGreatDoorMnsKD
import Derived.Test.YtjojgfdfbkmlkaaGreatDoorJnDaa
namespace Go.Proofs.YtjojgfdfbkmlkaaGreatDoor.ctr
open Go.RowKit
set_option maxHeartbeats 4000000 in
theorem implReadingOn (v : Value) (r : Rgm) (n : Int) (w : World) (h : GRow w v r) (hr : regimeB r = true) (h1 : r.fr ≤ n) (h2 : n ≤ r.to) (hT : Tab w) : Calls Tryz.prog 70 #[v, .int .i64 n] w fun e w' => e = .returned (rdgV (rdgOn r n)) ∧ Below w.heap.size w w' := by
  obtain ⟨m, hm, hmS, hm1, hm2⟩ : ∃ m : Nat, m < r.segs.length ∧ segAt r.segs n = (m : Int) ∧ (atK segK r.segs m).fr ≤ n ∧ n ≤ (atK segK r.segs m).to := by
    have h0 := (seg_fact hr n).2 ⟨h1, h2⟩
    rcases segAt_cases r.segs n with ⟨h3, _⟩ | ⟨j, hj, h3, h4, h5⟩
    · omega
    · exact ⟨j, hj, h3, h4, h5⟩
  obtain ⟨n1, n2, n3, n4, _, n5, n6⟩ := segOk_nums (right_seg hr hm).1
  have hrd : rdgOn r n = rdgAt r (atK segK r.segs m) n := by unfold rdgOn; rw [hmS, Int.toNat_natCast]
  rw [hrd]
  clear hrd
  have hG := h
  obtain ⟨v1, v2, v3, rfl, _, x1, x2, x3⟩ := h
  obtain ⟨W0, e0⟩ : ∃ W0, W0 = (w.alloc (.cells #[.string r.name, .int .i64 r.fr, .int .i64 r.to, v1, v2, v3, .int .i64 r.rule] 36)).alloc (.cells #[.int .i64 0, .int .i64 0, .int .i64 0, .int .i64 0, .int .i64 0] 38) := ⟨_, rfl⟩
  have hB0' : ∀ w1, Below W0.heap.size W0 w1 → Below w.heap.size w w1 := by
    rw [e0]
    exact fun w1 h => below_alloc (below_alloc h)
  have hB0 : Hid (∀ y : Later W0, Below w.heap.size w y.w) := fun y => hB0' y.w y.below
  clear hB0'
  have hG0 : Hid (∀ y : Later W0, GRow y.w (.agg #[.string r.name, .int .i64 r.fr, .int .i64 r.to, v1, v2, v3, .int .i64 r.rule]) r) := fun y => GRow.below hG (hB0.out y)
  have KS : ∀ y : Later W0, Calls Tryz.prog 127 #[.agg #[.string r.name, .int .i64 r.fr, .int .i64 r.to, v1, v2, v3, .int .i64 r.rule], .int .i64 n] y.w fun e w' => e = .returned (segV (atK segK r.segs m)) ∧ Below y.w.heap.size y.w w' := fun y => by
    have k := implSegOn _ r n y.w (hG0.out y) hr h1 h2
    rw [hmS, Int.toNat_natCast] at k
    exact k
  have KD : ∀ W, Hid (Below w.heap.size w W) → Calls Tryz.prog 128 #[.int .i64 (atK segK r.segs m).cal, .int .i64 (n + (atK segK r.segs m).off)] W fun e w' => e = .returned (dateR (atK segK r.segs m).cal (n + (atK segK r.segs m).off)) ∧ Below W.heap.size W w' := fun W hb => implDateOf _ _ W (hT.later hb.out)
  have KY : ∀ W, Hid (Below w.heap.size w W) → Calls Tryz.prog 129 #[.int .i64 (atK segK r.segs m).cal, .int .i64 (atK segK r.segs m).sty, .int .i64 (n + (atK segK r.segs m).off)] W fun e w' => e = .returned (styR (atK segK r.segs m).cal (atK segK r.segs m).sty (n + (atK segK r.segs m).off)) ∧ Below W.heap.size W w' := fun W hb => implStyleYear _ _ _ W (hT.later hb.out)
  have KP : ∀ y : Later W0, Calls Tryz.prog 130 #[.agg #[.string r.name, .int .i64 r.fr, .int .i64 r.to, v1, v2, v3, .int .i64 r.rule], .int .i64 n] y.w fun e w' => e = .returned (.int .i64 (patAt r.pats n)) ∧ Below y.w.heap.size y.w w' := fun y => implPatAt _ r n y.w (hG0.out y)
  unfold dateR at KD
  unfold styR at KY
  obtain ⟨p, hp⟩ : ∃ p, patAt r.pats n = p := ⟨_, rfl⟩
  have hpc : (p = -1) ∨ ∃ k : Nat, k < r.pats.length ∧ p = (k : Int) := by
    rw [← hp]
    rcases ifc_cases patK (patIs n) r.pats 0 with ⟨a, _⟩ | ⟨k, a, b, _⟩
    · exact .inl a
    · exact .inr ⟨k, a, by unfold patAt ifind; rw [b]; congr 1; omega⟩
  unfold rdgAt
  rw [hp] at KP ⊢
  obtain ⟨a1, c1, rfl, _, _, hcS⟩ := x1
  obtain ⟨a2, c2, rfl, _, _, hcP⟩ := x2
  obtain ⟨a3, c3, rfl, _⟩ := x3
  have HR0 : Hid (∀ y : Later W0, Blk y.w w.heap.size #[.string r.name, .int .i64 r.fr, .int .i64 r.to, .slice a1 r.segs.length c1, .slice a2 r.pats.length c2, .slice a3 r.rgns.length c3, .int .i64 r.rule] 36) := by unfold Hid; rw [e0]; exact fun y => ((Blk.new _ _ _).alloc _).later y
  have HZ0 : Hid (∀ y : Later W0, Blk y.w (w.heap.size + 1) #[.int .i64 0, .int .i64 0, .int .i64 0, .int .i64 0, .int .i64 0] 38) := by
    unfold Hid
    rw [e0]
    intro y
    have k := Blk.new (w.alloc (.cells #[.string r.name, .int .i64 r.fr, .int .i64 r.to, .slice a1 r.segs.length c1, .slice a2 r.pats.length c2, .slice a3 r.rgns.length c3, .int .i64 r.rule] 36)) #[.int .i64 0, .int .i64 0, .int .i64 0, .int .i64 0, .int .i64 0] 38
    rw [World.size_alloc] at k
    exact k.later y
  have R00 : ∀ y : Later W0, y.w.cell? ⟨w.heap.size, 0, none⟩ = some (.string r.name) := fun y => (HR0.out y).cell 0 rfl
  have R01 : ∀ y : Later W0, y.w.cell? ⟨w.heap.size, 1, none⟩ = some (.int .i64 r.fr) := fun y => (HR0.out y).cell 1 rfl
  have R02 : ∀ y : Later W0, y.w.cell? ⟨w.heap.size, 2, none⟩ = some (.int .i64 r.to) := fun y => (HR0.out y).cell 2 rfl
  have R03 : ∀ y : Later W0, y.w.cell? ⟨w.heap.size, 3, none⟩ = some (.slice a1 r.segs.length c1) := fun y => (HR0.out y).cell 3 rfl
  have R04 : ∀ y : Later W0, y.w.cell? ⟨w.heap.size, 4, none⟩ = some (.slice a2 r.pats.length c2) := fun y => (HR0.out y).cell 4 rfl
  have R05 : ∀ y : Later W0, y.w.cell? ⟨w.heap.size, 5, none⟩ = some (.slice a3 r.rgns.length c3) := fun y => (HR0.out y).cell 5 rfl
  have R06 : ∀ y : Later W0, y.w.cell? ⟨w.heap.size, 6, none⟩ = some (.int .i64 r.rule) := fun y => (HR0.out y).cell 6 rfl
  have E0 := hideP e0
  have HP : Hid (∀ W, Below w.heap.size w W → ∀ k : Nat, k < r.pats.length → ∃ g, a2 = some ⟨g, 0, none⟩ ∧ g < w.heap.size ∧ IAt patK W g k (atK patK r.pats k)) := fun W hb k hk => by
    obtain ⟨g, e, hg, x⟩ := hcP k hk
    exact ⟨g, e, hg, x.below hb hg⟩
  clear e0 hcS hcP hG hr h1 h2 hp hmS hT hm
  generalize atK segK r.segs m = s at *
  generalize (styYear s.cal s.sty (n + s.off)).1 = y0 at *
  generalize (styYear s.cal s.sty (n + s.off)).2 = yb at *
  generalize (dateOf s.cal (n + s.off)).1 = d0 at *
  generalize (dateOf s.cal (n + s.off)).2.1 = d1 at *
  generalize (dateOf s.cal (n + s.off)).2.2.1 = d2 at *
  generalize (dateOf s.cal (n + s.off)).2.2.2.1 = d3 at *
  generalize (dateOf s.cal (n + s.off)).2.2.2.2 = db at *
  obtain ⟨mo, hmo⟩ : ∃ mo, (if 0 ≤ p then (atK patK r.pats p.toNat).mon else d2) = mo := ⟨_, rfl⟩
  obtain ⟨dy, hdy⟩ : ∃ dy, (if 0 ≤ p then (atK patK r.pats p.toNat).dom else d3) = dy := ⟨_, rfl⟩
  rw [hmo, hdy]
  go_enter Tryz.func70, Tryz.ntmps70
  go_wp2_with fail
  rw [← E0.out]
  refine (KS ⟨W0, Below.refl _ _⟩).mono ?_
  rintro e w1 ⟨rfl, hb⟩
  obtain ⟨x1, rfl⟩ := Later.of hb
  clear hb KS
  go_wp2_with fail
  obtain ⟨W1, e1⟩ : ∃ W1, W1 = x1.w.alloc (.cells #[.int .i64 s.fr, .int .i64 s.to, .int .i64 s.cal, .int .i64 s.sty, .int .i64 s.off] 92) := ⟨_, rfl⟩
  have t1 : Hid (∀ y : Later W1, Below W0.heap.size W0 y.w) := by unfold Hid; rw [e1]; exact fun y => x1.on (below_alloc y.below)
  have HR1 : Hid (∀ y : Later W1, Blk y.w (w.heap.size) #[.string r.name, .int .i64 r.fr, .int .i64 r.to, .slice a1 r.segs.length c1, .slice a2 r.pats.length c2, .slice a3 r.rgns.length c3, .int .i64 r.rule] 36) := fun y => HR0.out ⟨y.w, t1.out y⟩
  have HZ1 : Hid (∀ y : Later W1, Blk y.w (w.heap.size + 1) #[.int .i64 0, .int .i64 0, .int .i64 0, .int .i64 0, .int .i64 0] 38) := fun y => HZ0.out ⟨y.w, t1.out y⟩
  have HS1 : Hid (∀ y : Later W1, Blk y.w x1.w.heap.size #[.int .i64 s.fr, .int .i64 s.to, .int .i64 s.cal, .int .i64 s.sty, .int .i64 s.off] 92) := by unfold Hid; rw [e1]; exact fun y => (Blk.new _ _ _).later y
  have S10 : ∀ y : Later W1, y.w.cell? ⟨x1.w.heap.size, 0, none⟩ = some (.int .i64 s.fr) := fun y => (HS1.out y).cell 0 rfl
  have S11 : ∀ y : Later W1, y.w.cell? ⟨x1.w.heap.size, 1, none⟩ = some (.int .i64 s.to) := fun y => (HS1.out y).cell 1 rfl
  have S12 : ∀ y : Later W1, y.w.cell? ⟨x1.w.heap.size, 2, none⟩ = some (.int .i64 s.cal) := fun y => (HS1.out y).cell 2 rfl
  have S13 : ∀ y : Later W1, y.w.cell? ⟨x1.w.heap.size, 3, none⟩ = some (.int .i64 s.sty) := fun y => (HS1.out y).cell 3 rfl
  have S14 : ∀ y : Later W1, y.w.cell? ⟨x1.w.heap.size, 4, none⟩ = some (.int .i64 s.off) := fun y => (HS1.out y).cell 4 rfl
  have B1 : Hid (∀ y : Later W1, Below w.heap.size w y.w) := fun y => hB0.out ⟨y.w, t1.out y⟩
  rw [← e1]
  clear e1
  refine (KD W1 (B1.out ⟨W1, Below.refl _ _⟩)).mono ?_
  rintro e w2 ⟨rfl, hb⟩
  obtain ⟨x2, rfl⟩ := Later.of hb
  clear hb KD
  have A12 : ∀ (y : Later W1) (ob : Obj), (y.w.alloc ob).cell? ⟨x1.w.heap.size, 2, none⟩ = some (.int .i64 s.cal) := fun y ob => S12 ⟨y.w.alloc ob, y.below.alloc y.below.size ob⟩
  have A13 : ∀ (y : Later W1) (ob : Obj), (y.w.alloc ob).cell? ⟨x1.w.heap.size, 3, none⟩ = some (.int .i64 s.sty) := fun y ob => S13 ⟨y.w.alloc ob, y.below.alloc y.below.size ob⟩
  have A14 : ∀ (y : Later W1) (ob : Obj), (y.w.alloc ob).cell? ⟨x1.w.heap.size, 4, none⟩ = some (.int .i64 s.off) := fun y ob => S14 ⟨y.w.alloc ob, y.below.alloc y.below.size ob⟩
  go_wp2_with fail
  obtain ⟨W2, e2⟩ : ∃ W2, W2 = x2.w.alloc (.cells #[.int .i64 d0, .int .i64 d1, .int .i64 d2, .int .i64 d3] 88) := ⟨_, rfl⟩
  have t2 : Hid (∀ y : Later W2, Below W1.heap.size W1 y.w) := by unfold Hid; rw [e2]; exact fun y => x2.on (below_alloc y.below)
  have HR2 : Hid (∀ y : Later W2, Blk y.w (w.heap.size) #[.string r.name, .int .i64 r.fr, .int .i64 r.to, .slice a1 r.segs.length c1, .slice a2 r.pats.length c2, .slice a3 r.rgns.length c3, .int .i64 r.rule] 36) := fun y => HR1.out ⟨y.w, t2.out y⟩
  have HZ2 : Hid (∀ y : Later W2, Blk y.w (w.heap.size + 1) #[.int .i64 0, .int .i64 0, .int .i64 0, .int .i64 0, .int .i64 0] 38) := fun y => HZ1.out ⟨y.w, t2.out y⟩
  have HS2 : Hid (∀ y : Later W2, Blk y.w (x1.w.heap.size) #[.int .i64 s.fr, .int .i64 s.to, .int .i64 s.cal, .int .i64 s.sty, .int .i64 s.off] 92) := fun y => HS1.out ⟨y.w, t2.out y⟩
  have HD2 : Hid (∀ y : Later W2, Blk y.w x2.w.heap.size #[.int .i64 d0, .int .i64 d1, .int .i64 d2, .int .i64 d3] 88) := by unfold Hid; rw [e2]; exact fun y => (Blk.new _ _ _).later y
  have S20 : ∀ y : Later W2, y.w.cell? ⟨x1.w.heap.size, 0, none⟩ = some (.int .i64 s.fr) := fun y => (HS2.out y).cell 0 rfl
  have S21 : ∀ y : Later W2, y.w.cell? ⟨x1.w.heap.size, 1, none⟩ = some (.int .i64 s.to) := fun y => (HS2.out y).cell 1 rfl
  have S22 : ∀ y : Later W2, y.w.cell? ⟨x1.w.heap.size, 2, none⟩ = some (.int .i64 s.cal) := fun y => (HS2.out y).cell 2 rfl
  have S23 : ∀ y : Later W2, y.w.cell? ⟨x1.w.heap.size, 3, none⟩ = some (.int .i64 s.sty) := fun y => (HS2.out y).cell 3 rfl
  have S24 : ∀ y : Later W2, y.w.cell? ⟨x1.w.heap.size, 4, none⟩ = some (.int .i64 s.off) := fun y => (HS2.out y).cell 4 rfl
  have D20 : ∀ y : Later W2, y.w.cell? ⟨x2.w.heap.size, 0, none⟩ = some (.int .i64 d0) := fun y => (HD2.out y).cell 0 rfl
  have D21 : ∀ y : Later W2, y.w.cell? ⟨x2.w.heap.size, 1, none⟩ = some (.int .i64 d1) := fun y => (HD2.out y).cell 1 rfl
  have D22 : ∀ y : Later W2, y.w.cell? ⟨x2.w.heap.size, 2, none⟩ = some (.int .i64 d2) := fun y => (HD2.out y).cell 2 rfl
  have D23 : ∀ y : Later W2, y.w.cell? ⟨x2.w.heap.size, 3, none⟩ = some (.int .i64 d3) := fun y => (HD2.out y).cell 3 rfl
  have R20 : ∀ y : Later W2, y.w.cell? ⟨w.heap.size, 0, none⟩ = some (.string r.name) := fun y => (HR2.out y).cell 0 rfl
  have R21 : ∀ y : Later W2, y.w.cell? ⟨w.heap.size, 1, none⟩ = some (.int .i64 r.fr) := fun y => (HR2.out y).cell 1 rfl
  have R22 : ∀ y : Later W2, y.w.cell? ⟨w.heap.size, 2, none⟩ = some (.int .i64 r.to) := fun y => (HR2.out y).cell 2 rfl
  have R23 : ∀ y : Later W2, y.w.cell? ⟨w.heap.size, 3, none⟩ = some (.slice a1 r.segs.length c1) := fun y => (HR2.out y).cell 3 rfl
  have R24 : ∀ y : Later W2, y.w.cell? ⟨w.heap.size, 4, none⟩ = some (.slice a2 r.pats.length c2) := fun y => (HR2.out y).cell 4 rfl
  have R25 : ∀ y : Later W2, y.w.cell? ⟨w.heap.size, 5, none⟩ = some (.slice a3 r.rgns.length c3) := fun y => (HR2.out y).cell 5 rfl
  have R26 : ∀ y : Later W2, y.w.cell? ⟨w.heap.size, 6, none⟩ = some (.int .i64 r.rule) := fun y => (HR2.out y).cell 6 rfl
  have B2 : Hid (∀ y : Later W2, Below w.heap.size w y.w) := fun y => B1.out ⟨y.w, t2.out y⟩
  rw [← e2]
  clear e2 A12 A13 A14 S10 S11 S12 S13 S14
  refine (KY W2 (B2.out ⟨W2, Below.refl _ _⟩)).mono ?_
  rintro e w3 ⟨rfl, hb⟩
  obtain ⟨x3, rfl⟩ := Later.of hb
  clear hb KY
  have A20 : ∀ (y : Later W2) (ob : Obj), (y.w.alloc ob).cell? ⟨w.heap.size, 0, none⟩ = some (.string r.name) := fun y ob => R20 ⟨y.w.alloc ob, y.below.alloc y.below.size ob⟩
  have A21 : ∀ (y : Later W2) (ob : Obj), (y.w.alloc ob).cell? ⟨w.heap.size, 1, none⟩ = some (.int .i64 r.fr) := fun y ob => R21 ⟨y.w.alloc ob, y.below.alloc y.below.size ob⟩
  have A22 : ∀ (y : Later W2) (ob : Obj), (y.w.alloc ob).cell? ⟨w.heap.size, 2, none⟩ = some (.int .i64 r.to) := fun y ob => R22 ⟨y.w.alloc ob, y.below.alloc y.below.size ob⟩
  have A23 : ∀ (y : Later W2) (ob : Obj), (y.w.alloc ob).cell? ⟨w.heap.size, 3, none⟩ = some (.slice a1 r.segs.length c1) := fun y ob => R23 ⟨y.w.alloc ob, y.below.alloc y.below.size ob⟩
  have A24 : ∀ (y : Later W2) (ob : Obj), (y.w.alloc ob).cell? ⟨w.heap.size, 4, none⟩ = some (.slice a2 r.pats.length c2) := fun y ob => R24 ⟨y.w.alloc ob, y.below.alloc y.below.size ob⟩
  have A25 : ∀ (y : Later W2) (ob : Obj), (y.w.alloc ob).cell? ⟨w.heap.size, 5, none⟩ = some (.slice a3 r.rgns.length c3) := fun y ob => R25 ⟨y.w.alloc ob, y.below.alloc y.below.size ob⟩
  have A26 : ∀ (y : Later W2) (ob : Obj), (y.w.alloc ob).cell? ⟨w.heap.size, 6, none⟩ = some (.int .i64 r.rule) := fun y ob => R26 ⟨y.w.alloc ob, y.below.alloc y.below.size ob⟩
  go_wp2_with fail
  obtain ⟨W3, e3⟩ : ∃ W3, W3 = x3.w.alloc (.cells #[.int .i64 s.cal, .int .i64 y0, .int .i64 d1, .int .i64 d2, .int .i64 d3] 38) := ⟨_, rfl⟩
  have t3 : Hid (∀ y : Later W3, Below W2.heap.size W2 y.w) := by unfold Hid; rw [e3]; exact fun y => x3.on (below_alloc y.below)
  have HR3 : Hid (∀ y : Later W3, Blk y.w (w.heap.size) #[.string r.name, .int .i64 r.fr, .int .i64 r.to, .slice a1 r.segs.length c1, .slice a2 r.pats.length c2, .slice a3 r.rgns.length c3, .int .i64 r.rule] 36) := fun y => HR2.out ⟨y.w, t3.out y⟩
  have HZ3 : Hid (∀ y : Later W3, Blk y.w (w.heap.size + 1) #[.int .i64 0, .int .i64 0, .int .i64 0, .int .i64 0, .int .i64 0] 38) := fun y => HZ2.out ⟨y.w, t3.out y⟩
  have HX3 : Hid (∀ y : Later W3, Blk y.w x3.w.heap.size #[.int .i64 s.cal, .int .i64 y0, .int .i64 d1, .int .i64 d2, .int .i64 d3] 38) := by unfold Hid; rw [e3]; exact fun y => (Blk.new _ _ _).later y
  have R30 : ∀ y : Later W3, y.w.cell? ⟨w.heap.size, 0, none⟩ = some (.string r.name) := fun y => (HR3.out y).cell 0 rfl
  have R31 : ∀ y : Later W3, y.w.cell? ⟨w.heap.size, 1, none⟩ = some (.int .i64 r.fr) := fun y => (HR3.out y).cell 1 rfl
  have R32 : ∀ y : Later W3, y.w.cell? ⟨w.heap.size, 2, none⟩ = some (.int .i64 r.to) := fun y => (HR3.out y).cell 2 rfl
  have R33 : ∀ y : Later W3, y.w.cell? ⟨w.heap.size, 3, none⟩ = some (.slice a1 r.segs.length c1) := fun y => (HR3.out y).cell 3 rfl
  have R34 : ∀ y : Later W3, y.w.cell? ⟨w.heap.size, 4, none⟩ = some (.slice a2 r.pats.length c2) := fun y => (HR3.out y).cell 4 rfl
  have R35 : ∀ y : Later W3, y.w.cell? ⟨w.heap.size, 5, none⟩ = some (.slice a3 r.rgns.length c3) := fun y => (HR3.out y).cell 5 rfl
  have R36 : ∀ y : Later W3, y.w.cell? ⟨w.heap.size, 6, none⟩ = some (.int .i64 r.rule) := fun y => (HR3.out y).cell 6 rfl
  have X30 : ∀ y : Later W3, y.w.cell? ⟨x3.w.heap.size, 0, none⟩ = some (.int .i64 s.cal) := fun y => (HX3.out y).cell 0 rfl
  have X31 : ∀ y : Later W3, y.w.cell? ⟨x3.w.heap.size, 1, none⟩ = some (.int .i64 y0) := fun y => (HX3.out y).cell 1 rfl
  have X32 : ∀ y : Later W3, y.w.cell? ⟨x3.w.heap.size, 2, none⟩ = some (.int .i64 d1) := fun y => (HX3.out y).cell 2 rfl
  have X33 : ∀ y : Later W3, y.w.cell? ⟨x3.w.heap.size, 3, none⟩ = some (.int .i64 d2) := fun y => (HX3.out y).cell 3 rfl
  have X34 : ∀ y : Later W3, y.w.cell? ⟨x3.w.heap.size, 4, none⟩ = some (.int .i64 d3) := fun y => (HX3.out y).cell 4 rfl
  have Z30 : ∀ y : Later W3, y.w.cell? ⟨w.heap.size + 1, 0, none⟩ = some (.int .i64 0) := fun y => (HZ3.out y).cell 0 rfl
  have Z31 : ∀ y : Later W3, y.w.cell? ⟨w.heap.size + 1, 1, none⟩ = some (.int .i64 0) := fun y => (HZ3.out y).cell 1 rfl
  have Z32 : ∀ y : Later W3, y.w.cell? ⟨w.heap.size + 1, 2, none⟩ = some (.int .i64 0) := fun y => (HZ3.out y).cell 2 rfl
  have Z33 : ∀ y : Later W3, y.w.cell? ⟨w.heap.size + 1, 3, none⟩ = some (.int .i64 0) := fun y => (HZ3.out y).cell 3 rfl
  have Z34 : ∀ y : Later W3, y.w.cell? ⟨w.heap.size + 1, 4, none⟩ = some (.int .i64 0) := fun y => (HZ3.out y).cell 4 rfl
  have fX33 : ∀ y : Later W3, y.w.frozen? ⟨x3.w.heap.size, 3, none⟩ = false := fun y => (HX3.out y).thaw 3
  have fX34 : ∀ y : Later W3, y.w.frozen? ⟨x3.w.heap.size, 4, none⟩ = false := fun y => (HX3.out y).thaw 4
  have fZ30 : ∀ y : Later W3, y.w.frozen? ⟨w.heap.size + 1, 0, none⟩ = false := fun y => (HZ3.out y).thaw 0
  have fZ31 : ∀ y : Later W3, y.w.frozen? ⟨w.heap.size + 1, 1, none⟩ = false := fun y => (HZ3.out y).thaw 1
  have fZ32 : ∀ y : Later W3, y.w.frozen? ⟨w.heap.size + 1, 2, none⟩ = false := fun y => (HZ3.out y).thaw 2
  have fZ33 : ∀ y : Later W3, y.w.frozen? ⟨w.heap.size + 1, 3, none⟩ = false := fun y => (HZ3.out y).thaw 3
  have fZ34 : ∀ y : Later W3, y.w.frozen? ⟨w.heap.size + 1, 4, none⟩ = false := fun y => (HZ3.out y).thaw 4
  have B3 : Hid (∀ y : Later W3, Below w.heap.size w y.w) := fun y => B2.out ⟨y.w, t3.out y⟩
  have T3 : Hid (∀ y : Later W3, Below W0.heap.size W0 y.w) := fun y => (Later.mk (W := W1) _ (t2.out ⟨y.w, t3.out y⟩)).below.trans (Below.refl _ _) |> fun h => t1.out ⟨y.w, h⟩
  rw [← e3]
  have q3 : Below W0.heap.size W0 W3 := T3.out ⟨W3, Below.refl _ _⟩
  clear e3 A20 A21 A22 A23 A24 A25 A26 R20 R21 R22 R23 R24 R25 R26 S20 S21 S22 S23 S24 D20 D21 D22 D23 R00 R01 R02 R03 R04 R05 R06
  refine (KP ⟨W3, q3⟩).mono ?_
  rintro e w4 ⟨rfl, hb⟩
  obtain ⟨x4, rfl⟩ := Later.of (W := W3) hb
  clear hb KP q3
  rcases hpc with rfl | ⟨k, hk, rfl⟩
  · rw [if_neg (by omega)] at hmo hdy
    subst hmo
    subst hdy
    go_wp2
    obtain ⟨W9, e9⟩ : ∃ W9, W9 = ((((x4.w.setCell ⟨w.heap.size + 1, 0, none⟩ (.int .i64 s.cal)).setCell ⟨w.heap.size + 1, 1, none⟩ (.int .i64 y0)).setCell ⟨w.heap.size + 1, 2, none⟩ (.int .i64 d1)).setCell ⟨w.heap.size + 1, 3, none⟩ (.int .i64 d2)).setCell ⟨w.heap.size + 1, 4, none⟩ (.int .i64 d3) := ⟨_, rfl⟩
    have Z9 : Blk W9 (w.heap.size + 1) #[.int .i64 s.cal, .int .i64 y0, .int .i64 d1, .int .i64 d2, .int .i64 d3] 38 := by rw [e9]; exact ((((((HZ3.out x4).set 0 _).set 1 _).set 2 _).set 3 _).set 4 _)
    have B9 : Below w.heap.size w W9 := by rw [e9]; exact (Below.setCell (Below.setCell (Below.setCell (Below.setCell (Below.setCell (B3.out x4) (p := ⟨w.heap.size + 1, 0, none⟩) (show w.heap.size ≤ w.heap.size + 1 by omega) _) (p := ⟨w.heap.size + 1, 1, none⟩) (show w.heap.size ≤ w.heap.size + 1 by omega) _) (p := ⟨w.heap.size + 1, 2, none⟩) (show w.heap.size ≤ w.heap.size + 1 by omega) _) (p := ⟨w.heap.size + 1, 3, none⟩) (show w.heap.size ≤ w.heap.size + 1 by omega) _) (p := ⟨w.heap.size + 1, 4, none⟩) (show w.heap.size ≤ w.heap.size + 1 by omega) _)
    rw [← e9]
    clear e9
    have q0 : W9.cell? ⟨w.heap.size + 1, 0, none⟩ = some (.int .i64 s.cal) := Z9.cell 0 rfl
    have q1 : W9.cell? ⟨w.heap.size + 1, 1, none⟩ = some (.int .i64 y0) := Z9.cell 1 rfl
    have q2 : W9.cell? ⟨w.heap.size + 1, 2, none⟩ = some (.int .i64 d1) := Z9.cell 2 rfl
    have q3 : W9.cell? ⟨w.heap.size + 1, 3, none⟩ = some (.int .i64 d2) := Z9.cell 3 rfl
    have q4 : W9.cell? ⟨w.heap.size + 1, 4, none⟩ = some (.int .i64 d3) := Z9.cell 4 rfl
    exact bodyPost_ret (by simp [results, Tryz.results70, go_sem, q0, q1, q2, q3, q4]; try rfl) rfl ⟨rfl, B9⟩
  · rw [if_pos (by omega), Int.toNat_natCast] at hmo hdy
    obtain ⟨g, rfl, hgw, xp⟩ := HP.out x4.w (B3.out x4) k hk
    obtain ⟨c0, c1', c2'⟩ := xp.pat
    have hkz : (k : Int) < (r.pats.length : Int) := by omega
    have hx3 : w.heap.size + 1 < x3.w.heap.size := by
      have := (HZ2.out x3).lt
      omega
    have hG : g ≠ x3.w.heap.size := by omega
    have hGr : w.heap.size ≠ x3.w.heap.size := by omega
    have hGz : x3.w.heap.size ≠ w.heap.size + 1 := by omega
    rw [hmo] at c1'
    rw [hdy] at c2'
    clear HP xp hmo hdy
    go_wp2_with fail
    refine wp_region_held_drew (S := (fun w' => w'.cell? ⟨w.heap.size, 4, none⟩ = some (.slice (some ⟨g, 0, none⟩) r.pats.length c2) ∧ w'.cell? ⟨g, k * 3 + 1, none⟩ = some (.int .i64 mo) ∧ w'.cell? ⟨g, k * 3 + 2, none⟩ = some (.int .i64 dy))) (by kernel_rfl) ⟨R34 x4, c1', c2'⟩ (fun hHeld => ?_)
    refine held_take (i := 0) (d := 52) (v := ?_) rfl rfl (by kernel_rfl) (by decide +kernel) (by decide +kernel) (fun _ _ _ h => h) (by rfl) ?_ (by assumption) ?_
    rotate_left
    · intro w hSw
      (try dsimp only at hSw)
      go_simp
      (try rfl)
    simp only [Act.put, List.setIfInBounds_toArray, List.set_cons_zero, List.set_cons_succ]
    refine held_take (i := 1) (d := 53) (v := ?_) rfl rfl (by kernel_rfl) (by decide +kernel) (by decide +kernel) (fun _ _ _ h => h) (by rfl) ?_ (by assumption) ?_
    rotate_left
    · intro w hSw
      (try dsimp only at hSw)
      go_simp
      (try rfl)
    simp only [Act.put, List.setIfInBounds_toArray, List.set_cons_zero, List.set_cons_succ]
    refine held_take (i := 2) (d := 54) (v := ?_) rfl rfl (by kernel_rfl) (by decide +kernel) (by decide +kernel) (fun _ _ _ h => h) (by rfl) ?_ (by assumption) ?_
    rotate_left
    · intro w hSw
      (try dsimp only at hSw)
      go_simp
      (try rfl)
    simp only [Act.put, List.setIfInBounds_toArray, List.set_cons_zero, List.set_cons_succ]
    refine held_take (i := 3) (d := 55) (v := ?_) rfl rfl (by kernel_rfl) (by decide +kernel) (by decide +kernel) (fun _ _ _ h => h) (by rfl) ?_ (by assumption) ?_
    rotate_left
    · intro w hSw
      (try dsimp only at hSw)
      go_simp
      (try rfl)
    simp only [Act.put, List.setIfInBounds_toArray, List.set_cons_zero, List.set_cons_succ]
    refine held_take (i := 4) (d := 56) (v := ?_) rfl rfl (by kernel_rfl) (by decide +kernel) (by decide +kernel) (fun _ _ _ h => h) (by rfl) ?_ (by assumption) ?_
    rotate_left
    · intro w hSw
      (try dsimp only at hSw)
      go_simp
      (try rfl)
    simp only [Act.put, List.setIfInBounds_toArray, List.set_cons_zero, List.set_cons_succ]
    refine held_take (i := 5) (d := 57) (v := ?_) rfl rfl (by kernel_rfl) (by decide +kernel) (by decide +kernel) (fun _ _ _ h => h) (by rfl) ?_ (by assumption) ?_
    rotate_left
    · intro w hSw
      (try dsimp only at hSw)
      go_simp
      (try rfl)
    simp only [Act.put, List.setIfInBounds_toArray, List.set_cons_zero, List.set_cons_succ]
    refine held_take (i := 6) (d := 58) (v := ?_) rfl rfl (by kernel_rfl) (by decide +kernel) (by decide +kernel) (fun _ _ _ h => h) (by rfl) ?_ (by assumption) ?_
    rotate_left
    · intro w hSw
      (try dsimp only at hSw)
      go_simp
      (try rfl)
    simp only [Act.put, List.setIfInBounds_toArray, List.set_cons_zero, List.set_cons_succ]
    refine held_take (i := 7) (d := 59) (v := ?_) rfl rfl (by kernel_rfl) (by decide +kernel) (by decide +kernel) (fun _ _ _ h => h) (by rfl) ?_ (by assumption) ?_
    rotate_left
    · intro w hSw
      (try dsimp only at hSw)
      go_simp
      (try rfl)
    simp only [Act.put, List.setIfInBounds_toArray, List.set_cons_zero, List.set_cons_succ]
    refine held_take (i := 8) (d := 60) (v := ?_) rfl rfl (by kernel_rfl) (by decide +kernel) (by decide +kernel) (fun _ _ _ h => h) (by rfl) ?_ (by assumption) ?_
    rotate_left
    · intro w hSw
      (try dsimp only at hSw)
      go_simp
      (try rfl)
    simp only [Act.put, List.setIfInBounds_toArray, List.set_cons_zero, List.set_cons_succ]
    refine held_take (i := 9) (d := 61) (v := ?_) rfl rfl (by kernel_rfl) (by decide +kernel) (by decide +kernel) (fun _ _ _ h => h) (by rfl) ?_ (by assumption) ?_
    rotate_left
    · intro w hSw
      (try dsimp only at hSw)
      go_simp
      (try rfl)
    simp only [Act.put, List.setIfInBounds_toArray, List.set_cons_zero, List.set_cons_succ]
    refine held_take (i := 10) (d := 62) (v := ?_) rfl rfl (by kernel_rfl) (by decide +kernel) (by decide +kernel) (fun _ _ _ h => h) (by rfl) ?_ (by assumption) ?_
    rotate_left
    · intro w hSw
      (try dsimp only at hSw)
      go_simp
      (try rfl)
    simp only [Act.put, List.setIfInBounds_toArray, List.set_cons_zero, List.set_cons_succ]
    refine held_take (i := 11) (d := 63) (v := ?_) rfl rfl (by kernel_rfl) (by decide +kernel) (by decide +kernel) (fun _ _ _ h => h) (by rfl) ?_ (by assumption) ?_
    rotate_left
    · intro w hSw
      (try dsimp only at hSw)
      go_simp
      (try rfl)
    simp only [Act.put, List.setIfInBounds_toArray, List.set_cons_zero, List.set_cons_succ]
    refine held_take (i := 12) (d := 64) (v := ?_) rfl rfl (by kernel_rfl) (by decide +kernel) (by decide +kernel) (fun _ _ _ h => h) (by rfl) ?_ (by assumption) ?_
    rotate_left
    · intro w hSw
      (try dsimp only at hSw)
      go_simp
      (try rfl)
    simp only [Act.put, List.setIfInBounds_toArray, List.set_cons_zero, List.set_cons_succ]
    have XD : Hid (Blk x4.w.drew x3.w.heap.size #[.int .i64 s.cal, .int .i64 y0, .int .i64 d1, .int .i64 d2, .int .i64 d3] 38) := (HX3.out x4).drew
    have ZD : Hid (Blk x4.w.drew (w.heap.size + 1) #[.int .i64 0, .int .i64 0, .int .i64 0, .int .i64 0, .int .i64 0] 38) := (HZ3.out x4).drew
    have BD : Hid (Below w.heap.size w x4.w.drew) := (B3.out x4).drew
    have y3 := XD.out.cell 3 rfl
    have z3 := XD.out.thaw 3
    refine held_one (i := 13) (by decide +kernel) (op_skip (w' := (x4.w.drew.setCell ⟨x3.w.heap.size, 3, none⟩ (.int .i64 mo))) rfl rfl (by rfl) (by simp [execOp, go_sem, y3, z3]) ?_)
    obtain ⟨s1, s2, s3⟩ := hHeld
    have KO : ∀ (V : World) (i j b : Nat) (u : Value), b ≠ x3.w.heap.size → (V.setCell ⟨x3.w.heap.size, i, none⟩ u).cell? ⟨b, j, none⟩ = V.cell? ⟨b, j, none⟩ := fun V i j b u hb => World.cell?_setCell_other V ⟨x3.w.heap.size, i, none⟩ ⟨b, j, none⟩ u (by intro e; exact hb (by first | exact congrArg Addr.block e | exact (congrArg Addr.block e).symm))
    have h1 : (x4.w.drew.setCell ⟨x3.w.heap.size, 3, none⟩ (.int .i64 mo)).cell? ⟨w.heap.size, 4, none⟩ = some (.slice (some ⟨g, 0, none⟩) r.pats.length c2) ∧ (x4.w.drew.setCell ⟨x3.w.heap.size, 3, none⟩ (.int .i64 mo)).cell? ⟨g, k * 3 + 1, none⟩ = some (.int .i64 mo) ∧ (x4.w.drew.setCell ⟨x3.w.heap.size, 3, none⟩ (.int .i64 mo)).cell? ⟨g, k * 3 + 2, none⟩ = some (.int .i64 dy) := ⟨(KO _ _ _ _ _ hGr).trans s1, (KO _ _ _ _ _ hG).trans s2, (KO _ _ _ _ _ hG).trans s3⟩
    refine ⟨h1, ?_⟩
    refine held_take (i := 14) (d := 65) (v := ?_) rfl rfl (by kernel_rfl) (by decide +kernel) (by decide +kernel) (fun _ _ _ h => h) (by rfl) ?_ (by assumption) ?_
    rotate_left
    · intro w hSw
      (try dsimp only at hSw)
      go_simp
      (try rfl)
    simp only [Act.put, List.setIfInBounds_toArray, List.set_cons_zero, List.set_cons_succ]
    have XE : Hid (Blk (x4.w.drew.setCell ⟨x3.w.heap.size, 3, none⟩ (.int .i64 mo)) x3.w.heap.size #[.int .i64 s.cal, .int .i64 y0, .int .i64 d1, .int .i64 mo, .int .i64 d3] 38) := XD.out.set 3 _
    refine held_one (i := 15) (by decide +kernel) (op_skip (w' := ((x4.w.drew.setCell ⟨x3.w.heap.size, 3, none⟩ (.int .i64 mo)).setCell ⟨x3.w.heap.size, 4, none⟩ (.int .i64 dy))) rfl rfl (by rfl) (by simp [execOp, go_sem, X34, fX34]) ?_)
    refine ⟨⟨(KO _ _ _ _ _ hGr).trans h1.1, (KO _ _ _ _ _ hG).trans h1.2.1, (KO _ _ _ _ _ hG).trans h1.2.2⟩, ?_⟩
    refine wpAnyH_done (by kernel_rfl) ?_ _
    have XF : Hid (Blk ((x4.w.drew.setCell ⟨x3.w.heap.size, 3, none⟩ (.int .i64 mo)).setCell ⟨x3.w.heap.size, 4, none⟩ (.int .i64 dy)) x3.w.heap.size #[.int .i64 s.cal, .int .i64 y0, .int .i64 d1, .int .i64 mo, .int .i64 dy] 38) := XE.out.set 4 _
    have ZF : Hid (Blk ((x4.w.drew.setCell ⟨x3.w.heap.size, 3, none⟩ (.int .i64 mo)).setCell ⟨x3.w.heap.size, 4, none⟩ (.int .i64 dy)) (w.heap.size + 1) #[.int .i64 0, .int .i64 0, .int .i64 0, .int .i64 0, .int .i64 0] 38) := (ZD.out.other (i := 3) hGz).other (i := 4) hGz
    have BF : Hid (Below w.heap.size w ((x4.w.drew.setCell ⟨x3.w.heap.size, 3, none⟩ (.int .i64 mo)).setCell ⟨x3.w.heap.size, 4, none⟩ (.int .i64 dy))) := Below.setCell (Below.setCell BD.out (p := ⟨x3.w.heap.size, 3, none⟩) (show w.heap.size ≤ x3.w.heap.size by omega) _) (p := ⟨x3.w.heap.size, 4, none⟩) (show w.heap.size ≤ x3.w.heap.size by omega) _
    obtain ⟨VF, eF⟩ : ∃ VF, VF = ((x4.w.drew.setCell ⟨x3.w.heap.size, 3, none⟩ (.int .i64 mo)).setCell ⟨x3.w.heap.size, 4, none⟩ (.int .i64 dy)) := ⟨_, rfl⟩
    rw [← eF] at XF ZF BF ⊢
    clear eF XE XD ZD BD h1 s1 s2 s3 y3 z3
    have l0 := XF.out.cell 0 rfl
    have l1 := XF.out.cell 1 rfl
    have l2 := XF.out.cell 2 rfl
    have l3 := XF.out.cell 3 rfl
    have l4 := XF.out.cell 4 rfl
    have m0 := ZF.out.thaw 0
    have p0 := ZF.out.cell 0 rfl
    have m1 := ZF.out.thaw 1
    have p1 := ZF.out.cell 1 rfl
    have m2 := ZF.out.thaw 2
    have p2 := ZF.out.cell 2 rfl
    have m3 := ZF.out.thaw 3
    have p3 := ZF.out.cell 3 rfl
    have m4 := ZF.out.thaw 4
    have p4 := ZF.out.cell 4 rfl
    go_wp2_with fail
    obtain ⟨W9, e9⟩ : ∃ W9, W9 = ((((VF.setCell ⟨w.heap.size + 1, 0, none⟩ (.int .i64 s.cal)).setCell ⟨w.heap.size + 1, 1, none⟩ (.int .i64 y0)).setCell ⟨w.heap.size + 1, 2, none⟩ (.int .i64 d1)).setCell ⟨w.heap.size + 1, 3, none⟩ (.int .i64 mo)).setCell ⟨w.heap.size + 1, 4, none⟩ (.int .i64 dy) := ⟨_, rfl⟩
    have Z9 : Blk W9 (w.heap.size + 1) #[.int .i64 s.cal, .int .i64 y0, .int .i64 d1, .int .i64 mo, .int .i64 dy] 38 := by rw [e9]; exact (((((ZF.out.set 0 _).set 1 _).set 2 _).set 3 _).set 4 _)
    have B9 : Below w.heap.size w W9 := by rw [e9]; exact (Below.setCell (Below.setCell (Below.setCell (Below.setCell (Below.setCell BF.out (p := ⟨w.heap.size + 1, 0, none⟩) (show w.heap.size ≤ w.heap.size + 1 by omega) _) (p := ⟨w.heap.size + 1, 1, none⟩) (show w.heap.size ≤ w.heap.size + 1 by omega) _) (p := ⟨w.heap.size + 1, 2, none⟩) (show w.heap.size ≤ w.heap.size + 1 by omega) _) (p := ⟨w.heap.size + 1, 3, none⟩) (show w.heap.size ≤ w.heap.size + 1 by omega) _) (p := ⟨w.heap.size + 1, 4, none⟩) (show w.heap.size ≤ w.heap.size + 1 by omega) _)
    rw [← e9]
    clear e9
    have q0 : W9.cell? ⟨w.heap.size + 1, 0, none⟩ = some (.int .i64 s.cal) := Z9.cell 0 rfl
    have q1 : W9.cell? ⟨w.heap.size + 1, 1, none⟩ = some (.int .i64 y0) := Z9.cell 1 rfl
    have q2 : W9.cell? ⟨w.heap.size + 1, 2, none⟩ = some (.int .i64 d1) := Z9.cell 2 rfl
    have q3 : W9.cell? ⟨w.heap.size + 1, 3, none⟩ = some (.int .i64 mo) := Z9.cell 3 rfl
    have q4 : W9.cell? ⟨w.heap.size + 1, 4, none⟩ = some (.int .i64 dy) := Z9.cell 4 rfl
    exact bodyPost_ret (by simp [results, Tryz.results70, go_sem, q0, q1, q2, q3, q4]; try rfl) rfl ⟨rfl, B9⟩
end Go.Proofs.YtjojgfdfbkmlkaaGreatDoor.ctr
namespace Go.Proofs.YtjojgfdfbkmlkaaGreatDoor.ctr
open Go.RowKit
set_option maxHeartbeats 4000000 in
theorem specRead (v : Value) (r : Rgm) (n : Int) (w : World) (h : GRow w v r) (hr : regimeB r = true) (h1 : r.fr ≤ n) (h2 : n ≤ r.to) : Calls Tryz.prog 59 #[v, .int .i64 n] w fun e w' => e = .returned (.tuple #[rdgV (rdgOn r n), .bool true]) ∧ Below w.heap.size w w' := by
  obtain ⟨m, hm, hmS, hm1, hm2⟩ : ∃ m : Nat, m < r.segs.length ∧ segAt r.segs n = (m : Int) ∧ (atK segK r.segs m).fr ≤ n ∧ n ≤ (atK segK r.segs m).to := by
    have h0 := (seg_fact hr n).2 ⟨h1, h2⟩
    rcases segAt_cases r.segs n with ⟨h3, _⟩ | ⟨j, hj, h3, h4, h5⟩
    · omega
    · exact ⟨j, hj, h3, h4, h5⟩
  obtain ⟨n1, n2, n3, n4, _, n5, n6⟩ := segOk_nums (right_seg hr hm).1
  have hrd : rdgOn r n = rdgAt r (atK segK r.segs m) n := by unfold rdgOn; rw [hmS, Int.toNat_natCast]
  rw [hrd]
  clear hrd
  have hG := h
  obtain ⟨v1, v2, v3, rfl, _, x1, x2, x3⟩ := h
  obtain ⟨W0, e0⟩ : ∃ W0, W0 = (w.alloc (.cells #[.string r.name, .int .i64 r.fr, .int .i64 r.to, v1, v2, v3, .int .i64 r.rule] 36)).alloc (.cells #[.int .i64 0, .int .i64 0, .int .i64 0, .int .i64 0, .int .i64 0] 38) := ⟨_, rfl⟩
  have hB0' : ∀ w1, Below W0.heap.size W0 w1 → Below w.heap.size w w1 := by
    rw [e0]
    exact fun w1 h => below_alloc (below_alloc h)
  have hB0 : Hid (∀ y : Later W0, Below w.heap.size w y.w) := fun y => hB0' y.w y.below
  clear hB0'
  have hG0 : Hid (∀ y : Later W0, GRow y.w (.agg #[.string r.name, .int .i64 r.fr, .int .i64 r.to, v1, v2, v3, .int .i64 r.rule]) r) := fun y => GRow.below hG (hB0.out y)
  have KS : ∀ y : Later W0, Calls Tryz.prog 110 #[.agg #[.string r.name, .int .i64 r.fr, .int .i64 r.to, v1, v2, v3, .int .i64 r.rule], .int .i64 n] y.w fun e w' => e = .returned (.int .i64 (m : Int)) ∧ Below y.w.heap.size y.w w' := fun y => by
    have k := specSegAt _ r n y.w (hG0.out y)
    rw [hmS] at k
    exact k
  have KD : ∀ W, Hid (Below w.heap.size w W) → Calls Tryz.prog 111 #[.int .i64 (atK segK r.segs m).cal, .int .i64 (n + (atK segK r.segs m).off)] W fun e w' => e = .returned (dateR (atK segK r.segs m).cal (n + (atK segK r.segs m).off)) ∧ Below W.heap.size W w' := fun W hb => specDateOf _ _ W
  have KY : ∀ W, Hid (Below w.heap.size w W) → Calls Tryz.prog 112 #[.int .i64 (atK segK r.segs m).cal, .int .i64 (atK segK r.segs m).sty, .int .i64 (n + (atK segK r.segs m).off)] W fun e w' => e = .returned (styR (atK segK r.segs m).cal (atK segK r.segs m).sty (n + (atK segK r.segs m).off)) ∧ Below W.heap.size W w' := fun W hb => specStyleYear _ _ _ W
  have KP : ∀ y : Later W0, Calls Tryz.prog 113 #[.agg #[.string r.name, .int .i64 r.fr, .int .i64 r.to, v1, v2, v3, .int .i64 r.rule], .int .i64 n] y.w fun e w' => e = .returned (.int .i64 (patAt r.pats n)) ∧ Below y.w.heap.size y.w w' := fun y => specPatAt _ r n y.w (hG0.out y)
  unfold dateR at KD
  unfold styR at KY
  obtain ⟨p, hp⟩ : ∃ p, patAt r.pats n = p := ⟨_, rfl⟩
  have hpc : (p = -1) ∨ ∃ k : Nat, k < r.pats.length ∧ p = (k : Int) := by
    rw [← hp]
    rcases ifc_cases patK (patIs n) r.pats 0 with ⟨a, _⟩ | ⟨k, a, b, _⟩
    · exact .inl a
    · exact .inr ⟨k, a, by unfold patAt ifind; rw [b]; congr 1; omega⟩
  unfold rdgAt
  rw [hp] at KP ⊢
  obtain ⟨a1, c1, rfl, _, _, hcS⟩ := x1
  obtain ⟨a2, c2, rfl, _, _, hcP⟩ := x2
  obtain ⟨a3, c3, rfl, _⟩ := x3
  obtain ⟨gs, rfl, hgs, xs⟩ := hcS m hm
  have hgS : ∀ y : Later W0, IAt segK y.w gs m (atK segK r.segs m) := fun y => xs.below (hB0.out y) hgs
  have g00 : ∀ y : Later W0, y.w.cell? ⟨gs, m * 5, none⟩ = some (.int .i64 (atK segK r.segs m).fr) := fun y => ((hgS y).seg).1
  have g01 : ∀ y : Later W0, y.w.cell? ⟨gs, m * 5 + 1, none⟩ = some (.int .i64 (atK segK r.segs m).to) := fun y => ((hgS y).seg).2.1
  have g02 : ∀ y : Later W0, y.w.cell? ⟨gs, m * 5 + 2, none⟩ = some (.int .i64 (atK segK r.segs m).cal) := fun y => ((hgS y).seg).2.2.1
  have g03 : ∀ y : Later W0, y.w.cell? ⟨gs, m * 5 + 3, none⟩ = some (.int .i64 (atK segK r.segs m).sty) := fun y => ((hgS y).seg).2.2.2.1
  have g04 : ∀ y : Later W0, y.w.cell? ⟨gs, m * 5 + 4, none⟩ = some (.int .i64 (atK segK r.segs m).off) := fun y => ((hgS y).seg).2.2.2.2
  have hmz : (m : Int) < (r.segs.length : Int) := by omega
  clear xs hgS
  have HR0 : Hid (∀ y : Later W0, Blk y.w w.heap.size #[.string r.name, .int .i64 r.fr, .int .i64 r.to, .slice (some ⟨gs, 0, none⟩) r.segs.length c1, .slice a2 r.pats.length c2, .slice a3 r.rgns.length c3, .int .i64 r.rule] 36) := by unfold Hid; rw [e0]; exact fun y => ((Blk.new _ _ _).alloc _).later y
  have HZ0 : Hid (∀ y : Later W0, Blk y.w (w.heap.size + 1) #[.int .i64 0, .int .i64 0, .int .i64 0, .int .i64 0, .int .i64 0] 38) := by
    unfold Hid
    rw [e0]
    intro y
    have k := Blk.new (w.alloc (.cells #[.string r.name, .int .i64 r.fr, .int .i64 r.to, .slice (some ⟨gs, 0, none⟩) r.segs.length c1, .slice a2 r.pats.length c2, .slice a3 r.rgns.length c3, .int .i64 r.rule] 36)) #[.int .i64 0, .int .i64 0, .int .i64 0, .int .i64 0, .int .i64 0] 38
    rw [World.size_alloc] at k
    exact k.later y
  have R00 : ∀ y : Later W0, y.w.cell? ⟨w.heap.size, 0, none⟩ = some (.string r.name) := fun y => (HR0.out y).cell 0 rfl
  have R01 : ∀ y : Later W0, y.w.cell? ⟨w.heap.size, 1, none⟩ = some (.int .i64 r.fr) := fun y => (HR0.out y).cell 1 rfl
  have R02 : ∀ y : Later W0, y.w.cell? ⟨w.heap.size, 2, none⟩ = some (.int .i64 r.to) := fun y => (HR0.out y).cell 2 rfl
  have R03 : ∀ y : Later W0, y.w.cell? ⟨w.heap.size, 3, none⟩ = some (.slice (some ⟨gs, 0, none⟩) r.segs.length c1) := fun y => (HR0.out y).cell 3 rfl
  have R04 : ∀ y : Later W0, y.w.cell? ⟨w.heap.size, 4, none⟩ = some (.slice a2 r.pats.length c2) := fun y => (HR0.out y).cell 4 rfl
  have R05 : ∀ y : Later W0, y.w.cell? ⟨w.heap.size, 5, none⟩ = some (.slice a3 r.rgns.length c3) := fun y => (HR0.out y).cell 5 rfl
  have R06 : ∀ y : Later W0, y.w.cell? ⟨w.heap.size, 6, none⟩ = some (.int .i64 r.rule) := fun y => (HR0.out y).cell 6 rfl
  have Z00 : ∀ y : Later W0, y.w.cell? ⟨w.heap.size + 1, 0, none⟩ = some (.int .i64 0) := fun y => (HZ0.out y).cell 0 rfl
  have Z01 : ∀ y : Later W0, y.w.cell? ⟨w.heap.size + 1, 1, none⟩ = some (.int .i64 0) := fun y => (HZ0.out y).cell 1 rfl
  have Z02 : ∀ y : Later W0, y.w.cell? ⟨w.heap.size + 1, 2, none⟩ = some (.int .i64 0) := fun y => (HZ0.out y).cell 2 rfl
  have Z03 : ∀ y : Later W0, y.w.cell? ⟨w.heap.size + 1, 3, none⟩ = some (.int .i64 0) := fun y => (HZ0.out y).cell 3 rfl
  have Z04 : ∀ y : Later W0, y.w.cell? ⟨w.heap.size + 1, 4, none⟩ = some (.int .i64 0) := fun y => (HZ0.out y).cell 4 rfl
  have fZ00 : ∀ y : Later W0, y.w.frozen? ⟨w.heap.size + 1, 0, none⟩ = false := fun y => (HZ0.out y).thaw 0
  have fZ01 : ∀ y : Later W0, y.w.frozen? ⟨w.heap.size + 1, 1, none⟩ = false := fun y => (HZ0.out y).thaw 1
  have fZ02 : ∀ y : Later W0, y.w.frozen? ⟨w.heap.size + 1, 2, none⟩ = false := fun y => (HZ0.out y).thaw 2
  have fZ03 : ∀ y : Later W0, y.w.frozen? ⟨w.heap.size + 1, 3, none⟩ = false := fun y => (HZ0.out y).thaw 3
  have fZ04 : ∀ y : Later W0, y.w.frozen? ⟨w.heap.size + 1, 4, none⟩ = false := fun y => (HZ0.out y).thaw 4
  have E0 := hideP e0
  have HP : Hid (∀ W, Below w.heap.size w W → ∀ k : Nat, k < r.pats.length → ∃ g, a2 = some ⟨g, 0, none⟩ ∧ g < w.heap.size ∧ IAt patK W g k (atK patK r.pats k)) := fun W hb k hk => by
    obtain ⟨g, e, hg, x⟩ := hcP k hk
    exact ⟨g, e, hg, x.below hb hg⟩
  clear e0 hcS hcP hG hr h1 h2 hp hmS hm
  generalize atK segK r.segs m = s at *
  generalize (styYear s.cal s.sty (n + s.off)).1 = y0 at *
  generalize (styYear s.cal s.sty (n + s.off)).2 = yb at *
  generalize (dateOf s.cal (n + s.off)).1 = d0 at *
  generalize (dateOf s.cal (n + s.off)).2.1 = d1 at *
  generalize (dateOf s.cal (n + s.off)).2.2.1 = d2 at *
  generalize (dateOf s.cal (n + s.off)).2.2.2.1 = d3 at *
  generalize (dateOf s.cal (n + s.off)).2.2.2.2 = db at *
  obtain ⟨mo, hmo⟩ : ∃ mo, (if 0 ≤ p then (atK patK r.pats p.toNat).mon else d2) = mo := ⟨_, rfl⟩
  obtain ⟨dy, hdy⟩ : ∃ dy, (if 0 ≤ p then (atK patK r.pats p.toNat).dom else d3) = dy := ⟨_, rfl⟩
  rw [hmo, hdy]
  go_enter Tryz.func59, Tryz.ntmps59
  go_wp2_with fail
  rw [← E0.out]
  refine (KS ⟨W0, Below.refl _ _⟩).mono ?_
  rintro e w1 ⟨rfl, hb⟩
  obtain ⟨x1, rfl⟩ := Later.of hb
  clear hb KS
  go_wp2_with fail
  obtain ⟨W1, e1⟩ : ∃ W1, W1 = x1.w.alloc (.cells #[.int .i64 s.fr, .int .i64 s.to, .int .i64 s.cal, .int .i64 s.sty, .int .i64 s.off] 92) := ⟨_, rfl⟩
  have t1 : Hid (∀ y : Later W1, Below W0.heap.size W0 y.w) := by unfold Hid; rw [e1]; exact fun y => x1.on (below_alloc y.below)
  have HR1 : Hid (∀ y : Later W1, Blk y.w (w.heap.size) #[.string r.name, .int .i64 r.fr, .int .i64 r.to, .slice (some ⟨gs, 0, none⟩) r.segs.length c1, .slice a2 r.pats.length c2, .slice a3 r.rgns.length c3, .int .i64 r.rule] 36) := fun y => HR0.out ⟨y.w, t1.out y⟩
  have HZ1 : Hid (∀ y : Later W1, Blk y.w (w.heap.size + 1) #[.int .i64 0, .int .i64 0, .int .i64 0, .int .i64 0, .int .i64 0] 38) := fun y => HZ0.out ⟨y.w, t1.out y⟩
  have HS1 : Hid (∀ y : Later W1, Blk y.w x1.w.heap.size #[.int .i64 s.fr, .int .i64 s.to, .int .i64 s.cal, .int .i64 s.sty, .int .i64 s.off] 92) := by unfold Hid; rw [e1]; exact fun y => (Blk.new _ _ _).later y
  have S10 : ∀ y : Later W1, y.w.cell? ⟨x1.w.heap.size, 0, none⟩ = some (.int .i64 s.fr) := fun y => (HS1.out y).cell 0 rfl
  have S11 : ∀ y : Later W1, y.w.cell? ⟨x1.w.heap.size, 1, none⟩ = some (.int .i64 s.to) := fun y => (HS1.out y).cell 1 rfl
  have S12 : ∀ y : Later W1, y.w.cell? ⟨x1.w.heap.size, 2, none⟩ = some (.int .i64 s.cal) := fun y => (HS1.out y).cell 2 rfl
  have S13 : ∀ y : Later W1, y.w.cell? ⟨x1.w.heap.size, 3, none⟩ = some (.int .i64 s.sty) := fun y => (HS1.out y).cell 3 rfl
  have S14 : ∀ y : Later W1, y.w.cell? ⟨x1.w.heap.size, 4, none⟩ = some (.int .i64 s.off) := fun y => (HS1.out y).cell 4 rfl
  have B1 : Hid (∀ y : Later W1, Below w.heap.size w y.w) := fun y => hB0.out ⟨y.w, t1.out y⟩
  rw [← e1]
  clear e1
  refine (KD W1 (B1.out ⟨W1, Below.refl _ _⟩)).mono ?_
  rintro e w2 ⟨rfl, hb⟩
  obtain ⟨x2, rfl⟩ := Later.of hb
  clear hb KD
  have A12 : ∀ (y : Later W1) (ob : Obj), (y.w.alloc ob).cell? ⟨x1.w.heap.size, 2, none⟩ = some (.int .i64 s.cal) := fun y ob => S12 ⟨y.w.alloc ob, y.below.alloc y.below.size ob⟩
  have A13 : ∀ (y : Later W1) (ob : Obj), (y.w.alloc ob).cell? ⟨x1.w.heap.size, 3, none⟩ = some (.int .i64 s.sty) := fun y ob => S13 ⟨y.w.alloc ob, y.below.alloc y.below.size ob⟩
  have A14 : ∀ (y : Later W1) (ob : Obj), (y.w.alloc ob).cell? ⟨x1.w.heap.size, 4, none⟩ = some (.int .i64 s.off) := fun y ob => S14 ⟨y.w.alloc ob, y.below.alloc y.below.size ob⟩
  go_wp2_with fail
  obtain ⟨W2, e2⟩ : ∃ W2, W2 = x2.w.alloc (.cells #[.int .i64 d0, .int .i64 d1, .int .i64 d2, .int .i64 d3] 88) := ⟨_, rfl⟩
  have t2 : Hid (∀ y : Later W2, Below W1.heap.size W1 y.w) := by unfold Hid; rw [e2]; exact fun y => x2.on (below_alloc y.below)
  have HR2 : Hid (∀ y : Later W2, Blk y.w (w.heap.size) #[.string r.name, .int .i64 r.fr, .int .i64 r.to, .slice (some ⟨gs, 0, none⟩) r.segs.length c1, .slice a2 r.pats.length c2, .slice a3 r.rgns.length c3, .int .i64 r.rule] 36) := fun y => HR1.out ⟨y.w, t2.out y⟩
  have HZ2 : Hid (∀ y : Later W2, Blk y.w (w.heap.size + 1) #[.int .i64 0, .int .i64 0, .int .i64 0, .int .i64 0, .int .i64 0] 38) := fun y => HZ1.out ⟨y.w, t2.out y⟩
  have HS2 : Hid (∀ y : Later W2, Blk y.w (x1.w.heap.size) #[.int .i64 s.fr, .int .i64 s.to, .int .i64 s.cal, .int .i64 s.sty, .int .i64 s.off] 92) := fun y => HS1.out ⟨y.w, t2.out y⟩
  have HD2 : Hid (∀ y : Later W2, Blk y.w x2.w.heap.size #[.int .i64 d0, .int .i64 d1, .int .i64 d2, .int .i64 d3] 88) := by unfold Hid; rw [e2]; exact fun y => (Blk.new _ _ _).later y
  have S20 : ∀ y : Later W2, y.w.cell? ⟨x1.w.heap.size, 0, none⟩ = some (.int .i64 s.fr) := fun y => (HS2.out y).cell 0 rfl
  have S21 : ∀ y : Later W2, y.w.cell? ⟨x1.w.heap.size, 1, none⟩ = some (.int .i64 s.to) := fun y => (HS2.out y).cell 1 rfl
  have S22 : ∀ y : Later W2, y.w.cell? ⟨x1.w.heap.size, 2, none⟩ = some (.int .i64 s.cal) := fun y => (HS2.out y).cell 2 rfl
  have S23 : ∀ y : Later W2, y.w.cell? ⟨x1.w.heap.size, 3, none⟩ = some (.int .i64 s.sty) := fun y => (HS2.out y).cell 3 rfl
  have S24 : ∀ y : Later W2, y.w.cell? ⟨x1.w.heap.size, 4, none⟩ = some (.int .i64 s.off) := fun y => (HS2.out y).cell 4 rfl
  have D20 : ∀ y : Later W2, y.w.cell? ⟨x2.w.heap.size, 0, none⟩ = some (.int .i64 d0) := fun y => (HD2.out y).cell 0 rfl
  have D21 : ∀ y : Later W2, y.w.cell? ⟨x2.w.heap.size, 1, none⟩ = some (.int .i64 d1) := fun y => (HD2.out y).cell 1 rfl
  have D22 : ∀ y : Later W2, y.w.cell? ⟨x2.w.heap.size, 2, none⟩ = some (.int .i64 d2) := fun y => (HD2.out y).cell 2 rfl
  have D23 : ∀ y : Later W2, y.w.cell? ⟨x2.w.heap.size, 3, none⟩ = some (.int .i64 d3) := fun y => (HD2.out y).cell 3 rfl
  have R20 : ∀ y : Later W2, y.w.cell? ⟨w.heap.size, 0, none⟩ = some (.string r.name) := fun y => (HR2.out y).cell 0 rfl
  have R21 : ∀ y : Later W2, y.w.cell? ⟨w.heap.size, 1, none⟩ = some (.int .i64 r.fr) := fun y => (HR2.out y).cell 1 rfl
  have R22 : ∀ y : Later W2, y.w.cell? ⟨w.heap.size, 2, none⟩ = some (.int .i64 r.to) := fun y => (HR2.out y).cell 2 rfl
  have R23 : ∀ y : Later W2, y.w.cell? ⟨w.heap.size, 3, none⟩ = some (.slice (some ⟨gs, 0, none⟩) r.segs.length c1) := fun y => (HR2.out y).cell 3 rfl
  have R24 : ∀ y : Later W2, y.w.cell? ⟨w.heap.size, 4, none⟩ = some (.slice a2 r.pats.length c2) := fun y => (HR2.out y).cell 4 rfl
  have R25 : ∀ y : Later W2, y.w.cell? ⟨w.heap.size, 5, none⟩ = some (.slice a3 r.rgns.length c3) := fun y => (HR2.out y).cell 5 rfl
  have R26 : ∀ y : Later W2, y.w.cell? ⟨w.heap.size, 6, none⟩ = some (.int .i64 r.rule) := fun y => (HR2.out y).cell 6 rfl
  have B2 : Hid (∀ y : Later W2, Below w.heap.size w y.w) := fun y => B1.out ⟨y.w, t2.out y⟩
  rw [← e2]
  clear e2 A12 A13 A14 S10 S11 S12 S13 S14
  refine (KY W2 (B2.out ⟨W2, Below.refl _ _⟩)).mono ?_
  rintro e w3 ⟨rfl, hb⟩
  obtain ⟨x3, rfl⟩ := Later.of hb
  clear hb KY
  have A20 : ∀ (y : Later W2) (ob : Obj), (y.w.alloc ob).cell? ⟨w.heap.size, 0, none⟩ = some (.string r.name) := fun y ob => R20 ⟨y.w.alloc ob, y.below.alloc y.below.size ob⟩
  have A21 : ∀ (y : Later W2) (ob : Obj), (y.w.alloc ob).cell? ⟨w.heap.size, 1, none⟩ = some (.int .i64 r.fr) := fun y ob => R21 ⟨y.w.alloc ob, y.below.alloc y.below.size ob⟩
  have A22 : ∀ (y : Later W2) (ob : Obj), (y.w.alloc ob).cell? ⟨w.heap.size, 2, none⟩ = some (.int .i64 r.to) := fun y ob => R22 ⟨y.w.alloc ob, y.below.alloc y.below.size ob⟩
  have A23 : ∀ (y : Later W2) (ob : Obj), (y.w.alloc ob).cell? ⟨w.heap.size, 3, none⟩ = some (.slice (some ⟨gs, 0, none⟩) r.segs.length c1) := fun y ob => R23 ⟨y.w.alloc ob, y.below.alloc y.below.size ob⟩
  have A24 : ∀ (y : Later W2) (ob : Obj), (y.w.alloc ob).cell? ⟨w.heap.size, 4, none⟩ = some (.slice a2 r.pats.length c2) := fun y ob => R24 ⟨y.w.alloc ob, y.below.alloc y.below.size ob⟩
  have A25 : ∀ (y : Later W2) (ob : Obj), (y.w.alloc ob).cell? ⟨w.heap.size, 5, none⟩ = some (.slice a3 r.rgns.length c3) := fun y ob => R25 ⟨y.w.alloc ob, y.below.alloc y.below.size ob⟩
  have A26 : ∀ (y : Later W2) (ob : Obj), (y.w.alloc ob).cell? ⟨w.heap.size, 6, none⟩ = some (.int .i64 r.rule) := fun y ob => R26 ⟨y.w.alloc ob, y.below.alloc y.below.size ob⟩
  go_wp2_with fail
  obtain ⟨W3, e3⟩ : ∃ W3, W3 = x3.w.alloc (.cells #[.int .i64 s.cal, .int .i64 y0, .int .i64 d1, .int .i64 d2, .int .i64 d3] 38) := ⟨_, rfl⟩
  have t3 : Hid (∀ y : Later W3, Below W2.heap.size W2 y.w) := by unfold Hid; rw [e3]; exact fun y => x3.on (below_alloc y.below)
  have HR3 : Hid (∀ y : Later W3, Blk y.w (w.heap.size) #[.string r.name, .int .i64 r.fr, .int .i64 r.to, .slice (some ⟨gs, 0, none⟩) r.segs.length c1, .slice a2 r.pats.length c2, .slice a3 r.rgns.length c3, .int .i64 r.rule] 36) := fun y => HR2.out ⟨y.w, t3.out y⟩
  have HZ3 : Hid (∀ y : Later W3, Blk y.w (w.heap.size + 1) #[.int .i64 0, .int .i64 0, .int .i64 0, .int .i64 0, .int .i64 0] 38) := fun y => HZ2.out ⟨y.w, t3.out y⟩
  have HX3 : Hid (∀ y : Later W3, Blk y.w x3.w.heap.size #[.int .i64 s.cal, .int .i64 y0, .int .i64 d1, .int .i64 d2, .int .i64 d3] 38) := by unfold Hid; rw [e3]; exact fun y => (Blk.new _ _ _).later y
  have R30 : ∀ y : Later W3, y.w.cell? ⟨w.heap.size, 0, none⟩ = some (.string r.name) := fun y => (HR3.out y).cell 0 rfl
  have R31 : ∀ y : Later W3, y.w.cell? ⟨w.heap.size, 1, none⟩ = some (.int .i64 r.fr) := fun y => (HR3.out y).cell 1 rfl
  have R32 : ∀ y : Later W3, y.w.cell? ⟨w.heap.size, 2, none⟩ = some (.int .i64 r.to) := fun y => (HR3.out y).cell 2 rfl
  have R33 : ∀ y : Later W3, y.w.cell? ⟨w.heap.size, 3, none⟩ = some (.slice (some ⟨gs, 0, none⟩) r.segs.length c1) := fun y => (HR3.out y).cell 3 rfl
  have R34 : ∀ y : Later W3, y.w.cell? ⟨w.heap.size, 4, none⟩ = some (.slice a2 r.pats.length c2) := fun y => (HR3.out y).cell 4 rfl
  have R35 : ∀ y : Later W3, y.w.cell? ⟨w.heap.size, 5, none⟩ = some (.slice a3 r.rgns.length c3) := fun y => (HR3.out y).cell 5 rfl
  have R36 : ∀ y : Later W3, y.w.cell? ⟨w.heap.size, 6, none⟩ = some (.int .i64 r.rule) := fun y => (HR3.out y).cell 6 rfl
  have X30 : ∀ y : Later W3, y.w.cell? ⟨x3.w.heap.size, 0, none⟩ = some (.int .i64 s.cal) := fun y => (HX3.out y).cell 0 rfl
  have X31 : ∀ y : Later W3, y.w.cell? ⟨x3.w.heap.size, 1, none⟩ = some (.int .i64 y0) := fun y => (HX3.out y).cell 1 rfl
  have X32 : ∀ y : Later W3, y.w.cell? ⟨x3.w.heap.size, 2, none⟩ = some (.int .i64 d1) := fun y => (HX3.out y).cell 2 rfl
  have X33 : ∀ y : Later W3, y.w.cell? ⟨x3.w.heap.size, 3, none⟩ = some (.int .i64 d2) := fun y => (HX3.out y).cell 3 rfl
  have X34 : ∀ y : Later W3, y.w.cell? ⟨x3.w.heap.size, 4, none⟩ = some (.int .i64 d3) := fun y => (HX3.out y).cell 4 rfl
  have Z30 : ∀ y : Later W3, y.w.cell? ⟨w.heap.size + 1, 0, none⟩ = some (.int .i64 0) := fun y => (HZ3.out y).cell 0 rfl
  have Z31 : ∀ y : Later W3, y.w.cell? ⟨w.heap.size + 1, 1, none⟩ = some (.int .i64 0) := fun y => (HZ3.out y).cell 1 rfl
  have Z32 : ∀ y : Later W3, y.w.cell? ⟨w.heap.size + 1, 2, none⟩ = some (.int .i64 0) := fun y => (HZ3.out y).cell 2 rfl
  have Z33 : ∀ y : Later W3, y.w.cell? ⟨w.heap.size + 1, 3, none⟩ = some (.int .i64 0) := fun y => (HZ3.out y).cell 3 rfl
  have Z34 : ∀ y : Later W3, y.w.cell? ⟨w.heap.size + 1, 4, none⟩ = some (.int .i64 0) := fun y => (HZ3.out y).cell 4 rfl
  have fX33 : ∀ y : Later W3, y.w.frozen? ⟨x3.w.heap.size, 3, none⟩ = false := fun y => (HX3.out y).thaw 3
  have fX34 : ∀ y : Later W3, y.w.frozen? ⟨x3.w.heap.size, 4, none⟩ = false := fun y => (HX3.out y).thaw 4
  have fZ30 : ∀ y : Later W3, y.w.frozen? ⟨w.heap.size + 1, 0, none⟩ = false := fun y => (HZ3.out y).thaw 0
  have fZ31 : ∀ y : Later W3, y.w.frozen? ⟨w.heap.size + 1, 1, none⟩ = false := fun y => (HZ3.out y).thaw 1
  have fZ32 : ∀ y : Later W3, y.w.frozen? ⟨w.heap.size + 1, 2, none⟩ = false := fun y => (HZ3.out y).thaw 2
  have fZ33 : ∀ y : Later W3, y.w.frozen? ⟨w.heap.size + 1, 3, none⟩ = false := fun y => (HZ3.out y).thaw 3
  have fZ34 : ∀ y : Later W3, y.w.frozen? ⟨w.heap.size + 1, 4, none⟩ = false := fun y => (HZ3.out y).thaw 4
  have B3 : Hid (∀ y : Later W3, Below w.heap.size w y.w) := fun y => B2.out ⟨y.w, t3.out y⟩
  have T3 : Hid (∀ y : Later W3, Below W0.heap.size W0 y.w) := fun y => (Later.mk (W := W1) _ (t2.out ⟨y.w, t3.out y⟩)).below.trans (Below.refl _ _) |> fun h => t1.out ⟨y.w, h⟩
  rw [← e3]
  have q3 : Below W0.heap.size W0 W3 := T3.out ⟨W3, Below.refl _ _⟩
  clear e3 A20 A21 A22 A23 A24 A25 A26 R20 R21 R22 R23 R24 R25 R26 S20 S21 S22 S23 S24 D20 D21 D22 D23 R00 R01 R02 R03 R04 R05 R06
  refine (KP ⟨W3, q3⟩).mono ?_
  rintro e w4 ⟨rfl, hb⟩
  obtain ⟨x4, rfl⟩ := Later.of (W := W3) hb
  clear hb KP q3
  rcases hpc with rfl | ⟨k, hk, rfl⟩
  · rw [if_neg (by omega)] at hmo hdy
    subst hmo
    subst hdy
    go_wp2
    obtain ⟨W9, e9⟩ : ∃ W9, W9 = ((((x4.w.setCell ⟨w.heap.size + 1, 0, none⟩ (.int .i64 s.cal)).setCell ⟨w.heap.size + 1, 1, none⟩ (.int .i64 y0)).setCell ⟨w.heap.size + 1, 2, none⟩ (.int .i64 d1)).setCell ⟨w.heap.size + 1, 3, none⟩ (.int .i64 d2)).setCell ⟨w.heap.size + 1, 4, none⟩ (.int .i64 d3) := ⟨_, rfl⟩
    have Z9 : Blk W9 (w.heap.size + 1) #[.int .i64 s.cal, .int .i64 y0, .int .i64 d1, .int .i64 d2, .int .i64 d3] 38 := by rw [e9]; exact ((((((HZ3.out x4).set 0 _).set 1 _).set 2 _).set 3 _).set 4 _)
    have B9 : Below w.heap.size w W9 := by rw [e9]; exact (Below.setCell (Below.setCell (Below.setCell (Below.setCell (Below.setCell (B3.out x4) (p := ⟨w.heap.size + 1, 0, none⟩) (show w.heap.size ≤ w.heap.size + 1 by omega) _) (p := ⟨w.heap.size + 1, 1, none⟩) (show w.heap.size ≤ w.heap.size + 1 by omega) _) (p := ⟨w.heap.size + 1, 2, none⟩) (show w.heap.size ≤ w.heap.size + 1 by omega) _) (p := ⟨w.heap.size + 1, 3, none⟩) (show w.heap.size ≤ w.heap.size + 1 by omega) _) (p := ⟨w.heap.size + 1, 4, none⟩) (show w.heap.size ≤ w.heap.size + 1 by omega) _)
    rw [← e9]
    clear e9
    have q0 : W9.cell? ⟨w.heap.size + 1, 0, none⟩ = some (.int .i64 s.cal) := Z9.cell 0 rfl
    have q1 : W9.cell? ⟨w.heap.size + 1, 1, none⟩ = some (.int .i64 y0) := Z9.cell 1 rfl
    have q2 : W9.cell? ⟨w.heap.size + 1, 2, none⟩ = some (.int .i64 d1) := Z9.cell 2 rfl
    have q3 : W9.cell? ⟨w.heap.size + 1, 3, none⟩ = some (.int .i64 d2) := Z9.cell 3 rfl
    have q4 : W9.cell? ⟨w.heap.size + 1, 4, none⟩ = some (.int .i64 d3) := Z9.cell 4 rfl
    exact bodyPost_ret (by simp [results, Tryz.results59, go_sem, q0, q1, q2, q3, q4]; try rfl) rfl ⟨rfl, B9⟩
  · rw [if_pos (by omega), Int.toNat_natCast] at hmo hdy
    obtain ⟨g, rfl, hgw, xp⟩ := HP.out x4.w (B3.out x4) k hk
    obtain ⟨c0, c1', c2'⟩ := xp.pat
    have hkz : (k : Int) < (r.pats.length : Int) := by omega
    have hx3 : w.heap.size + 1 < x3.w.heap.size := by
      have := (HZ2.out x3).lt
      omega
    have hG : g ≠ x3.w.heap.size := by omega
    have hGr : w.heap.size ≠ x3.w.heap.size := by omega
    have hGz : x3.w.heap.size ≠ w.heap.size + 1 := by omega
    rw [hmo] at c1'
    rw [hdy] at c2'
    clear HP xp hmo hdy
    have k1 : ∀ u : Value, (x4.w.setCell ⟨x3.w.heap.size, 3, none⟩ u).cell? ⟨w.heap.size, 4, none⟩ = some (.slice (some ⟨g, 0, none⟩) r.pats.length c2) := fun u => ((HR3.out x4).other (i := 3) (v := u) (Ne.symm hGr)).cell 4 rfl
    have k2 : ∀ u : Value, (x4.w.setCell ⟨x3.w.heap.size, 3, none⟩ u).cell? ⟨g, k * 3 + 2, none⟩ = some (.int .i64 dy) := fun u => (World.cell?_setCell_other x4.w ⟨x3.w.heap.size, 3, none⟩ ⟨g, k * 3 + 2, none⟩ u (by intro e; exact hG (by first | exact congrArg Addr.block e | exact (congrArg Addr.block e).symm))).trans c2'
    have k3 : ∀ u : Value, (x4.w.setCell ⟨x3.w.heap.size, 3, none⟩ u).frozen? ⟨x3.w.heap.size, 4, none⟩ = false := fun u => ((HX3.out x4).set 3 u).thaw 4
    have k4 : ∀ u : Value, (x4.w.setCell ⟨x3.w.heap.size, 3, none⟩ u).cell? ⟨x3.w.heap.size, 4, none⟩ = some (.int .i64 d3) := fun u => ((HX3.out x4).set 3 u).cell 4 rfl
    have l0 : ∀ u u2 : Value, ((x4.w.setCell ⟨x3.w.heap.size, 3, none⟩ u).setCell ⟨x3.w.heap.size, 4, none⟩ u2).cell? ⟨x3.w.heap.size, 0, none⟩ = some (.int .i64 s.cal) := fun u u2 => (((HX3.out x4).set 3 u).set 4 u2).cell 0 rfl
    have l1 : ∀ u u2 : Value, ((x4.w.setCell ⟨x3.w.heap.size, 3, none⟩ u).setCell ⟨x3.w.heap.size, 4, none⟩ u2).cell? ⟨x3.w.heap.size, 1, none⟩ = some (.int .i64 y0) := fun u u2 => (((HX3.out x4).set 3 u).set 4 u2).cell 1 rfl
    have l2 : ∀ u u2 : Value, ((x4.w.setCell ⟨x3.w.heap.size, 3, none⟩ u).setCell ⟨x3.w.heap.size, 4, none⟩ u2).cell? ⟨x3.w.heap.size, 2, none⟩ = some (.int .i64 d1) := fun u u2 => (((HX3.out x4).set 3 u).set 4 u2).cell 2 rfl
    have l3 : ∀ u u2 : Value, ((x4.w.setCell ⟨x3.w.heap.size, 3, none⟩ u).setCell ⟨x3.w.heap.size, 4, none⟩ u2).cell? ⟨x3.w.heap.size, 3, none⟩ = some (u) := fun u u2 => (((HX3.out x4).set 3 u).set 4 u2).cell 3 rfl
    have l4 : ∀ u u2 : Value, ((x4.w.setCell ⟨x3.w.heap.size, 3, none⟩ u).setCell ⟨x3.w.heap.size, 4, none⟩ u2).cell? ⟨x3.w.heap.size, 4, none⟩ = some (u2) := fun u u2 => (((HX3.out x4).set 3 u).set 4 u2).cell 4 rfl
    have m0 : ∀ u u2 : Value, ((x4.w.setCell ⟨x3.w.heap.size, 3, none⟩ u).setCell ⟨x3.w.heap.size, 4, none⟩ u2).frozen? ⟨w.heap.size + 1, 0, none⟩ = false := fun u u2 => (((HZ3.out x4).other (i := 3) (v := u) hGz).other (i := 4) (v := u2) hGz).thaw 0
    have p0 : ∀ u u2 : Value, ((x4.w.setCell ⟨x3.w.heap.size, 3, none⟩ u).setCell ⟨x3.w.heap.size, 4, none⟩ u2).cell? ⟨w.heap.size + 1, 0, none⟩ = some (.int .i64 0) := fun u u2 => (((HZ3.out x4).other (i := 3) (v := u) hGz).other (i := 4) (v := u2) hGz).cell 0 rfl
    have m1 : ∀ u u2 : Value, ((x4.w.setCell ⟨x3.w.heap.size, 3, none⟩ u).setCell ⟨x3.w.heap.size, 4, none⟩ u2).frozen? ⟨w.heap.size + 1, 1, none⟩ = false := fun u u2 => (((HZ3.out x4).other (i := 3) (v := u) hGz).other (i := 4) (v := u2) hGz).thaw 1
    have p1 : ∀ u u2 : Value, ((x4.w.setCell ⟨x3.w.heap.size, 3, none⟩ u).setCell ⟨x3.w.heap.size, 4, none⟩ u2).cell? ⟨w.heap.size + 1, 1, none⟩ = some (.int .i64 0) := fun u u2 => (((HZ3.out x4).other (i := 3) (v := u) hGz).other (i := 4) (v := u2) hGz).cell 1 rfl
    have m2 : ∀ u u2 : Value, ((x4.w.setCell ⟨x3.w.heap.size, 3, none⟩ u).setCell ⟨x3.w.heap.size, 4, none⟩ u2).frozen? ⟨w.heap.size + 1, 2, none⟩ = false := fun u u2 => (((HZ3.out x4).other (i := 3) (v := u) hGz).other (i := 4) (v := u2) hGz).thaw 2
    have p2 : ∀ u u2 : Value, ((x4.w.setCell ⟨x3.w.heap.size, 3, none⟩ u).setCell ⟨x3.w.heap.size, 4, none⟩ u2).cell? ⟨w.heap.size + 1, 2, none⟩ = some (.int .i64 0) := fun u u2 => (((HZ3.out x4).other (i := 3) (v := u) hGz).other (i := 4) (v := u2) hGz).cell 2 rfl
    have m3 : ∀ u u2 : Value, ((x4.w.setCell ⟨x3.w.heap.size, 3, none⟩ u).setCell ⟨x3.w.heap.size, 4, none⟩ u2).frozen? ⟨w.heap.size + 1, 3, none⟩ = false := fun u u2 => (((HZ3.out x4).other (i := 3) (v := u) hGz).other (i := 4) (v := u2) hGz).thaw 3
    have p3 : ∀ u u2 : Value, ((x4.w.setCell ⟨x3.w.heap.size, 3, none⟩ u).setCell ⟨x3.w.heap.size, 4, none⟩ u2).cell? ⟨w.heap.size + 1, 3, none⟩ = some (.int .i64 0) := fun u u2 => (((HZ3.out x4).other (i := 3) (v := u) hGz).other (i := 4) (v := u2) hGz).cell 3 rfl
    have m4 : ∀ u u2 : Value, ((x4.w.setCell ⟨x3.w.heap.size, 3, none⟩ u).setCell ⟨x3.w.heap.size, 4, none⟩ u2).frozen? ⟨w.heap.size + 1, 4, none⟩ = false := fun u u2 => (((HZ3.out x4).other (i := 3) (v := u) hGz).other (i := 4) (v := u2) hGz).thaw 4
    have p4 : ∀ u u2 : Value, ((x4.w.setCell ⟨x3.w.heap.size, 3, none⟩ u).setCell ⟨x3.w.heap.size, 4, none⟩ u2).cell? ⟨w.heap.size + 1, 4, none⟩ = some (.int .i64 0) := fun u u2 => (((HZ3.out x4).other (i := 3) (v := u) hGz).other (i := 4) (v := u2) hGz).cell 4 rfl
    go_wp2
    obtain ⟨W9, e9⟩ : ∃ W9, W9 = ((((((x4.w.setCell ⟨x3.w.heap.size, 3, none⟩ (.int .i64 mo)).setCell ⟨x3.w.heap.size, 4, none⟩ (.int .i64 dy)).setCell ⟨w.heap.size + 1, 0, none⟩ (.int .i64 s.cal)).setCell ⟨w.heap.size + 1, 1, none⟩ (.int .i64 y0)).setCell ⟨w.heap.size + 1, 2, none⟩ (.int .i64 d1)).setCell ⟨w.heap.size + 1, 3, none⟩ (.int .i64 mo)).setCell ⟨w.heap.size + 1, 4, none⟩ (.int .i64 dy) := ⟨_, rfl⟩
    have Z9 : Blk W9 (w.heap.size + 1) #[.int .i64 s.cal, .int .i64 y0, .int .i64 d1, .int .i64 mo, .int .i64 dy] 38 := by rw [e9]; exact ((((((((HZ3.out x4).other (i := 3) hGz).other (i := 4) hGz).set 0 _).set 1 _).set 2 _).set 3 _).set 4 _)
    have B9 : Below w.heap.size w W9 := by rw [e9]; exact (Below.setCell (Below.setCell (Below.setCell (Below.setCell (Below.setCell (Below.setCell (Below.setCell (B3.out x4) (p := ⟨x3.w.heap.size, 3, none⟩) (show w.heap.size ≤ x3.w.heap.size by omega) _) (p := ⟨x3.w.heap.size, 4, none⟩) (show w.heap.size ≤ x3.w.heap.size by omega) _) (p := ⟨w.heap.size + 1, 0, none⟩) (show w.heap.size ≤ w.heap.size + 1 by omega) _) (p := ⟨w.heap.size + 1, 1, none⟩) (show w.heap.size ≤ w.heap.size + 1 by omega) _) (p := ⟨w.heap.size + 1, 2, none⟩) (show w.heap.size ≤ w.heap.size + 1 by omega) _) (p := ⟨w.heap.size + 1, 3, none⟩) (show w.heap.size ≤ w.heap.size + 1 by omega) _) (p := ⟨w.heap.size + 1, 4, none⟩) (show w.heap.size ≤ w.heap.size + 1 by omega) _)
    rw [← e9]
    clear e9
    have q0 : W9.cell? ⟨w.heap.size + 1, 0, none⟩ = some (.int .i64 s.cal) := Z9.cell 0 rfl
    have q1 : W9.cell? ⟨w.heap.size + 1, 1, none⟩ = some (.int .i64 y0) := Z9.cell 1 rfl
    have q2 : W9.cell? ⟨w.heap.size + 1, 2, none⟩ = some (.int .i64 d1) := Z9.cell 2 rfl
    have q3 : W9.cell? ⟨w.heap.size + 1, 3, none⟩ = some (.int .i64 mo) := Z9.cell 3 rfl
    have q4 : W9.cell? ⟨w.heap.size + 1, 4, none⟩ = some (.int .i64 dy) := Z9.cell 4 rfl
    exact bodyPost_ret (by simp [results, Tryz.results59, go_sem, q0, q1, q2, q3, q4]; try rfl) rfl ⟨rfl, B9⟩
end Go.Proofs.YtjojgfdfbkmlkaaGreatDoor.ctr
namespace Go.Proofs.YtjojgfdfbkmlkaaGreatDoor.ctr
open Go.RowKit
theorem boxR (w : World) (cs : Array Value) (t : TypeId) (u : Array Value) (s : TypeId) : ∃ W0, W0 = (w.alloc (.cells cs t)).alloc (.cells u s) ∧ Hid (∀ x : Later W0, Blk x.w w.heap.size cs t) ∧ Hid (∀ x : Later W0, Blk x.w (w.heap.size + 1) u s) ∧ Hid (∀ x : Later W0, Below w.heap.size w x.w) := by
  refine ⟨_, rfl, fun x => ((Blk.new _ _ _).alloc _).later x, fun x => ?_, fun x => below_alloc (below_alloc x.below)⟩
  have h := Blk.new (w.alloc (.cells cs t)) u s
  rw [World.size_alloc] at h
  exact h.later x
set_option maxHeartbeats 2000000 in
theorem specReadNo (v : Value) (r : Rgm) (n : Int) (w : World) (h : GRow w v r) (hn : segAt r.segs n = -1) : Calls Tryz.prog 59 #[v, .int .i64 n] w fun e w' => e = .returned (.tuple #[rdgV rdg0, .bool false]) ∧ Below w.heap.size w w' := by
  have hG := h
  obtain ⟨v1, v2, v3, rfl, _, x1, x2, x3⟩ := h
  obtain ⟨a1, c1, rfl, _⟩ := x1
  obtain ⟨a2, c2, rfl, _⟩ := x2
  obtain ⟨a3, c3, rfl, _⟩ := x3
  obtain ⟨W0, e0, HR, HZ, HB⟩ := boxR w #[.string r.name, .int .i64 r.fr, .int .i64 r.to, .slice a1 r.segs.length c1, .slice a2 r.pats.length c2, .slice a3 r.rgns.length c3, .int .i64 r.rule] 36 #[.int .i64 0, .int .i64 0, .int .i64 0, .int .i64 0, .int .i64 0] 38
  have hG0 : Hid (∀ y : Later W0, GRow y.w (.agg #[.string r.name, .int .i64 r.fr, .int .i64 r.to, .slice a1 r.segs.length c1, .slice a2 r.pats.length c2, .slice a3 r.rgns.length c3, .int .i64 r.rule]) r) := fun y => GRow.below hG (HB.out y)
  have R0 : ∀ y : Later W0, y.w.cell? ⟨w.heap.size, 0, none⟩ = some (.string r.name) := fun y => (HR.out y).cell 0 rfl
  have R1 : ∀ y : Later W0, y.w.cell? ⟨w.heap.size, 1, none⟩ = some (.int .i64 r.fr) := fun y => (HR.out y).cell 1 rfl
  have R2 : ∀ y : Later W0, y.w.cell? ⟨w.heap.size, 2, none⟩ = some (.int .i64 r.to) := fun y => (HR.out y).cell 2 rfl
  have R3 : ∀ y : Later W0, y.w.cell? ⟨w.heap.size, 3, none⟩ = some (.slice a1 r.segs.length c1) := fun y => (HR.out y).cell 3 rfl
  have R4 : ∀ y : Later W0, y.w.cell? ⟨w.heap.size, 4, none⟩ = some (.slice a2 r.pats.length c2) := fun y => (HR.out y).cell 4 rfl
  have R5 : ∀ y : Later W0, y.w.cell? ⟨w.heap.size, 5, none⟩ = some (.slice a3 r.rgns.length c3) := fun y => (HR.out y).cell 5 rfl
  have R6 : ∀ y : Later W0, y.w.cell? ⟨w.heap.size, 6, none⟩ = some (.int .i64 r.rule) := fun y => (HR.out y).cell 6 rfl
  have u0 : ∀ y : Later W0, y.w.cell? ⟨w.heap.size + 1, 0, none⟩ = some (.int .i64 0) := fun y => (HZ.out y).cell 0 rfl
  have f0 : ∀ y : Later W0, y.w.frozen? ⟨w.heap.size + 1, 0, none⟩ = false := fun y => (HZ.out y).thaw 0
  have u1 : ∀ y : Later W0, y.w.cell? ⟨w.heap.size + 1, 1, none⟩ = some (.int .i64 0) := fun y => (HZ.out y).cell 1 rfl
  have f1 : ∀ y : Later W0, y.w.frozen? ⟨w.heap.size + 1, 1, none⟩ = false := fun y => (HZ.out y).thaw 1
  have u2 : ∀ y : Later W0, y.w.cell? ⟨w.heap.size + 1, 2, none⟩ = some (.int .i64 0) := fun y => (HZ.out y).cell 2 rfl
  have f2 : ∀ y : Later W0, y.w.frozen? ⟨w.heap.size + 1, 2, none⟩ = false := fun y => (HZ.out y).thaw 2
  have u3 : ∀ y : Later W0, y.w.cell? ⟨w.heap.size + 1, 3, none⟩ = some (.int .i64 0) := fun y => (HZ.out y).cell 3 rfl
  have f3 : ∀ y : Later W0, y.w.frozen? ⟨w.heap.size + 1, 3, none⟩ = false := fun y => (HZ.out y).thaw 3
  have u4 : ∀ y : Later W0, y.w.cell? ⟨w.heap.size + 1, 4, none⟩ = some (.int .i64 0) := fun y => (HZ.out y).cell 4 rfl
  have f4 : ∀ y : Later W0, y.w.frozen? ⟨w.heap.size + 1, 4, none⟩ = false := fun y => (HZ.out y).thaw 4
  have E0 := hideP e0
  have KS : ∀ y : Later W0, Calls Tryz.prog 110 #[.agg #[.string r.name, .int .i64 r.fr, .int .i64 r.to, .slice a1 r.segs.length c1, .slice a2 r.pats.length c2, .slice a3 r.rgns.length c3, .int .i64 r.rule], .int .i64 n] y.w fun e w' => e = .returned (.int .i64 (-1)) ∧ Below y.w.heap.size y.w w' := fun y => by
    have k := specSegAt _ r n y.w (hG0.out y)
    rw [hn] at k
    exact k
  clear e0 hG hn
  go_enter Tryz.func59, Tryz.ntmps59
  go_wp2_with fail
  rw [← E0.out]
  refine (KS ⟨W0, Below.refl _ _⟩).mono ?_
  rintro e w1 ⟨rfl, hb⟩
  obtain ⟨x1, rfl⟩ := Later.of hb
  clear hb
  go_wp2
  obtain ⟨W9, e9⟩ : ∃ W9, W9 = ((((x1.w.setCell ⟨w.heap.size + 1, 0, none⟩ (.int .i64 0)).setCell ⟨w.heap.size + 1, 1, none⟩ (.int .i64 0)).setCell ⟨w.heap.size + 1, 2, none⟩ (.int .i64 0)).setCell ⟨w.heap.size + 1, 3, none⟩ (.int .i64 0)).setCell ⟨w.heap.size + 1, 4, none⟩ (.int .i64 0) := ⟨_, rfl⟩
  have Z9 : Blk W9 (w.heap.size + 1) #[.int .i64 0, .int .i64 0, .int .i64 0, .int .i64 0, .int .i64 0] 38 := by rw [e9]; exact ((((((HZ.out x1).set 0 _).set 1 _).set 2 _).set 3 _).set 4 _)
  have B9 : Below w.heap.size w W9 := by rw [e9]; exact (Below.setCell (Below.setCell (Below.setCell (Below.setCell (Below.setCell (HB.out x1) (p := ⟨w.heap.size + 1, 0, none⟩) (show w.heap.size ≤ w.heap.size + 1 by omega) _) (p := ⟨w.heap.size + 1, 1, none⟩) (show w.heap.size ≤ w.heap.size + 1 by omega) _) (p := ⟨w.heap.size + 1, 2, none⟩) (show w.heap.size ≤ w.heap.size + 1 by omega) _) (p := ⟨w.heap.size + 1, 3, none⟩) (show w.heap.size ≤ w.heap.size + 1 by omega) _) (p := ⟨w.heap.size + 1, 4, none⟩) (show w.heap.size ≤ w.heap.size + 1 by omega) _)
  rw [← e9]
  clear e9
  have q0 : W9.cell? ⟨w.heap.size + 1, 0, none⟩ = some (.int .i64 0) := Z9.cell 0 rfl
  have q1 : W9.cell? ⟨w.heap.size + 1, 1, none⟩ = some (.int .i64 0) := Z9.cell 1 rfl
  have q2 : W9.cell? ⟨w.heap.size + 1, 2, none⟩ = some (.int .i64 0) := Z9.cell 2 rfl
  have q3 : W9.cell? ⟨w.heap.size + 1, 3, none⟩ = some (.int .i64 0) := Z9.cell 3 rfl
  have q4 : W9.cell? ⟨w.heap.size + 1, 4, none⟩ = some (.int .i64 0) := Z9.cell 4 rfl
  exact bodyPost_ret (by simp [results, Tryz.results59, go_sem, q0, q1, q2, q3, q4]; try rfl) rfl ⟨rfl, B9⟩
end Go.Proofs.YtjojgfdfbkmlkaaGreatDoor.ctr
namespace Go.Proofs.YtjojgfdfbkmlkaaGreatDoor.ctr
open Go.RowKit
theorem day_in {r : Rgm} {n : Int} (h : regimeB r = true) (h1 : r.fr ≤ n) (h2 : n ≤ r.to) : 400 ≤ n ∧ n ≤ 1090000 := by
  rcases segAt_cases r.segs n with ⟨k, _⟩ | ⟨j, hj, k, k1, k2⟩
  · have := (seg_fact h n).2 ⟨h1, h2⟩; omega
  · have := segOk_nums (right_seg h hj).1; omega
theorem plainR_yes {c : Int} {x : Rdg} (h : dateOk c x.sol x.mon x.day = true) : plainR c x = .tuple #[.agg #[.int .i64 c, .int .i64 x.sol, .int .i64 x.mon, .int .i64 x.day], .bool true] := by unfold plainR; rw [if_pos h]
theorem plainR_no {c : Int} {x : Rdg} (h : ¬ dateOk c x.sol x.mon x.day = true) : plainR c x = .tuple #[.agg #[.int .i64 0, .int .i64 0, .int .i64 0, .int .i64 0], .bool false] := by unfold plainR; rw [if_neg h]
end Go.Proofs.YtjojgfdfbkmlkaaGreatDoor.ctr
namespace Go.Proofs.YtjojgfdfbkmlkaaGreatDoor.ctr
open Go.RowKit
theorem date_parts {c n Y m d : Int} (h : dateOf c n = (c, Y, m, d, true)) : (c = 0 ∨ c = 1) ∧ 1 ≤ Y ∧ Y ≤ 3000 ∧ 1 ≤ m ∧ m ≤ 12 ∧ 1 ≤ d ∧ d ≤ monthDays c Y m ∧ d ≤ 31 ∧ first c Y ≤ n ∧ n < first c (Y + 1) ∧ lineD c Y m d = n := by
  obtain ⟨_, hd, hn⟩ := date_back h
  have hl := line_in hd.1 (dateP_month hd).1 (dateP_month hd).2 hd.2.2.2.1 hd.2.2.2.2
  rw [lineD_dayOf hd] at hn
  rw [hn] at hl
  exact ⟨hd.1, hd.2.1, hd.2.2.1, (dateP_month hd).1, (dateP_month hd).2, hd.2.2.2.1, hd.2.2.2.2, (dateP_day hd).2, hl.1, hl.2, hn⟩
theorem date_between {c a n b Y0 m0 d0 Y1 m1 d1 : Int} (ha : dateOf c a = (c, Y0, m0, d0, true)) (hb : dateOf c b = (c, Y1, m1, d1, true)) (h1 : a ≤ n) (h2 : n ≤ b) : ∃ Y m d, dateOf c n = (c, Y, m, d, true) := by
  obtain ⟨hc, y1, _, _, _, _, _, _, f1, _, _⟩ := date_parts ha
  obtain ⟨_, _, y2, _, _, _, _, _, _, f2, _⟩ := date_parts hb
  have g1 := first_le' hc y1
  have g2 := first_le' hc (show Y1 + 1 ≤ 3001 by omega)
  obtain ⟨n1, n2, z1, z2⟩ := year_in hc (show first c 1 ≤ n by omega) (show n < first c 3001 by omega)
  exact ⟨_, _, _, dateOf_yes hc n1 n2 rfl rfl z1 z2⟩
def datedP (c n : Int) : Prop := (dateOf c n).2.2.2.2 = true
def reignP (c s f t n : Int) : Prop := f ≤ n ∧ n ≤ t ∧ styleP s ∧ datedP c f ∧ datedP c n
noncomputable instance (c s f t n : Int) : Decidable (reignP c s f t n) := Classical.propDecidable _
end Go.Proofs.YtjojgfdfbkmlkaaGreatDoor.ctr
namespace Go.Proofs.YtjojgfdfbkmlkaaGreatDoor.ctr
open Go.RowKit
theorem whn_cases {k m d a b c : Int} {t : Bool} {f : ByteArray} {p : Int} (h : whnB ⟨k, m, d, ⟨a, b, c, t⟩, f, p⟩ = true) :
    (k = 0 ∧ a = 0 ∧ b = 0 ∧ c = 0 ∧ t = false ∧ f = ⟨#[]⟩ ∧ p = 0 ∧ 1 ≤ m ∧ m ≤ 12 ∧ 1 ≤ d ∧ d ≤ 31) ∨ (k = 1 ∧ m = 0 ∧ d = 0 ∧ f = ⟨#[]⟩ ∧ p = 0 ∧ romB ⟨a, b, c, t⟩ = true) ∨ (k = 2 ∧ m = 0 ∧ d = 0 ∧ a = 0 ∧ b = 0 ∧ c = 0 ∧ t = false ∧ 0 ≤ findFeast f ∧ 0 ≤ p ∧ p ≤ 99) := by
  by_cases h0 : k = 0
  · subst h0
    rw [whnB_0] at h
    simp [inB] at h
    refine .inl ⟨rfl, ?_⟩
    obtain ⟨⟨⟨ha, hb, hc, ht⟩, hf, hp⟩, ⟨m1, m2⟩, d1, d2⟩ := h
    exact ⟨ha, hb, hc, ht, toList_nil hf, hp, m1, m2, d1, d2⟩
  by_cases h1 : k = 1
  · subst h1
    rw [whnB_1] at h
    simp at h
    refine .inr (.inl ⟨rfl, ?_⟩)
    obtain ⟨⟨⟨hm, hd⟩, hf, hp⟩, hr⟩ := h
    exact ⟨hm, hd, toList_nil hf, hp, hr⟩
  by_cases h2 : k = 2
  · subst h2
    rw [whnB_2] at h
    simp [inB] at h
    refine .inr (.inr ⟨rfl, ?_⟩)
    obtain ⟨⟨⟨hm, hd⟩, ha, hb, hc, ht⟩, hz, p1, p2⟩ := h
    exact ⟨hm, hd, ha, hb, hc, ht, hz, p1, p2⟩
  rw [whnB_no h0 h1 h2] at h
  cases h
end Go.Proofs.YtjojgfdfbkmlkaaGreatDoor.ctr
namespace Go.Proofs.YtjojgfdfbkmlkaaGreatDoor.ctr
open Go.RowKit
noncomputable def segN (r : Rgm) (n : Int) : Seg := atK segK r.segs (segAt r.segs n).toNat
theorem segN_nums {r : Rgm} {n : Int} (hr : regimeB r = true) (h1 : r.fr ≤ n) (h2 : n ≤ r.to) : ((segN r n).cal = 0 ∨ (segN r n).cal = 1) ∧ -3 ≤ (segN r n).off ∧ (segN r n).off ≤ 3 := by
  have h0 := (seg_fact hr n).2 ⟨h1, h2⟩
  rcases segAt_cases r.segs n with ⟨h3, _⟩ | ⟨j, hj, h3, h4, h5⟩
  · omega
  · obtain ⟨_, _, _, hc, _, o1, o2⟩ := segOk_nums (right_seg hr hj).1
    unfold segN
    rw [h3, Int.toNat_natCast]
    exact ⟨hc, o1, o2⟩
theorem line_ends : dayOf 0 1 1 1 = -1 ∧ dayOf 1 1 1 1 = 1 ∧ dayOf 0 3000 12 31 = 1095748 ∧ dayOf 1 3000 12 31 = 1095727 := by decide +kernel
theorem line_dates : dateP 0 1 1 1 ∧ dateP 1 1 1 1 ∧ dateP 0 3000 12 31 ∧ dateP 1 3000 12 31 := by decide +kernel
theorem mid_date {c n : Int} (hc : c = 0 ∨ c = 1) (h1 : 300 ≤ n) (h2 : n ≤ 1091000) : ∃ Y m d, dateOf c n = (c, Y, m, d, true) := by
  obtain ⟨e0, e1, e2, e3⟩ := line_ends
  obtain ⟨p0, p1, p2, p3⟩ := line_dates
  rcases hc with rfl | rfl
  · exact date_between (day_back p0) (day_back p2) (by omega) (by omega)
  · exact date_between (day_back p1) (day_back p3) (by omega) (by omega)
noncomputable def whenIsB (r : Rgm) (wh : Whn) (n : Int) : Bool :=
  if wh.kind = 0 then ((rdgOn r n).mon == wh.mon && (rdgOn r n).day == wh.day)
  else if 0 ≤ patAt r.pats n then false
  else if wh.kind = 1 then romEq (romanOf (segN r n).cal (dateOf (segN r n).cal (n + (segN r n).off)).2.1 (dateOf (segN r n).cal (n + (segN r n).off)).2.2.1 (dateOf (segN r n).cal (n + (segN r n).off)).2.2.2.1) wh.rom
  else (feaDay (segN r n).cal (dateOf (segN r n).cal (n + (segN r n).off)).2.1 (feaOf wh.feast).name (feaOf wh.feast).mv (feaOf wh.feast).off (feaOf wh.feast).m (feaOf wh.feast).d + wh.plus == n + (segN r n).off)
noncomputable def headB (x : Rdg) (s : Say) : Bool := x.year == s.year && ((s.sol == -1 || x.sol == s.sol) && (s.cal == -1 || x.cal == s.cal))
noncomputable def saidB (r : Rgm) (s : Say) (n : Int) : Bool := headB (rdgOn r n) s && whenIsB r s.whn n
theorem rdg_date {r : Rgm} {n : Int} (hr : regimeB r = true) (h1 : r.fr ≤ n) (h2 : n ≤ r.to) (hp : ¬ 0 ≤ patAt r.pats n) :
    ∃ Y m d, dateOf (segN r n).cal (n + (segN r n).off) = ((segN r n).cal, Y, m, d, true) ∧ (rdgOn r n).cal = (segN r n).cal ∧ (rdgOn r n).sol = Y ∧ (rdgOn r n).mon = m ∧ (rdgOn r n).day = d ∧ dateOk (segN r n).cal Y m d = true ∧ dayOf (segN r n).cal Y m d = n + (segN r n).off := by
  obtain ⟨hc, o1, o2⟩ := segN_nums hr h1 h2
  obtain ⟨n1, n2⟩ := day_in hr h1 h2
  obtain ⟨Y, m, d, he⟩ := mid_date hc (n := n + (segN r n).off) (by omega) (by omega)
  obtain ⟨_, hd, hb⟩ := date_back he
  refine ⟨Y, m, d, he, rfl, ?_, ?_, ?_, by unfold dateOk; exact decide_eq_true hd, hb⟩
  · show (dateOf (segN r n).cal (n + (segN r n).off)).2.1 = Y
    rw [he]
  · show (if 0 ≤ patAt r.pats n then _ else (dateOf (segN r n).cal (n + (segN r n).off)).2.2.1) = m
    rw [if_neg hp, he]
  · show (if 0 ≤ patAt r.pats n then _ else (dateOf (segN r n).cal (n + (segN r n).off)).2.2.2.1) = d
    rw [if_neg hp, he]
theorem plain_tuple (c : Int) (x : Rdg) : ∃ e0 e1 e2 e3 ok, plainR c x = .tuple #[.agg #[.int .i64 e0, .int .i64 e1, .int .i64 e2, .int .i64 e3], .bool ok] := by
  by_cases h : dateOk c x.sol x.mon x.day = true
  · exact ⟨_, _, _, _, _, plainR_yes h⟩
  · exact ⟨_, _, _, _, _, plainR_no h⟩
end Go.Proofs.YtjojgfdfbkmlkaaGreatDoor.ctr
namespace Go.Proofs.YtjojgfdfbkmlkaaGreatDoor.ctr
def DSet (xs : List Int) (P : Int → Prop) : Prop := xs.Pairwise (· < ·) ∧ ∀ z, z ∈ xs ↔ P z
theorem dset_same : ∀ {xs ys : List Int}, xs.Pairwise (· < ·) → ys.Pairwise (· < ·) → (∀ z, z ∈ xs ↔ z ∈ ys) → xs = ys
  | [], [], _, _, _ => rfl
  | [], y :: ys, _, _, h => absurd ((h y).2 (List.mem_cons_self ..)) List.not_mem_nil
  | x :: xs, [], _, _, h => absurd ((h x).1 (List.mem_cons_self ..)) List.not_mem_nil
  | x :: xs, y :: ys, hx, hy, h => by
    obtain ⟨x1, x2⟩ := List.pairwise_cons.1 hx
    obtain ⟨y1, y2⟩ := List.pairwise_cons.1 hy
    have e : x = y := by
      have a := (h x).1 (List.mem_cons_self ..)
      have b := (h y).2 (List.mem_cons_self ..)
      rcases List.mem_cons.1 a with a | a
      · exact a
      · rcases List.mem_cons.1 b with b | b
        · exact b.symm
        · have := x1 _ b
          have := y1 _ a
          omega
    subst e
    rw [dset_same x2 y2 (fun z => ⟨fun hz => by
        rcases List.mem_cons.1 ((h z).1 (List.mem_cons_of_mem _ hz)) with e | e
        · have := x1 _ hz; omega
        · exact e, fun hz => by
        rcases List.mem_cons.1 ((h z).2 (List.mem_cons_of_mem _ hz)) with e | e
        · have := y1 _ hz; omega
        · exact e⟩)]
theorem DSet.eq {xs ys : List Int} {P : Int → Prop} (h : DSet xs P) (k : DSet ys P) : xs = ys := dset_same h.1 k.1 (fun z => (h.2 z).trans (k.2 z).symm)
theorem DSet.imp {xs : List Int} {P Q : Int → Prop} (h : DSet xs P) (k : ∀ z, P z ↔ Q z) : DSet xs Q := ⟨h.1, fun z => (h.2 z).trans (k z)⟩
theorem dset_nil {P : Int → Prop} (h : ∀ z, ¬ P z) : DSet [] P := ⟨List.Pairwise.nil, fun z => ⟨fun k => absurd k List.not_mem_nil, fun k => absurd k (h z)⟩⟩
theorem DSet.snoc {xs : List Int} {P Q : Int → Prop} {n : Int} (h : DSet xs P) (hn : ∀ z, P z → z < n) (hq : ∀ z, Q z ↔ P z ∨ z = n) : DSet (xs ++ [n]) Q := by
  refine ⟨List.pairwise_append.2 ⟨h.1, List.pairwise_singleton _ _, fun a ha b hb => ?_⟩, fun z => ?_⟩
  · rw [List.mem_singleton.1 hb]
    exact hn _ ((h.2 a).1 ha)
  · rw [List.mem_append, List.mem_singleton, h.2, hq]
def daysWhere (a b : Int) (p : Int → Bool) : List Int := ((List.range (b - a + 1).toNat).map (fun i : Nat => a + (i : Int))).filter p
theorem daysWhere_set (a b : Int) (p : Int → Bool) : DSet (daysWhere a b p) (fun z => a ≤ z ∧ z ≤ b ∧ p z = true) := by
  unfold daysWhere
  refine ⟨List.Pairwise.filter _ (List.pairwise_map.2 (List.Pairwise.imp (fun h => by omega) List.pairwise_lt_range)), fun z => ?_⟩
  rw [List.mem_filter, List.mem_map]
  constructor
  · rintro ⟨⟨i, hi, rfl⟩, hp⟩
    have := List.mem_range.1 hi
    exact ⟨by omega, by omega, hp⟩
  · rintro ⟨h1, h2, hp⟩
    exact ⟨⟨(z - a).toNat, List.mem_range.2 (by omega), by omega⟩, hp⟩
theorem daysWhere_len (a b : Int) (p : Int → Bool) : (daysWhere a b p).length ≤ (b - a + 1).toNat := by
  unfold daysWhere
  refine Nat.le_trans (List.length_filter_le ..) ?_
  simp
theorem dset_len {xs : List Int} {P : Int → Prop} {a b : Int} (h : DSet xs P) (hp : ∀ z, P z → a ≤ z ∧ z ≤ b) : xs.length ≤ (b - a + 1).toNat := by
  have e : xs = daysWhere a b (fun z => decide (z ∈ xs)) := DSet.eq (P := fun z => z ∈ xs) ⟨h.1, fun z => Iff.rfl⟩ ((daysWhere_set a b _).imp (fun z => ⟨fun k => of_decide_eq_true k.2.2, fun k => ⟨(hp z ((h.2 z).1 k)).1, (hp z ((h.2 z).1 k)).2, decide_eq_true k⟩⟩))
  rw [e]
  exact daysWhere_len a b _
end Go.Proofs.YtjojgfdfbkmlkaaGreatDoor.ctr
namespace Go.Proofs.YtjojgfdfbkmlkaaGreatDoor.ctr
open Go.RowKit
theorem rdg_at {r : Rgm} (hr : regimeB r = true) {n : Int} {j : Nat} (hj : j < r.segs.length) (h1 : (atK segK r.segs j).fr ≤ n) (h2 : n ≤ (atK segK r.segs j).to) : rdgOn r n = rdgAt r (atK segK r.segs j) n := by
  unfold rdgOn
  rw [seg_one hr hj h1 h2, Int.toNat_natCast]
theorem sty_val {c s n y : Int} (hy : 1 ≤ y) (h : (styYear c s n).1 = y) : styYear c s n = (y, true) := by
  unfold styYear at h ⊢
  split
  · rename_i k
    rw [if_pos k] at h
    rw [← h]
  · rename_i k
    rw [if_neg k] at h
    simp only at h
    omega
def spanF (s : Seg) (y : Int) : Int := max s.fr (start s.cal s.sty y - s.off)
def spanT (s : Seg) (y : Int) : Int := min s.to (start s.cal s.sty (y + 1) - 1 - s.off)
theorem year_span {r : Rgm} (hr : regimeB r = true) {n : Int} {j : Nat} (hj : j < r.segs.length) (h1 : (atK segK r.segs j).fr ≤ n) (h2 : n ≤ (atK segK r.segs j).to) {y : Int} (y1 : 1 ≤ y) (y2 : y ≤ 3000) : (rdgOn r n).year = y ↔ spanF (atK segK r.segs j) y ≤ n ∧ n ≤ spanT (atK segK r.segs j) y := by
  obtain ⟨n1, n2, n3, n4, n7, n5, n6⟩ := segOk_nums (right_seg hr hj).1
  obtain ⟨Y, M, D, he⟩ := mid_date n4 (n := n + (atK segK r.segs j).off) (by omega) (by omega)
  have hs : styleP (atK segK r.segs j).sty := of_decide_eq_true n7
  rw [rdg_at hr hj h1 h2]
  unfold spanF spanT
  constructor
  · intro h
    have := (sty_iff n4 he).1 (sty_val y1 h)
    omega
  · rintro ⟨g1, g2⟩
    have := (sty_iff n4 he).2 ⟨hs, y1, y2, by omega, by omega⟩
    show (styYear _ _ _).1 = y
    rw [this]
theorem span_near (s : Seg) (y : Int) : s.fr ≤ spanF s y ∧ spanT s y ≤ s.to := by
  unfold spanF spanT
  omega
def SgO (r : Rgm) (p : Int → Bool) (i : Nat) (z : Int) : Prop := (∃ k, k < i ∧ (atK segK r.segs k).fr ≤ z ∧ z ≤ (atK segK r.segs k).to) ∧ p z = true
def SgP (r : Rgm) (p : Int → Bool) (i : Nat) (n z : Int) : Prop := ((∃ k, k < i ∧ (atK segK r.segs k).fr ≤ z ∧ z ≤ (atK segK r.segs k).to) ∨ ((atK segK r.segs i).fr ≤ z ∧ z ≤ (atK segK r.segs i).to ∧ z < n)) ∧ p z = true
section
variable {r : Rgm} {p : Int → Bool} {y : Int} {xs : List Int} {i : Nat} {n : Int}
theorem sg_nil : DSet [] (SgO r p 0) := dset_nil (fun z h => by obtain ⟨⟨k, hk, _⟩, _⟩ := h; omega)
theorem sg_open (hr : regimeB r = true) (hi : i < r.segs.length) (y1 : 1 ≤ y) (y2 : y ≤ 3000) (hp : ∀ z, p z = true → (rdgOn r z).year = y) (h : DSet xs (SgO r p i)) : DSet xs (SgP r p i (spanF (atK segK r.segs i) y)) := by
  refine h.imp (fun z => ⟨fun k => ⟨.inl k.1, k.2⟩, fun k => ?_⟩)
  rcases k with ⟨k | ⟨k1, k2, k3⟩, k4⟩
  · exact ⟨k, k4⟩
  · have := (year_span hr hi k1 k2 y1 y2).1 (hp z k4)
    omega
theorem sg_close (hr : regimeB r = true) (hi : i < r.segs.length) (y1 : 1 ≤ y) (y2 : y ≤ 3000) (hp : ∀ z, p z = true → (rdgOn r z).year = y) (hn : spanT (atK segK r.segs i) y < n) (h : DSet xs (SgP r p i n)) : DSet xs (SgO r p (i + 1)) := by
  refine h.imp (fun z => ⟨fun k => ?_, fun k => ?_⟩)
  · rcases k with ⟨⟨k, hk, k1, k2⟩ | ⟨k1, k2, k3⟩, k4⟩
    · exact ⟨⟨k, by omega, k1, k2⟩, k4⟩
    · exact ⟨⟨i, by omega, k1, k2⟩, k4⟩
  · obtain ⟨⟨k, hk, k1, k2⟩, k4⟩ := k
    by_cases e : k = i
    · subst e
      have := (year_span hr hi k1 k2 y1 y2).1 (hp z k4)
      exact ⟨.inr ⟨k1, k2, by omega⟩, k4⟩
    · exact ⟨.inl ⟨k, by omega, k1, k2⟩, k4⟩
theorem sg_miss (hp : p n = false) (h : DSet xs (SgP r p i n)) : DSet xs (SgP r p i (n + 1)) := by
  refine h.imp (fun z => ⟨fun k => ?_, fun k => ?_⟩)
  · rcases k with ⟨k | ⟨k1, k2, k3⟩, k4⟩
    · exact ⟨.inl k, k4⟩
    · exact ⟨.inr ⟨k1, k2, by omega⟩, k4⟩
  · rcases k with ⟨k | ⟨k1, k2, k3⟩, k4⟩
    · exact ⟨.inl k, k4⟩
    · by_cases e : z = n
      · subst e
        rw [hp] at k4
        cases k4
      · exact ⟨.inr ⟨k1, k2, by omega⟩, k4⟩
theorem sg_hit (hr : regimeB r = true) (hi : i < r.segs.length) (h1 : (atK segK r.segs i).fr ≤ n) (h2 : n ≤ (atK segK r.segs i).to) (hp : p n = true) (h : DSet xs (SgP r p i n)) : DSet (xs ++ [n]) (SgP r p i (n + 1)) := by
  refine h.snoc (fun z k => ?_) (fun z => ⟨fun k => ?_, fun k => ?_⟩)
  · rcases k with ⟨⟨k, hk, k1, k2⟩ | ⟨k1, k2, k3⟩, k4⟩
    · have := right_far hr hk hi
      omega
    · exact k3
  · rcases k with ⟨k | ⟨k1, k2, k3⟩, k4⟩
    · exact .inl ⟨.inl k, k4⟩
    · by_cases e : z = n
      · exact .inr e
      · exact .inl ⟨.inr ⟨k1, k2, by omega⟩, k4⟩
  · rcases k with ⟨k | ⟨k1, k2, k3⟩, k4⟩ | rfl
    · exact ⟨.inl k, k4⟩
    · exact ⟨.inr ⟨k1, k2, by omega⟩, k4⟩
    · exact ⟨.inr ⟨h1, h2, by omega⟩, hp⟩
theorem sg_in (hr : regimeB r = true) (hi : i < r.segs.length) {z : Int} (h : SgP r p i n z) : r.fr ≤ z ∧ z ≤ r.to ∧ 400 ≤ z ∧ z ≤ 1090000 := by
  rcases h with ⟨⟨k, hk, k1, k2⟩ | ⟨k1, k2, k3⟩, k4⟩
  · have a := right_seg hr (k := k) (by omega)
    have b := segOk_nums a.1
    omega
  · have a := right_seg hr hi
    have b := segOk_nums a.1
    omega
theorem sg_len (hr : regimeB r = true) (hi : i < r.segs.length) (h : DSet xs (SgP r p i n)) : xs.length ≤ 1090000 := by
  have := dset_len h (a := 400) (b := 1090000) (fun z k => by have := sg_in hr hi k; omega)
  omega
theorem sg_all (hr : regimeB r = true) (h : DSet xs (SgO r p r.segs.length)) : xs = daysWhere r.fr r.to p := by
  refine h.eq ((daysWhere_set r.fr r.to p).imp (fun z => ⟨fun k => ?_, fun k => ?_⟩))
  · obtain ⟨k1, k2, k3⟩ := k
    rcases segAt_cases r.segs z with ⟨h3, _⟩ | ⟨j, hj, _, h4, h5⟩
    · have := (seg_fact hr z).2 ⟨k1, k2⟩
      omega
    · exact ⟨⟨j, hj, h4, h5⟩, k3⟩
  · obtain ⟨⟨k, hk, k1, k2⟩, k3⟩ := k
    have a := right_seg hr hk
    exact ⟨by omega, by omega, k3⟩
end
noncomputable def daysSaid (r : Rgm) (s : Say) : List Int := if regimeB r = true ∧ sayB s = true then daysWhere r.fr r.to (saidB r s) else []
theorem said_year {r : Rgm} {s : Say} (z : Int) (h : saidB r s z = true) : (rdgOn r z).year = s.year := by
  unfold saidB headB at h
  simp only [Bool.and_eq_true, beq_iff_eq] at h
  exact h.1.1
theorem say_year {s : Say} (h : sayB s = true) : 1 ≤ s.year ∧ s.year ≤ 3000 := by
  unfold sayB at h
  simp only [Bool.and_eq_true] at h
  exact of_inB h.2.1
theorem right_len {r : Rgm} (hr : regimeB r = true) (p : Int → Bool) : (daysWhere r.fr r.to p).length ≤ 1090000 := by
  have a := right_segs hr
  have h := daysWhere_set r.fr r.to p
  have := dset_len h (a := 400) (b := 1090000) (fun z k => by
    rcases segAt_cases r.segs z with ⟨h3, _⟩ | ⟨j, hj, _, h4, h5⟩
    · have := (seg_fact hr z).2 ⟨k.1, k.2.1⟩
      omega
    · have b := segOk_nums (right_seg hr hj).1
      omega)
  omega
theorem said_len (r : Rgm) (s : Say) : (daysSaid r s).length ≤ 1090000 := by
  unfold daysSaid
  split
  · rename_i h
    exact right_len h.1 _
  · simp
end Go.Proofs.YtjojgfdfbkmlkaaGreatDoor.ctr
namespace Go.Proofs.YtjojgfdfbkmlkaaGreatDoor.ctr
open Go.RowKit
noncomputable def dIn (wh : Whn) (c y : Int) : Int :=
  if wh.kind = 0 then dayOf c y wh.mon wh.day
  else if wh.kind = 1 then dayOf (dayOfRoman c y wh.rom).1 (dayOfRoman c y wh.rom).2.1 (dayOfRoman c y wh.rom).2.2.1 (dayOfRoman c y wh.rom).2.2.2
  else feaDay c y (feaOf wh.feast).name (feaOf wh.feast).mv (feaOf wh.feast).off (feaOf wh.feast).m (feaOf wh.feast).d + wh.plus
noncomputable def candAt (r : Rgm) (s : Say) (k i : Nat) : Int := dIn s.whn (atK segK r.segs k).cal (s.year - 1 + (i : Int)) - (atK segK r.segs k).off
def WD (r : Rgm) (s : Say) (j i : Nat) (xs : List Int) : Prop := (∀ z ∈ xs, ∃ k, k < r.segs.length ∧ (atK segK r.segs k).fr ≤ z ∧ z ≤ (atK segK r.segs k).to) ∧ (∀ k' i', (k' < j ∧ i' < 3 ∨ k' = j ∧ i' < i) → k' < r.segs.length → (atK segK r.segs k').fr ≤ candAt r s k' i' → candAt r s k' i' ≤ (atK segK r.segs k').to → candAt r s k' i' ∈ xs) ∧ xs.length ≤ 3 * j + i
section
variable {r : Rgm} {s : Say} {j i : Nat} {xs : List Int}
theorem wd_nil : WD r s 0 0 [] := ⟨fun z h => absurd h List.not_mem_nil, fun k' i' h => by omega, Nat.zero_le _⟩
theorem WD.next (h : WD r s j 3 xs) : WD r s (j + 1) 0 xs := ⟨h.1, fun k' i' hk => h.2.1 k' i' (by omega), by have := h.2.2; omega⟩
theorem WD.hit (h : WD r s j i xs) (hj : j < r.segs.length) (h1 : (atK segK r.segs j).fr ≤ candAt r s j i) (h2 : candAt r s j i ≤ (atK segK r.segs j).to) : WD r s j (i + 1) (xs ++ [candAt r s j i]) := by
  refine ⟨fun z hz => ?_, fun k' i' hk hl q1 q2 => ?_, by rw [List.length_append]; have := h.2.2; simp; omega⟩
  · rcases List.mem_append.1 hz with hz | hz
    · exact h.1 z hz
    · rw [List.mem_singleton.1 hz]
      exact ⟨j, hj, h1, h2⟩
  · by_cases e : k' = j ∧ i' = i
    · rw [e.1, e.2]
      exact List.mem_append_right _ (List.mem_singleton.2 rfl)
    · exact List.mem_append_left _ (h.2.1 k' i' (by omega) hl q1 q2)
theorem WD.miss (h : WD r s j i xs) (h1 : ¬ ((atK segK r.segs j).fr ≤ candAt r s j i ∧ candAt r s j i ≤ (atK segK r.segs j).to)) : WD r s j (i + 1) xs := by
  refine ⟨h.1, fun k' i' hk hl q1 q2 => ?_, by have := h.2.2; omega⟩
  by_cases e : k' = j ∧ i' = i
  · rw [e.1, e.2] at q1 q2
    exact absurd ⟨q1, q2⟩ h1
  · exact h.2.1 k' i' (by omega) hl q1 q2
end
theorem raw_near (c s Y n : Int) : Y - 1 ≤ rawYear c s Y n ∧ rawYear c s Y n ≤ Y + 1 := by
  unfold rawYear
  split
  · omega
  · split <;> omega
theorem said_cand {r : Rgm} {s : Say} (hr : regimeB r = true) (hs : sayB s = true) {n : Int} {j : Nat} (hj : j < r.segs.length) (h1 : (atK segK r.segs j).fr ≤ n) (h2 : n ≤ (atK segK r.segs j).to) (hp : ¬ 0 ≤ patAt r.pats n) (h : saidB r s n = true) : ∃ i, i < 3 ∧ candAt r s j i = n := by
  have hin := right_seg hr hj
  have hsg : segN r n = atK segK r.segs j := by unfold segN; rw [seg_one hr hj h1 h2, Int.toNat_natCast]
  obtain ⟨Y, M, D, he, hc, hY, hM, hD, hok, hday⟩ := rdg_date hr (n := n) (by omega) (by omega) hp
  rw [hsg] at he hc hok hday
  obtain ⟨n1, n2, n3, n4, n7, n5, n6⟩ := segOk_nums hin.1
  obtain ⟨y1, y2⟩ := say_year hs
  have hyr := said_year n h
  rw [rdg_at hr hj h1 h2] at hyr
  have hsy := sty_val y1 (show (styYear (atK segK r.segs j).cal (atK segK r.segs j).sty (n + (atK segK r.segs j).off)).1 = s.year from hyr)
  have hnear : Y - 1 ≤ s.year ∧ s.year ≤ Y + 1 := by
    unfold styYear at hsy
    rw [he] at hsy
    split at hsy
    · have := raw_near (atK segK r.segs j).cal (atK segK r.segs j).sty Y (n + (atK segK r.segs j).off)
      have e : rawYear (atK segK r.segs j).cal (atK segK r.segs j).sty Y (n + (atK segK r.segs j).off) = s.year := congrArg Prod.fst hsy
      omega
    · have e : (0 : Int) = s.year := congrArg Prod.fst hsy
      omega
  obtain ⟨i, hi3, hi⟩ : ∃ i : Nat, i < 3 ∧ s.year - 1 + (i : Int) = Y := ⟨(Y - (s.year - 1)).toNat, by omega, by omega⟩
  refine ⟨i, hi3, ?_⟩
  have hwh : whenIsB r s.whn n = true := by unfold saidB at h; simp only [Bool.and_eq_true] at h; exact h.2
  unfold candAt
  rw [hi]
  unfold whenIsB at hwh
  unfold dIn
  rw [hsg, he] at hwh
  by_cases k0 : s.whn.kind = 0
  · rw [if_pos k0] at hwh
    rw [if_pos k0]
    simp only [Bool.and_eq_true, beq_iff_eq] at hwh
    rw [← hwh.1, ← hwh.2, hM, hD, hday]
    omega
  · rw [if_neg k0, if_neg hp] at hwh
    rw [if_neg k0]
    by_cases k1 : s.whn.kind = 1
    · rw [if_pos k1] at hwh
      rw [if_pos k1]
      have hro : romanOf (atK segK r.segs j).cal Y M D = s.whn.rom := by
        unfold romEq at hwh
        simp only [Bool.and_eq_true, beq_iff_eq] at hwh
        obtain ⟨q1, q2, q3, q4⟩ := hwh
        cases hq : romanOf (atK segK r.segs j).cal Y M D
        cases hw : s.whn.rom
        rw [hq] at q1 q2 q3 q4
        rw [hw] at q1 q2 q3 q4
        simp only at q1 q2 q3 q4
        rw [q1, q2, q3, q4]
      have hid : isDay (atK segK r.segs j).cal Y s.whn.rom M D := ⟨of_decide_eq_true hok, hro⟩
      rw [romDay_yes hid]
      show dayOf (atK segK r.segs j).cal Y M D - _ = n
      rw [hday]
      omega
    · rw [if_neg k1] at hwh
      rw [if_neg k1]
      have e := eq_of_beq hwh
      dsimp only at e
      omega
theorem said_all {r : Rgm} {s : Say} (hr : regimeB r = true) (hs : sayB s = true) {xs : List Int} (h : WD r s r.segs.length 0 xs) {n : Int} (h1 : r.fr ≤ n) (h2 : n ≤ r.to) (hn : saidB r s n = true) : n ∈ xs ∨ 0 ≤ patAt r.pats n := by
  by_cases hp : 0 ≤ patAt r.pats n
  · exact .inr hp
  refine .inl ?_
  rcases segAt_cases r.segs n with ⟨h3, _⟩ | ⟨j, hj, _, h4, h5⟩
  · have := (seg_fact hr n).2 ⟨h1, h2⟩
    omega
  · obtain ⟨i, hi, e⟩ := said_cand hr hs hj h4 h5 hp hn
    have := h.2.1 j i (.inl ⟨hj, hi⟩) hj (by rw [e]; exact h4) (by rw [e]; exact h5)
    rw [e] at this
    exact this
end Go.Proofs.YtjojgfdfbkmlkaaGreatDoor.ctr
