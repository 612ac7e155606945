/- A region that draws its order, one of whose calls may end in a panic. Contract of the program's readingOn: in a right regime, at a day of it, its reading. Contract of the model's l11Read: in a right regime, at a day of it, its reading. -/
import Derived.Test.YtdgolaaheakfoaaGreatDoorJnSad
import Derived.Deep.RegionHeld2
import Derived.Test.YtdgolaaheakfoaaGreatDoorJnSbb
import Derived.Test.YtdgolaaheakfoaaGreatDoorJnSbd
import Derived.Test.YtdgolaaheakfoaaGreatDoorJnSat
namespace Go.Proofs.YtdgolaaheakfoaaGreatDoor.ctr
open Go.RowKit
section
variable {P : Program} {ops : Array Oper} {Q : Exit → Act → World → Prop}
theorem held_take {md : Region.Mode} {S : World → Prop} {i : Nat} {d : Tmp} {oi : Oper} {v : Value} {fuel : Nat} {listed : Array Bool} {a : Act} {w : World} (hi : ops[i]? = some oi) (hd : oi.dst = some d) (hs : Region.noSelect ops = true) (hf : Region.free md ops listed i = true) (hr : (Region.ready md ops listed).contains i = true) (hQ : ∀ c a w, Q (.panic c) (a.put (some d) v) w → Q (.panic c) a w) (hw : Region.wanted oi (yielded ops a.tmps) = true) (hy : ∀ w, S w → (execOp a.eval oi).run P w = .ok (.value v) w) (hS : S w) (h : wpAnyH P md ops Q S fuel (listed.setIfInBounds i true) (a.put (some d) v) w) : wpAnyH P md ops Q S (fuel + 1) listed a w :=
  wpAnyH_take hi hs hf hr (fun c a' w' h' => by rw [hd] at h'; exact hQ c a' w' h') (Or.inl ⟨hw, hy⟩) hS (by rw [hd]; exact h)
theorem held_one {md : Region.Mode} {S : World → Prop} {f i : Nat} {L : Array Bool} {a : Act} {w : World} (hr : Region.ready md ops L = [i]) (h : wpOp P ops Q i (fun a' w' => S w' ∧ wpAnyH P md ops Q S f (L.setIfInBounds i true) a' w') a w) : wpAnyH P md ops Q S (f + 1) L a w :=
by
  refine ⟨fun q => ?_, fun j hj => ?_⟩
  · rw [hr] at q
    cases q
  · rw [hr] at hj
    obtain rfl := List.mem_singleton.1 hj
    exact h
end
theorem op_skip {P : Program} {ops : Array Oper} {Q : Exit → Act → World → Prop} {i : Nat} {o : Oper} {K : Act → World → Prop} {a : Act} {w w' : World} (hi : ops[i]? = some o) (hd : o.dst = none) (hw : Region.wanted o (yielded ops a.tmps) = true) (hx : (execOp a.eval o).run P w = .ok .skip w') (h : K a w') : wpOp P ops Q i K a w := by
  unfold wpOp
  simp only [hi, hw, if_true]
  left
  unfold Oper.wp
  rw [hx, Oper.upon_skip, hd]
  exact h
end Go.Proofs.YtdgolaaheakfoaaGreatDoor.ctr
namespace Go.Proofs.YtdgolaaheakfoaaGreatDoor.ctr
open Go.RowKit
set_option maxHeartbeats 4000000 in
theorem implReadingOn (v : Value) (r : Rgm) (n : Int) (w : World) (h : GRow w v r) (hr : regimeB r = true) (h1 : r.fr ≤ n) (h2 : n ≤ r.to) (hT : Tab w) : Calls Tryz.prog 50 #[v, .int .i64 n] w fun e w' => e = .returned (rdgV (rdgOn r n)) ∧ Below w.heap.size w w' := by
  obtain ⟨m, hm, hmS, hm1, hm2⟩ : ∃ m : Nat, m < r.segs.length ∧ segAt r.segs n = (m : Int) ∧ (atK segK r.segs m).fr ≤ n ∧ n ≤ (atK segK r.segs m).to := by
    have h0 := (seg_fact hr n).2 ⟨h1, h2⟩
    rcases segAt_cases r.segs n with ⟨h3, _⟩ | ⟨j, hj, h3, h4, h5⟩
    · omega
    · exact ⟨j, hj, h3, h4, h5⟩
  obtain ⟨n1, n2, n3, n4, _, n5, n6⟩ := segOk_nums (right_seg hr hm).1
  have hrd : rdgOn r n = rdgAt r (atK segK r.segs m) n := by unfold rdgOn; rw [hmS, Int.toNat_natCast]
  rw [hrd]
  clear hrd
  have hG := h
  obtain ⟨v1, v2, v3, rfl, _, x1, x2, x3⟩ := h
  obtain ⟨W0, e0⟩ : ∃ W0, W0 = (w.alloc (.cells #[.string r.name, .int .i64 r.fr, .int .i64 r.to, v1, v2, v3, .int .i64 r.rule] 40)).alloc (.cells #[.int .i64 0, .int .i64 0, .int .i64 0, .int .i64 0, .int .i64 0] 76) := ⟨_, rfl⟩
  have hB0' : ∀ w1, Below W0.heap.size W0 w1 → Below w.heap.size w w1 := by
    rw [e0]
    exact fun w1 h => below_alloc (below_alloc h)
  have hB0 : Hid (∀ y : Later W0, Below w.heap.size w y.w) := fun y => hB0' y.w y.below
  clear hB0'
  have hG0 : Hid (∀ y : Later W0, GRow y.w (.agg #[.string r.name, .int .i64 r.fr, .int .i64 r.to, v1, v2, v3, .int .i64 r.rule]) r) := fun y => GRow.below hG (hB0.out y)
  have KS : ∀ y : Later W0, Calls Tryz.prog 95 #[.agg #[.string r.name, .int .i64 r.fr, .int .i64 r.to, v1, v2, v3, .int .i64 r.rule], .int .i64 n] y.w fun e w' => e = .returned (segV (atK segK r.segs m)) ∧ Below y.w.heap.size y.w w' := fun y => by
    have k := implSegOn _ r n y.w (hG0.out y) hr h1 h2
    rw [hmS, Int.toNat_natCast] at k
    exact k
  have KD : ∀ W, Hid (Below w.heap.size w W) → Calls Tryz.prog 96 #[.int .i64 (atK segK r.segs m).cal, .int .i64 (n + (atK segK r.segs m).off)] W fun e w' => e = .returned (dateR (atK segK r.segs m).cal (n + (atK segK r.segs m).off)) ∧ Below W.heap.size W w' := fun W hb => implDateOf _ _ W (hT.later hb.out)
  have KY : ∀ W, Hid (Below w.heap.size w W) → Calls Tryz.prog 97 #[.int .i64 (atK segK r.segs m).cal, .int .i64 (atK segK r.segs m).sty, .int .i64 (n + (atK segK r.segs m).off)] W fun e w' => e = .returned (styR (atK segK r.segs m).cal (atK segK r.segs m).sty (n + (atK segK r.segs m).off)) ∧ Below W.heap.size W w' := fun W hb => implStyleYear _ _ _ W (hT.later hb.out)
  have KP : ∀ y : Later W0, Calls Tryz.prog 86 #[.agg #[.string r.name, .int .i64 r.fr, .int .i64 r.to, v1, v2, v3, .int .i64 r.rule], .int .i64 n] y.w fun e w' => e = .returned (.int .i64 (patAt r.pats n)) ∧ Below y.w.heap.size y.w w' := fun y => implPatAt _ r n y.w (hG0.out y)
  unfold dateR at KD
  unfold styR at KY
  obtain ⟨p, hp⟩ : ∃ p, patAt r.pats n = p := ⟨_, rfl⟩
  have hpc : (p = -1) ∨ ∃ k : Nat, k < r.pats.length ∧ p = (k : Int) := by
    rw [← hp]
    rcases ifc_cases patK (patIs n) r.pats 0 with ⟨a, _⟩ | ⟨k, a, b, _⟩
    · exact .inl a
    · exact .inr ⟨k, a, by unfold patAt ifind; rw [b]; congr 1; omega⟩
  unfold rdgAt
  rw [hp] at KP ⊢
  obtain ⟨a1, c1, rfl, _, _, hcS⟩ := x1
  obtain ⟨a2, c2, rfl, _, _, hcP⟩ := x2
  obtain ⟨a3, c3, rfl, _⟩ := x3
  have HR0 : Hid (∀ y : Later W0, Blk y.w w.heap.size #[.string r.name, .int .i64 r.fr, .int .i64 r.to, .slice a1 r.segs.length c1, .slice a2 r.pats.length c2, .slice a3 r.rgns.length c3, .int .i64 r.rule] 40) := by unfold Hid; rw [e0]; exact fun y => ((Blk.new _ _ _).alloc _).later y
  have HZ0 : Hid (∀ y : Later W0, Blk y.w (w.heap.size + 1) #[.int .i64 0, .int .i64 0, .int .i64 0, .int .i64 0, .int .i64 0] 76) := by
    unfold Hid
    rw [e0]
    intro y
    have k := Blk.new (w.alloc (.cells #[.string r.name, .int .i64 r.fr, .int .i64 r.to, .slice a1 r.segs.length c1, .slice a2 r.pats.length c2, .slice a3 r.rgns.length c3, .int .i64 r.rule] 40)) #[.int .i64 0, .int .i64 0, .int .i64 0, .int .i64 0, .int .i64 0] 76
    rw [World.size_alloc] at k
    exact k.later y
  have R00 : ∀ y : Later W0, y.w.cell? ⟨w.heap.size, 0, none⟩ = some (.string r.name) := fun y => (HR0.out y).cell 0 rfl
  have R01 : ∀ y : Later W0, y.w.cell? ⟨w.heap.size, 1, none⟩ = some (.int .i64 r.fr) := fun y => (HR0.out y).cell 1 rfl
  have R02 : ∀ y : Later W0, y.w.cell? ⟨w.heap.size, 2, none⟩ = some (.int .i64 r.to) := fun y => (HR0.out y).cell 2 rfl
  have R03 : ∀ y : Later W0, y.w.cell? ⟨w.heap.size, 3, none⟩ = some (.slice a1 r.segs.length c1) := fun y => (HR0.out y).cell 3 rfl
  have R04 : ∀ y : Later W0, y.w.cell? ⟨w.heap.size, 4, none⟩ = some (.slice a2 r.pats.length c2) := fun y => (HR0.out y).cell 4 rfl
  have R05 : ∀ y : Later W0, y.w.cell? ⟨w.heap.size, 5, none⟩ = some (.slice a3 r.rgns.length c3) := fun y => (HR0.out y).cell 5 rfl
  have R06 : ∀ y : Later W0, y.w.cell? ⟨w.heap.size, 6, none⟩ = some (.int .i64 r.rule) := fun y => (HR0.out y).cell 6 rfl
  have E0 := hideP e0
  have HP : Hid (∀ W, Below w.heap.size w W → ∀ k : Nat, k < r.pats.length → ∃ g, a2 = some ⟨g, 0, none⟩ ∧ g < w.heap.size ∧ IAt patK W g k (atK patK r.pats k)) := fun W hb k hk => by
    obtain ⟨g, e, hg, x⟩ := hcP k hk
    exact ⟨g, e, hg, x.below hb hg⟩
  clear e0 hcS hcP hG hr h1 h2 hp hmS hT hm
  generalize atK segK r.segs m = s at *
  generalize (styYear s.cal s.sty (n + s.off)).1 = y0 at *
  generalize (styYear s.cal s.sty (n + s.off)).2 = yb at *
  generalize (dateOf s.cal (n + s.off)).1 = d0 at *
  generalize (dateOf s.cal (n + s.off)).2.1 = d1 at *
  generalize (dateOf s.cal (n + s.off)).2.2.1 = d2 at *
  generalize (dateOf s.cal (n + s.off)).2.2.2.1 = d3 at *
  generalize (dateOf s.cal (n + s.off)).2.2.2.2 = db at *
  obtain ⟨mo, hmo⟩ : ∃ mo, (if 0 ≤ p then (atK patK r.pats p.toNat).mon else d2) = mo := ⟨_, rfl⟩
  obtain ⟨dy, hdy⟩ : ∃ dy, (if 0 ≤ p then (atK patK r.pats p.toNat).dom else d3) = dy := ⟨_, rfl⟩
  rw [hmo, hdy]
  go_enter Tryz.func50, Tryz.ntmps50
  go_wp2_with fail
  rw [← E0.out]
  refine (KS ⟨W0, Below.refl _ _⟩).mono ?_
  rintro e w1 ⟨rfl, hb⟩
  obtain ⟨x1, rfl⟩ := Later.of hb
  clear hb KS
  go_wp2_with fail
  obtain ⟨W1, e1⟩ : ∃ W1, W1 = x1.w.alloc (.cells #[.int .i64 s.fr, .int .i64 s.to, .int .i64 s.cal, .int .i64 s.sty, .int .i64 s.off] 90) := ⟨_, rfl⟩
  have t1 : Hid (∀ y : Later W1, Below W0.heap.size W0 y.w) := by unfold Hid; rw [e1]; exact fun y => x1.on (below_alloc y.below)
  have HR1 : Hid (∀ y : Later W1, Blk y.w (w.heap.size) #[.string r.name, .int .i64 r.fr, .int .i64 r.to, .slice a1 r.segs.length c1, .slice a2 r.pats.length c2, .slice a3 r.rgns.length c3, .int .i64 r.rule] 40) := fun y => HR0.out ⟨y.w, t1.out y⟩
  have HZ1 : Hid (∀ y : Later W1, Blk y.w (w.heap.size + 1) #[.int .i64 0, .int .i64 0, .int .i64 0, .int .i64 0, .int .i64 0] 76) := fun y => HZ0.out ⟨y.w, t1.out y⟩
  have HS1 : Hid (∀ y : Later W1, Blk y.w x1.w.heap.size #[.int .i64 s.fr, .int .i64 s.to, .int .i64 s.cal, .int .i64 s.sty, .int .i64 s.off] 90) := by unfold Hid; rw [e1]; exact fun y => (Blk.new _ _ _).later y
  have S10 : ∀ y : Later W1, y.w.cell? ⟨x1.w.heap.size, 0, none⟩ = some (.int .i64 s.fr) := fun y => (HS1.out y).cell 0 rfl
  have S11 : ∀ y : Later W1, y.w.cell? ⟨x1.w.heap.size, 1, none⟩ = some (.int .i64 s.to) := fun y => (HS1.out y).cell 1 rfl
  have S12 : ∀ y : Later W1, y.w.cell? ⟨x1.w.heap.size, 2, none⟩ = some (.int .i64 s.cal) := fun y => (HS1.out y).cell 2 rfl
  have S13 : ∀ y : Later W1, y.w.cell? ⟨x1.w.heap.size, 3, none⟩ = some (.int .i64 s.sty) := fun y => (HS1.out y).cell 3 rfl
  have S14 : ∀ y : Later W1, y.w.cell? ⟨x1.w.heap.size, 4, none⟩ = some (.int .i64 s.off) := fun y => (HS1.out y).cell 4 rfl
  have B1 : Hid (∀ y : Later W1, Below w.heap.size w y.w) := fun y => hB0.out ⟨y.w, t1.out y⟩
  rw [← e1]
  clear e1
  refine (KD W1 (B1.out ⟨W1, Below.refl _ _⟩)).mono ?_
  rintro e w2 ⟨rfl, hb⟩
  obtain ⟨x2, rfl⟩ := Later.of hb
  clear hb KD
  have A12 : ∀ (y : Later W1) (ob : Obj), (y.w.alloc ob).cell? ⟨x1.w.heap.size, 2, none⟩ = some (.int .i64 s.cal) := fun y ob => S12 ⟨y.w.alloc ob, y.below.alloc y.below.size ob⟩
  have A13 : ∀ (y : Later W1) (ob : Obj), (y.w.alloc ob).cell? ⟨x1.w.heap.size, 3, none⟩ = some (.int .i64 s.sty) := fun y ob => S13 ⟨y.w.alloc ob, y.below.alloc y.below.size ob⟩
  have A14 : ∀ (y : Later W1) (ob : Obj), (y.w.alloc ob).cell? ⟨x1.w.heap.size, 4, none⟩ = some (.int .i64 s.off) := fun y ob => S14 ⟨y.w.alloc ob, y.below.alloc y.below.size ob⟩
  go_wp2_with fail
  obtain ⟨W2, e2⟩ : ∃ W2, W2 = x2.w.alloc (.cells #[.int .i64 d0, .int .i64 d1, .int .i64 d2, .int .i64 d3] 92) := ⟨_, rfl⟩
  have t2 : Hid (∀ y : Later W2, Below W1.heap.size W1 y.w) := by unfold Hid; rw [e2]; exact fun y => x2.on (below_alloc y.below)
  have HR2 : Hid (∀ y : Later W2, Blk y.w (w.heap.size) #[.string r.name, .int .i64 r.fr, .int .i64 r.to, .slice a1 r.segs.length c1, .slice a2 r.pats.length c2, .slice a3 r.rgns.length c3, .int .i64 r.rule] 40) := fun y => HR1.out ⟨y.w, t2.out y⟩
  have HZ2 : Hid (∀ y : Later W2, Blk y.w (w.heap.size + 1) #[.int .i64 0, .int .i64 0, .int .i64 0, .int .i64 0, .int .i64 0] 76) := fun y => HZ1.out ⟨y.w, t2.out y⟩
  have HS2 : Hid (∀ y : Later W2, Blk y.w (x1.w.heap.size) #[.int .i64 s.fr, .int .i64 s.to, .int .i64 s.cal, .int .i64 s.sty, .int .i64 s.off] 90) := fun y => HS1.out ⟨y.w, t2.out y⟩
  have HD2 : Hid (∀ y : Later W2, Blk y.w x2.w.heap.size #[.int .i64 d0, .int .i64 d1, .int .i64 d2, .int .i64 d3] 92) := by unfold Hid; rw [e2]; exact fun y => (Blk.new _ _ _).later y
  have S20 : ∀ y : Later W2, y.w.cell? ⟨x1.w.heap.size, 0, none⟩ = some (.int .i64 s.fr) := fun y => (HS2.out y).cell 0 rfl
  have S21 : ∀ y : Later W2, y.w.cell? ⟨x1.w.heap.size, 1, none⟩ = some (.int .i64 s.to) := fun y => (HS2.out y).cell 1 rfl
  have S22 : ∀ y : Later W2, y.w.cell? ⟨x1.w.heap.size, 2, none⟩ = some (.int .i64 s.cal) := fun y => (HS2.out y).cell 2 rfl
  have S23 : ∀ y : Later W2, y.w.cell? ⟨x1.w.heap.size, 3, none⟩ = some (.int .i64 s.sty) := fun y => (HS2.out y).cell 3 rfl
  have S24 : ∀ y : Later W2, y.w.cell? ⟨x1.w.heap.size, 4, none⟩ = some (.int .i64 s.off) := fun y => (HS2.out y).cell 4 rfl
  have D20 : ∀ y : Later W2, y.w.cell? ⟨x2.w.heap.size, 0, none⟩ = some (.int .i64 d0) := fun y => (HD2.out y).cell 0 rfl
  have D21 : ∀ y : Later W2, y.w.cell? ⟨x2.w.heap.size, 1, none⟩ = some (.int .i64 d1) := fun y => (HD2.out y).cell 1 rfl
  have D22 : ∀ y : Later W2, y.w.cell? ⟨x2.w.heap.size, 2, none⟩ = some (.int .i64 d2) := fun y => (HD2.out y).cell 2 rfl
  have D23 : ∀ y : Later W2, y.w.cell? ⟨x2.w.heap.size, 3, none⟩ = some (.int .i64 d3) := fun y => (HD2.out y).cell 3 rfl
  have R20 : ∀ y : Later W2, y.w.cell? ⟨w.heap.size, 0, none⟩ = some (.string r.name) := fun y => (HR2.out y).cell 0 rfl
  have R21 : ∀ y : Later W2, y.w.cell? ⟨w.heap.size, 1, none⟩ = some (.int .i64 r.fr) := fun y => (HR2.out y).cell 1 rfl
  have R22 : ∀ y : Later W2, y.w.cell? ⟨w.heap.size, 2, none⟩ = some (.int .i64 r.to) := fun y => (HR2.out y).cell 2 rfl
  have R23 : ∀ y : Later W2, y.w.cell? ⟨w.heap.size, 3, none⟩ = some (.slice a1 r.segs.length c1) := fun y => (HR2.out y).cell 3 rfl
  have R24 : ∀ y : Later W2, y.w.cell? ⟨w.heap.size, 4, none⟩ = some (.slice a2 r.pats.length c2) := fun y => (HR2.out y).cell 4 rfl
  have R25 : ∀ y : Later W2, y.w.cell? ⟨w.heap.size, 5, none⟩ = some (.slice a3 r.rgns.length c3) := fun y => (HR2.out y).cell 5 rfl
  have R26 : ∀ y : Later W2, y.w.cell? ⟨w.heap.size, 6, none⟩ = some (.int .i64 r.rule) := fun y => (HR2.out y).cell 6 rfl
  have B2 : Hid (∀ y : Later W2, Below w.heap.size w y.w) := fun y => B1.out ⟨y.w, t2.out y⟩
  rw [← e2]
  clear e2 A12 A13 A14 S10 S11 S12 S13 S14
  refine (KY W2 (B2.out ⟨W2, Below.refl _ _⟩)).mono ?_
  rintro e w3 ⟨rfl, hb⟩
  obtain ⟨x3, rfl⟩ := Later.of hb
  clear hb KY
  have A20 : ∀ (y : Later W2) (ob : Obj), (y.w.alloc ob).cell? ⟨w.heap.size, 0, none⟩ = some (.string r.name) := fun y ob => R20 ⟨y.w.alloc ob, y.below.alloc y.below.size ob⟩
  have A21 : ∀ (y : Later W2) (ob : Obj), (y.w.alloc ob).cell? ⟨w.heap.size, 1, none⟩ = some (.int .i64 r.fr) := fun y ob => R21 ⟨y.w.alloc ob, y.below.alloc y.below.size ob⟩
  have A22 : ∀ (y : Later W2) (ob : Obj), (y.w.alloc ob).cell? ⟨w.heap.size, 2, none⟩ = some (.int .i64 r.to) := fun y ob => R22 ⟨y.w.alloc ob, y.below.alloc y.below.size ob⟩
  have A23 : ∀ (y : Later W2) (ob : Obj), (y.w.alloc ob).cell? ⟨w.heap.size, 3, none⟩ = some (.slice a1 r.segs.length c1) := fun y ob => R23 ⟨y.w.alloc ob, y.below.alloc y.below.size ob⟩
  have A24 : ∀ (y : Later W2) (ob : Obj), (y.w.alloc ob).cell? ⟨w.heap.size, 4, none⟩ = some (.slice a2 r.pats.length c2) := fun y ob => R24 ⟨y.w.alloc ob, y.below.alloc y.below.size ob⟩
  have A25 : ∀ (y : Later W2) (ob : Obj), (y.w.alloc ob).cell? ⟨w.heap.size, 5, none⟩ = some (.slice a3 r.rgns.length c3) := fun y ob => R25 ⟨y.w.alloc ob, y.below.alloc y.below.size ob⟩
  have A26 : ∀ (y : Later W2) (ob : Obj), (y.w.alloc ob).cell? ⟨w.heap.size, 6, none⟩ = some (.int .i64 r.rule) := fun y ob => R26 ⟨y.w.alloc ob, y.below.alloc y.below.size ob⟩
  go_wp2_with fail
  obtain ⟨W3, e3⟩ : ∃ W3, W3 = x3.w.alloc (.cells #[.int .i64 s.cal, .int .i64 y0, .int .i64 d1, .int .i64 d2, .int .i64 d3] 76) := ⟨_, rfl⟩
  have t3 : Hid (∀ y : Later W3, Below W2.heap.size W2 y.w) := by unfold Hid; rw [e3]; exact fun y => x3.on (below_alloc y.below)
  have HR3 : Hid (∀ y : Later W3, Blk y.w (w.heap.size) #[.string r.name, .int .i64 r.fr, .int .i64 r.to, .slice a1 r.segs.length c1, .slice a2 r.pats.length c2, .slice a3 r.rgns.length c3, .int .i64 r.rule] 40) := fun y => HR2.out ⟨y.w, t3.out y⟩
  have HZ3 : Hid (∀ y : Later W3, Blk y.w (w.heap.size + 1) #[.int .i64 0, .int .i64 0, .int .i64 0, .int .i64 0, .int .i64 0] 76) := fun y => HZ2.out ⟨y.w, t3.out y⟩
  have HX3 : Hid (∀ y : Later W3, Blk y.w x3.w.heap.size #[.int .i64 s.cal, .int .i64 y0, .int .i64 d1, .int .i64 d2, .int .i64 d3] 76) := by unfold Hid; rw [e3]; exact fun y => (Blk.new _ _ _).later y
  have R30 : ∀ y : Later W3, y.w.cell? ⟨w.heap.size, 0, none⟩ = some (.string r.name) := fun y => (HR3.out y).cell 0 rfl
  have R31 : ∀ y : Later W3, y.w.cell? ⟨w.heap.size, 1, none⟩ = some (.int .i64 r.fr) := fun y => (HR3.out y).cell 1 rfl
  have R32 : ∀ y : Later W3, y.w.cell? ⟨w.heap.size, 2, none⟩ = some (.int .i64 r.to) := fun y => (HR3.out y).cell 2 rfl
  have R33 : ∀ y : Later W3, y.w.cell? ⟨w.heap.size, 3, none⟩ = some (.slice a1 r.segs.length c1) := fun y => (HR3.out y).cell 3 rfl
  have R34 : ∀ y : Later W3, y.w.cell? ⟨w.heap.size, 4, none⟩ = some (.slice a2 r.pats.length c2) := fun y => (HR3.out y).cell 4 rfl
  have R35 : ∀ y : Later W3, y.w.cell? ⟨w.heap.size, 5, none⟩ = some (.slice a3 r.rgns.length c3) := fun y => (HR3.out y).cell 5 rfl
  have R36 : ∀ y : Later W3, y.w.cell? ⟨w.heap.size, 6, none⟩ = some (.int .i64 r.rule) := fun y => (HR3.out y).cell 6 rfl
  have X30 : ∀ y : Later W3, y.w.cell? ⟨x3.w.heap.size, 0, none⟩ = some (.int .i64 s.cal) := fun y => (HX3.out y).cell 0 rfl
  have X31 : ∀ y : Later W3, y.w.cell? ⟨x3.w.heap.size, 1, none⟩ = some (.int .i64 y0) := fun y => (HX3.out y).cell 1 rfl
  have X32 : ∀ y : Later W3, y.w.cell? ⟨x3.w.heap.size, 2, none⟩ = some (.int .i64 d1) := fun y => (HX3.out y).cell 2 rfl
  have X33 : ∀ y : Later W3, y.w.cell? ⟨x3.w.heap.size, 3, none⟩ = some (.int .i64 d2) := fun y => (HX3.out y).cell 3 rfl
  have X34 : ∀ y : Later W3, y.w.cell? ⟨x3.w.heap.size, 4, none⟩ = some (.int .i64 d3) := fun y => (HX3.out y).cell 4 rfl
  have Z30 : ∀ y : Later W3, y.w.cell? ⟨w.heap.size + 1, 0, none⟩ = some (.int .i64 0) := fun y => (HZ3.out y).cell 0 rfl
  have Z31 : ∀ y : Later W3, y.w.cell? ⟨w.heap.size + 1, 1, none⟩ = some (.int .i64 0) := fun y => (HZ3.out y).cell 1 rfl
  have Z32 : ∀ y : Later W3, y.w.cell? ⟨w.heap.size + 1, 2, none⟩ = some (.int .i64 0) := fun y => (HZ3.out y).cell 2 rfl
  have Z33 : ∀ y : Later W3, y.w.cell? ⟨w.heap.size + 1, 3, none⟩ = some (.int .i64 0) := fun y => (HZ3.out y).cell 3 rfl
  have Z34 : ∀ y : Later W3, y.w.cell? ⟨w.heap.size + 1, 4, none⟩ = some (.int .i64 0) := fun y => (HZ3.out y).cell 4 rfl
  have fX33 : ∀ y : Later W3, y.w.frozen? ⟨x3.w.heap.size, 3, none⟩ = false := fun y => (HX3.out y).thaw 3
  have fX34 : ∀ y : Later W3, y.w.frozen? ⟨x3.w.heap.size, 4, none⟩ = false := fun y => (HX3.out y).thaw 4
  have fZ30 : ∀ y : Later W3, y.w.frozen? ⟨w.heap.size + 1, 0, none⟩ = false := fun y => (HZ3.out y).thaw 0
  have fZ31 : ∀ y : Later W3, y.w.frozen? ⟨w.heap.size + 1, 1, none⟩ = false := fun y => (HZ3.out y).thaw 1
  have fZ32 : ∀ y : Later W3, y.w.frozen? ⟨w.heap.size + 1, 2, none⟩ = false := fun y => (HZ3.out y).thaw 2
  have fZ33 : ∀ y : Later W3, y.w.frozen? ⟨w.heap.size + 1, 3, none⟩ = false := fun y => (HZ3.out y).thaw 3
  have fZ34 : ∀ y : Later W3, y.w.frozen? ⟨w.heap.size + 1, 4, none⟩ = false := fun y => (HZ3.out y).thaw 4
  have B3 : Hid (∀ y : Later W3, Below w.heap.size w y.w) := fun y => B2.out ⟨y.w, t3.out y⟩
  have T3 : Hid (∀ y : Later W3, Below W0.heap.size W0 y.w) := fun y => (Later.mk (W := W1) _ (t2.out ⟨y.w, t3.out y⟩)).below.trans (Below.refl _ _) |> fun h => t1.out ⟨y.w, h⟩
  rw [← e3]
  have q3 : Below W0.heap.size W0 W3 := T3.out ⟨W3, Below.refl _ _⟩
  clear e3 A20 A21 A22 A23 A24 A25 A26 R20 R21 R22 R23 R24 R25 R26 S20 S21 S22 S23 S24 D20 D21 D22 D23 R00 R01 R02 R03 R04 R05 R06
  refine (KP ⟨W3, q3⟩).mono ?_
  rintro e w4 ⟨rfl, hb⟩
  obtain ⟨x4, rfl⟩ := Later.of (W := W3) hb
  clear hb KP q3
  rcases hpc with rfl | ⟨k, hk, rfl⟩
  · rw [if_neg (by omega)] at hmo hdy
    subst hmo
    subst hdy
    go_wp2
    obtain ⟨W9, e9⟩ : ∃ W9, W9 = ((((x4.w.setCell ⟨w.heap.size + 1, 0, none⟩ (.int .i64 s.cal)).setCell ⟨w.heap.size + 1, 1, none⟩ (.int .i64 y0)).setCell ⟨w.heap.size + 1, 2, none⟩ (.int .i64 d1)).setCell ⟨w.heap.size + 1, 3, none⟩ (.int .i64 d2)).setCell ⟨w.heap.size + 1, 4, none⟩ (.int .i64 d3) := ⟨_, rfl⟩
    have Z9 : Blk W9 (w.heap.size + 1) #[.int .i64 s.cal, .int .i64 y0, .int .i64 d1, .int .i64 d2, .int .i64 d3] 76 := by rw [e9]; exact ((((((HZ3.out x4).set 0 _).set 1 _).set 2 _).set 3 _).set 4 _)
    have B9 : Below w.heap.size w W9 := by rw [e9]; exact (Below.setCell (Below.setCell (Below.setCell (Below.setCell (Below.setCell (B3.out x4) (p := ⟨w.heap.size + 1, 0, none⟩) (show w.heap.size ≤ w.heap.size + 1 by omega) _) (p := ⟨w.heap.size + 1, 1, none⟩) (show w.heap.size ≤ w.heap.size + 1 by omega) _) (p := ⟨w.heap.size + 1, 2, none⟩) (show w.heap.size ≤ w.heap.size + 1 by omega) _) (p := ⟨w.heap.size + 1, 3, none⟩) (show w.heap.size ≤ w.heap.size + 1 by omega) _) (p := ⟨w.heap.size + 1, 4, none⟩) (show w.heap.size ≤ w.heap.size + 1 by omega) _)
    rw [← e9]
    clear e9
    have q0 : W9.cell? ⟨w.heap.size + 1, 0, none⟩ = some (.int .i64 s.cal) := Z9.cell 0 rfl
    have q1 : W9.cell? ⟨w.heap.size + 1, 1, none⟩ = some (.int .i64 y0) := Z9.cell 1 rfl
    have q2 : W9.cell? ⟨w.heap.size + 1, 2, none⟩ = some (.int .i64 d1) := Z9.cell 2 rfl
    have q3 : W9.cell? ⟨w.heap.size + 1, 3, none⟩ = some (.int .i64 d2) := Z9.cell 3 rfl
    have q4 : W9.cell? ⟨w.heap.size + 1, 4, none⟩ = some (.int .i64 d3) := Z9.cell 4 rfl
    exact bodyPost_ret (by simp [results, Tryz.results50, go_sem, q0, q1, q2, q3, q4]; try rfl) rfl ⟨rfl, B9⟩
  · rw [if_pos (by omega), Int.toNat_natCast] at hmo hdy
    obtain ⟨g, rfl, hgw, xp⟩ := HP.out x4.w (B3.out x4) k hk
    obtain ⟨c0, c1', c2'⟩ := xp.pat
    have hkz : (k : Int) < (r.pats.length : Int) := by omega
    have hx3 : w.heap.size + 1 < x3.w.heap.size := by
      have := (HZ2.out x3).lt
      omega
    have hG : g ≠ x3.w.heap.size := by omega
    have hGr : w.heap.size ≠ x3.w.heap.size := by omega
    have hGz : x3.w.heap.size ≠ w.heap.size + 1 := by omega
    rw [hmo] at c1'
    rw [hdy] at c2'
    clear HP xp hmo hdy
    go_wp2_with fail
    refine wp_region_held_drew (S := (fun w' => w'.cell? ⟨w.heap.size, 4, none⟩ = some (.slice (some ⟨g, 0, none⟩) r.pats.length c2) ∧ w'.cell? ⟨g, k * 3 + 1, none⟩ = some (.int .i64 mo) ∧ w'.cell? ⟨g, k * 3 + 2, none⟩ = some (.int .i64 dy))) (by kernel_rfl) ⟨R34 x4, c1', c2'⟩ (fun hHeld => ?_)
    refine held_take (i := 0) (d := 52) (v := ?_) rfl rfl (by kernel_rfl) (by decide +kernel) (by decide +kernel) (fun _ _ _ h => h) (by rfl) ?_ (by assumption) ?_
    rotate_left
    · intro w hSw
      (try dsimp only at hSw)
      go_simp
      (try rfl)
    simp only [Act.put, List.setIfInBounds_toArray, List.set_cons_zero, List.set_cons_succ]
    refine held_take (i := 1) (d := 53) (v := ?_) rfl rfl (by kernel_rfl) (by decide +kernel) (by decide +kernel) (fun _ _ _ h => h) (by rfl) ?_ (by assumption) ?_
    rotate_left
    · intro w hSw
      (try dsimp only at hSw)
      go_simp
      (try rfl)
    simp only [Act.put, List.setIfInBounds_toArray, List.set_cons_zero, List.set_cons_succ]
    refine held_take (i := 2) (d := 54) (v := ?_) rfl rfl (by kernel_rfl) (by decide +kernel) (by decide +kernel) (fun _ _ _ h => h) (by rfl) ?_ (by assumption) ?_
    rotate_left
    · intro w hSw
      (try dsimp only at hSw)
      go_simp
      (try rfl)
    simp only [Act.put, List.setIfInBounds_toArray, List.set_cons_zero, List.set_cons_succ]
    refine held_take (i := 3) (d := 55) (v := ?_) rfl rfl (by kernel_rfl) (by decide +kernel) (by decide +kernel) (fun _ _ _ h => h) (by rfl) ?_ (by assumption) ?_
    rotate_left
    · intro w hSw
      (try dsimp only at hSw)
      go_simp
      (try rfl)
    simp only [Act.put, List.setIfInBounds_toArray, List.set_cons_zero, List.set_cons_succ]
    refine held_take (i := 4) (d := 56) (v := ?_) rfl rfl (by kernel_rfl) (by decide +kernel) (by decide +kernel) (fun _ _ _ h => h) (by rfl) ?_ (by assumption) ?_
    rotate_left
    · intro w hSw
      (try dsimp only at hSw)
      go_simp
      (try rfl)
    simp only [Act.put, List.setIfInBounds_toArray, List.set_cons_zero, List.set_cons_succ]
    refine held_take (i := 5) (d := 57) (v := ?_) rfl rfl (by kernel_rfl) (by decide +kernel) (by decide +kernel) (fun _ _ _ h => h) (by rfl) ?_ (by assumption) ?_
    rotate_left
    · intro w hSw
      (try dsimp only at hSw)
      go_simp
      (try rfl)
    simp only [Act.put, List.setIfInBounds_toArray, List.set_cons_zero, List.set_cons_succ]
    refine held_take (i := 6) (d := 58) (v := ?_) rfl rfl (by kernel_rfl) (by decide +kernel) (by decide +kernel) (fun _ _ _ h => h) (by rfl) ?_ (by assumption) ?_
    rotate_left
    · intro w hSw
      (try dsimp only at hSw)
      go_simp
      (try rfl)
    simp only [Act.put, List.setIfInBounds_toArray, List.set_cons_zero, List.set_cons_succ]
    refine held_take (i := 7) (d := 59) (v := ?_) rfl rfl (by kernel_rfl) (by decide +kernel) (by decide +kernel) (fun _ _ _ h => h) (by rfl) ?_ (by assumption) ?_
    rotate_left
    · intro w hSw
      (try dsimp only at hSw)
      go_simp
      (try rfl)
    simp only [Act.put, List.setIfInBounds_toArray, List.set_cons_zero, List.set_cons_succ]
    refine held_take (i := 8) (d := 60) (v := ?_) rfl rfl (by kernel_rfl) (by decide +kernel) (by decide +kernel) (fun _ _ _ h => h) (by rfl) ?_ (by assumption) ?_
    rotate_left
    · intro w hSw
      (try dsimp only at hSw)
      go_simp
      (try rfl)
    simp only [Act.put, List.setIfInBounds_toArray, List.set_cons_zero, List.set_cons_succ]
    refine held_take (i := 9) (d := 61) (v := ?_) rfl rfl (by kernel_rfl) (by decide +kernel) (by decide +kernel) (fun _ _ _ h => h) (by rfl) ?_ (by assumption) ?_
    rotate_left
    · intro w hSw
      (try dsimp only at hSw)
      go_simp
      (try rfl)
    simp only [Act.put, List.setIfInBounds_toArray, List.set_cons_zero, List.set_cons_succ]
    refine held_take (i := 10) (d := 62) (v := ?_) rfl rfl (by kernel_rfl) (by decide +kernel) (by decide +kernel) (fun _ _ _ h => h) (by rfl) ?_ (by assumption) ?_
    rotate_left
    · intro w hSw
      (try dsimp only at hSw)
      go_simp
      (try rfl)
    simp only [Act.put, List.setIfInBounds_toArray, List.set_cons_zero, List.set_cons_succ]
    refine held_take (i := 11) (d := 63) (v := ?_) rfl rfl (by kernel_rfl) (by decide +kernel) (by decide +kernel) (fun _ _ _ h => h) (by rfl) ?_ (by assumption) ?_
    rotate_left
    · intro w hSw
      (try dsimp only at hSw)
      go_simp
      (try rfl)
    simp only [Act.put, List.setIfInBounds_toArray, List.set_cons_zero, List.set_cons_succ]
    refine held_take (i := 12) (d := 64) (v := ?_) rfl rfl (by kernel_rfl) (by decide +kernel) (by decide +kernel) (fun _ _ _ h => h) (by rfl) ?_ (by assumption) ?_
    rotate_left
    · intro w hSw
      (try dsimp only at hSw)
      go_simp
      (try rfl)
    simp only [Act.put, List.setIfInBounds_toArray, List.set_cons_zero, List.set_cons_succ]
    have XD : Hid (Blk x4.w.drew x3.w.heap.size #[.int .i64 s.cal, .int .i64 y0, .int .i64 d1, .int .i64 d2, .int .i64 d3] 76) := (HX3.out x4).drew
    have ZD : Hid (Blk x4.w.drew (w.heap.size + 1) #[.int .i64 0, .int .i64 0, .int .i64 0, .int .i64 0, .int .i64 0] 76) := (HZ3.out x4).drew
    have BD : Hid (Below w.heap.size w x4.w.drew) := (B3.out x4).drew
    have y3 := XD.out.cell 3 rfl
    have z3 := XD.out.thaw 3
    refine held_one (i := 13) (by decide +kernel) (op_skip (w' := (x4.w.drew.setCell ⟨x3.w.heap.size, 3, none⟩ (.int .i64 mo))) rfl rfl (by rfl) (by simp [execOp, go_sem, y3, z3]) ?_)
    obtain ⟨s1, s2, s3⟩ := hHeld
    have KO : ∀ (V : World) (i j b : Nat) (u : Value), b ≠ x3.w.heap.size → (V.setCell ⟨x3.w.heap.size, i, none⟩ u).cell? ⟨b, j, none⟩ = V.cell? ⟨b, j, none⟩ := fun V i j b u hb => World.cell?_setCell_other V ⟨x3.w.heap.size, i, none⟩ ⟨b, j, none⟩ u (by intro e; exact hb (by first | exact congrArg Addr.block e | exact (congrArg Addr.block e).symm))
    have h1 : (x4.w.drew.setCell ⟨x3.w.heap.size, 3, none⟩ (.int .i64 mo)).cell? ⟨w.heap.size, 4, none⟩ = some (.slice (some ⟨g, 0, none⟩) r.pats.length c2) ∧ (x4.w.drew.setCell ⟨x3.w.heap.size, 3, none⟩ (.int .i64 mo)).cell? ⟨g, k * 3 + 1, none⟩ = some (.int .i64 mo) ∧ (x4.w.drew.setCell ⟨x3.w.heap.size, 3, none⟩ (.int .i64 mo)).cell? ⟨g, k * 3 + 2, none⟩ = some (.int .i64 dy) := ⟨(KO _ _ _ _ _ hGr).trans s1, (KO _ _ _ _ _ hG).trans s2, (KO _ _ _ _ _ hG).trans s3⟩
    refine ⟨h1, ?_⟩
    refine held_take (i := 14) (d := 65) (v := ?_) rfl rfl (by kernel_rfl) (by decide +kernel) (by decide +kernel) (fun _ _ _ h => h) (by rfl) ?_ (by assumption) ?_
    rotate_left
    · intro w hSw
      (try dsimp only at hSw)
      go_simp
      (try rfl)
    simp only [Act.put, List.setIfInBounds_toArray, List.set_cons_zero, List.set_cons_succ]
    have XE : Hid (Blk (x4.w.drew.setCell ⟨x3.w.heap.size, 3, none⟩ (.int .i64 mo)) x3.w.heap.size #[.int .i64 s.cal, .int .i64 y0, .int .i64 d1, .int .i64 mo, .int .i64 d3] 76) := XD.out.set 3 _
    refine held_one (i := 15) (by decide +kernel) (op_skip (w' := ((x4.w.drew.setCell ⟨x3.w.heap.size, 3, none⟩ (.int .i64 mo)).setCell ⟨x3.w.heap.size, 4, none⟩ (.int .i64 dy))) rfl rfl (by rfl) (by simp [execOp, go_sem, X34, fX34]) ?_)
    refine ⟨⟨(KO _ _ _ _ _ hGr).trans h1.1, (KO _ _ _ _ _ hG).trans h1.2.1, (KO _ _ _ _ _ hG).trans h1.2.2⟩, ?_⟩
    refine wpAnyH_done (by kernel_rfl) ?_ _
    have XF : Hid (Blk ((x4.w.drew.setCell ⟨x3.w.heap.size, 3, none⟩ (.int .i64 mo)).setCell ⟨x3.w.heap.size, 4, none⟩ (.int .i64 dy)) x3.w.heap.size #[.int .i64 s.cal, .int .i64 y0, .int .i64 d1, .int .i64 mo, .int .i64 dy] 76) := XE.out.set 4 _
    have ZF : Hid (Blk ((x4.w.drew.setCell ⟨x3.w.heap.size, 3, none⟩ (.int .i64 mo)).setCell ⟨x3.w.heap.size, 4, none⟩ (.int .i64 dy)) (w.heap.size + 1) #[.int .i64 0, .int .i64 0, .int .i64 0, .int .i64 0, .int .i64 0] 76) := (ZD.out.other (i := 3) hGz).other (i := 4) hGz
    have BF : Hid (Below w.heap.size w ((x4.w.drew.setCell ⟨x3.w.heap.size, 3, none⟩ (.int .i64 mo)).setCell ⟨x3.w.heap.size, 4, none⟩ (.int .i64 dy))) := Below.setCell (Below.setCell BD.out (p := ⟨x3.w.heap.size, 3, none⟩) (show w.heap.size ≤ x3.w.heap.size by omega) _) (p := ⟨x3.w.heap.size, 4, none⟩) (show w.heap.size ≤ x3.w.heap.size by omega) _
    obtain ⟨VF, eF⟩ : ∃ VF, VF = ((x4.w.drew.setCell ⟨x3.w.heap.size, 3, none⟩ (.int .i64 mo)).setCell ⟨x3.w.heap.size, 4, none⟩ (.int .i64 dy)) := ⟨_, rfl⟩
    rw [← eF] at XF ZF BF ⊢
    clear eF XE XD ZD BD h1 s1 s2 s3 y3 z3
    have l0 := XF.out.cell 0 rfl
    have l1 := XF.out.cell 1 rfl
    have l2 := XF.out.cell 2 rfl
    have l3 := XF.out.cell 3 rfl
    have l4 := XF.out.cell 4 rfl
    have m0 := ZF.out.thaw 0
    have p0 := ZF.out.cell 0 rfl
    have m1 := ZF.out.thaw 1
    have p1 := ZF.out.cell 1 rfl
    have m2 := ZF.out.thaw 2
    have p2 := ZF.out.cell 2 rfl
    have m3 := ZF.out.thaw 3
    have p3 := ZF.out.cell 3 rfl
    have m4 := ZF.out.thaw 4
    have p4 := ZF.out.cell 4 rfl
    go_wp2_with fail
    obtain ⟨W9, e9⟩ : ∃ W9, W9 = ((((VF.setCell ⟨w.heap.size + 1, 0, none⟩ (.int .i64 s.cal)).setCell ⟨w.heap.size + 1, 1, none⟩ (.int .i64 y0)).setCell ⟨w.heap.size + 1, 2, none⟩ (.int .i64 d1)).setCell ⟨w.heap.size + 1, 3, none⟩ (.int .i64 mo)).setCell ⟨w.heap.size + 1, 4, none⟩ (.int .i64 dy) := ⟨_, rfl⟩
    have Z9 : Blk W9 (w.heap.size + 1) #[.int .i64 s.cal, .int .i64 y0, .int .i64 d1, .int .i64 mo, .int .i64 dy] 76 := by rw [e9]; exact (((((ZF.out.set 0 _).set 1 _).set 2 _).set 3 _).set 4 _)
    have B9 : Below w.heap.size w W9 := by rw [e9]; exact (Below.setCell (Below.setCell (Below.setCell (Below.setCell (Below.setCell BF.out (p := ⟨w.heap.size + 1, 0, none⟩) (show w.heap.size ≤ w.heap.size + 1 by omega) _) (p := ⟨w.heap.size + 1, 1, none⟩) (show w.heap.size ≤ w.heap.size + 1 by omega) _) (p := ⟨w.heap.size + 1, 2, none⟩) (show w.heap.size ≤ w.heap.size + 1 by omega) _) (p := ⟨w.heap.size + 1, 3, none⟩) (show w.heap.size ≤ w.heap.size + 1 by omega) _) (p := ⟨w.heap.size + 1, 4, none⟩) (show w.heap.size ≤ w.heap.size + 1 by omega) _)
    rw [← e9]
    clear e9
    have q0 : W9.cell? ⟨w.heap.size + 1, 0, none⟩ = some (.int .i64 s.cal) := Z9.cell 0 rfl
    have q1 : W9.cell? ⟨w.heap.size + 1, 1, none⟩ = some (.int .i64 y0) := Z9.cell 1 rfl
    have q2 : W9.cell? ⟨w.heap.size + 1, 2, none⟩ = some (.int .i64 d1) := Z9.cell 2 rfl
    have q3 : W9.cell? ⟨w.heap.size + 1, 3, none⟩ = some (.int .i64 mo) := Z9.cell 3 rfl
    have q4 : W9.cell? ⟨w.heap.size + 1, 4, none⟩ = some (.int .i64 dy) := Z9.cell 4 rfl
    exact bodyPost_ret (by simp [results, Tryz.results50, go_sem, q0, q1, q2, q3, q4]; try rfl) rfl ⟨rfl, B9⟩
end Go.Proofs.YtdgolaaheakfoaaGreatDoor.ctr
namespace Go.Proofs.YtdgolaaheakfoaaGreatDoor.ctr
open Go.RowKit
set_option maxHeartbeats 4000000 in
theorem specRead (v : Value) (r : Rgm) (n : Int) (w : World) (h : GRow w v r) (hr : regimeB r = true) (h1 : r.fr ≤ n) (h2 : n ≤ r.to) : Calls Tryz.prog 48 #[v, .int .i64 n] w fun e w' => e = .returned (.tuple #[rdgV (rdgOn r n), .bool true]) ∧ Below w.heap.size w w' := by
  obtain ⟨m, hm, hmS, hm1, hm2⟩ : ∃ m : Nat, m < r.segs.length ∧ segAt r.segs n = (m : Int) ∧ (atK segK r.segs m).fr ≤ n ∧ n ≤ (atK segK r.segs m).to := by
    have h0 := (seg_fact hr n).2 ⟨h1, h2⟩
    rcases segAt_cases r.segs n with ⟨h3, _⟩ | ⟨j, hj, h3, h4, h5⟩
    · omega
    · exact ⟨j, hj, h3, h4, h5⟩
  obtain ⟨n1, n2, n3, n4, _, n5, n6⟩ := segOk_nums (right_seg hr hm).1
  have hrd : rdgOn r n = rdgAt r (atK segK r.segs m) n := by unfold rdgOn; rw [hmS, Int.toNat_natCast]
  rw [hrd]
  clear hrd
  have hG := h
  obtain ⟨v1, v2, v3, rfl, _, x1, x2, x3⟩ := h
  obtain ⟨W0, e0⟩ : ∃ W0, W0 = (w.alloc (.cells #[.string r.name, .int .i64 r.fr, .int .i64 r.to, v1, v2, v3, .int .i64 r.rule] 40)).alloc (.cells #[.int .i64 0, .int .i64 0, .int .i64 0, .int .i64 0, .int .i64 0] 76) := ⟨_, rfl⟩
  have hB0' : ∀ w1, Below W0.heap.size W0 w1 → Below w.heap.size w w1 := by
    rw [e0]
    exact fun w1 h => below_alloc (below_alloc h)
  have hB0 : Hid (∀ y : Later W0, Below w.heap.size w y.w) := fun y => hB0' y.w y.below
  clear hB0'
  have hG0 : Hid (∀ y : Later W0, GRow y.w (.agg #[.string r.name, .int .i64 r.fr, .int .i64 r.to, v1, v2, v3, .int .i64 r.rule]) r) := fun y => GRow.below hG (hB0.out y)
  have KS : ∀ y : Later W0, Calls Tryz.prog 90 #[.agg #[.string r.name, .int .i64 r.fr, .int .i64 r.to, v1, v2, v3, .int .i64 r.rule], .int .i64 n] y.w fun e w' => e = .returned (.int .i64 (m : Int)) ∧ Below y.w.heap.size y.w w' := fun y => by
    have k := specSegAt _ r n y.w (hG0.out y)
    rw [hmS] at k
    exact k
  have KD : ∀ W, Hid (Below w.heap.size w W) → Calls Tryz.prog 57 #[.int .i64 (atK segK r.segs m).cal, .int .i64 (n + (atK segK r.segs m).off)] W fun e w' => e = .returned (dateR (atK segK r.segs m).cal (n + (atK segK r.segs m).off)) ∧ Below W.heap.size W w' := fun W hb => specDateOf _ _ W
  have KY : ∀ W, Hid (Below w.heap.size w W) → Calls Tryz.prog 91 #[.int .i64 (atK segK r.segs m).cal, .int .i64 (atK segK r.segs m).sty, .int .i64 (n + (atK segK r.segs m).off)] W fun e w' => e = .returned (styR (atK segK r.segs m).cal (atK segK r.segs m).sty (n + (atK segK r.segs m).off)) ∧ Below W.heap.size W w' := fun W hb => specStyleYear _ _ _ W
  have KP : ∀ y : Later W0, Calls Tryz.prog 92 #[.agg #[.string r.name, .int .i64 r.fr, .int .i64 r.to, v1, v2, v3, .int .i64 r.rule], .int .i64 n] y.w fun e w' => e = .returned (.int .i64 (patAt r.pats n)) ∧ Below y.w.heap.size y.w w' := fun y => specPatAt _ r n y.w (hG0.out y)
  unfold dateR at KD
  unfold styR at KY
  obtain ⟨p, hp⟩ : ∃ p, patAt r.pats n = p := ⟨_, rfl⟩
  have hpc : (p = -1) ∨ ∃ k : Nat, k < r.pats.length ∧ p = (k : Int) := by
    rw [← hp]
    rcases ifc_cases patK (patIs n) r.pats 0 with ⟨a, _⟩ | ⟨k, a, b, _⟩
    · exact .inl a
    · exact .inr ⟨k, a, by unfold patAt ifind; rw [b]; congr 1; omega⟩
  unfold rdgAt
  rw [hp] at KP ⊢
  obtain ⟨a1, c1, rfl, _, _, hcS⟩ := x1
  obtain ⟨a2, c2, rfl, _, _, hcP⟩ := x2
  obtain ⟨a3, c3, rfl, _⟩ := x3
  obtain ⟨gs, rfl, hgs, xs⟩ := hcS m hm
  have hgS : ∀ y : Later W0, IAt segK y.w gs m (atK segK r.segs m) := fun y => xs.below (hB0.out y) hgs
  have g00 : ∀ y : Later W0, y.w.cell? ⟨gs, m * 5, none⟩ = some (.int .i64 (atK segK r.segs m).fr) := fun y => ((hgS y).seg).1
  have g01 : ∀ y : Later W0, y.w.cell? ⟨gs, m * 5 + 1, none⟩ = some (.int .i64 (atK segK r.segs m).to) := fun y => ((hgS y).seg).2.1
  have g02 : ∀ y : Later W0, y.w.cell? ⟨gs, m * 5 + 2, none⟩ = some (.int .i64 (atK segK r.segs m).cal) := fun y => ((hgS y).seg).2.2.1
  have g03 : ∀ y : Later W0, y.w.cell? ⟨gs, m * 5 + 3, none⟩ = some (.int .i64 (atK segK r.segs m).sty) := fun y => ((hgS y).seg).2.2.2.1
  have g04 : ∀ y : Later W0, y.w.cell? ⟨gs, m * 5 + 4, none⟩ = some (.int .i64 (atK segK r.segs m).off) := fun y => ((hgS y).seg).2.2.2.2
  have hmz : (m : Int) < (r.segs.length : Int) := by omega
  clear xs hgS
  have HR0 : Hid (∀ y : Later W0, Blk y.w w.heap.size #[.string r.name, .int .i64 r.fr, .int .i64 r.to, .slice (some ⟨gs, 0, none⟩) r.segs.length c1, .slice a2 r.pats.length c2, .slice a3 r.rgns.length c3, .int .i64 r.rule] 40) := by unfold Hid; rw [e0]; exact fun y => ((Blk.new _ _ _).alloc _).later y
  have HZ0 : Hid (∀ y : Later W0, Blk y.w (w.heap.size + 1) #[.int .i64 0, .int .i64 0, .int .i64 0, .int .i64 0, .int .i64 0] 76) := by
    unfold Hid
    rw [e0]
    intro y
    have k := Blk.new (w.alloc (.cells #[.string r.name, .int .i64 r.fr, .int .i64 r.to, .slice (some ⟨gs, 0, none⟩) r.segs.length c1, .slice a2 r.pats.length c2, .slice a3 r.rgns.length c3, .int .i64 r.rule] 40)) #[.int .i64 0, .int .i64 0, .int .i64 0, .int .i64 0, .int .i64 0] 76
    rw [World.size_alloc] at k
    exact k.later y
  have R00 : ∀ y : Later W0, y.w.cell? ⟨w.heap.size, 0, none⟩ = some (.string r.name) := fun y => (HR0.out y).cell 0 rfl
  have R01 : ∀ y : Later W0, y.w.cell? ⟨w.heap.size, 1, none⟩ = some (.int .i64 r.fr) := fun y => (HR0.out y).cell 1 rfl
  have R02 : ∀ y : Later W0, y.w.cell? ⟨w.heap.size, 2, none⟩ = some (.int .i64 r.to) := fun y => (HR0.out y).cell 2 rfl
  have R03 : ∀ y : Later W0, y.w.cell? ⟨w.heap.size, 3, none⟩ = some (.slice (some ⟨gs, 0, none⟩) r.segs.length c1) := fun y => (HR0.out y).cell 3 rfl
  have R04 : ∀ y : Later W0, y.w.cell? ⟨w.heap.size, 4, none⟩ = some (.slice a2 r.pats.length c2) := fun y => (HR0.out y).cell 4 rfl
  have R05 : ∀ y : Later W0, y.w.cell? ⟨w.heap.size, 5, none⟩ = some (.slice a3 r.rgns.length c3) := fun y => (HR0.out y).cell 5 rfl
  have R06 : ∀ y : Later W0, y.w.cell? ⟨w.heap.size, 6, none⟩ = some (.int .i64 r.rule) := fun y => (HR0.out y).cell 6 rfl
  have Z00 : ∀ y : Later W0, y.w.cell? ⟨w.heap.size + 1, 0, none⟩ = some (.int .i64 0) := fun y => (HZ0.out y).cell 0 rfl
  have Z01 : ∀ y : Later W0, y.w.cell? ⟨w.heap.size + 1, 1, none⟩ = some (.int .i64 0) := fun y => (HZ0.out y).cell 1 rfl
  have Z02 : ∀ y : Later W0, y.w.cell? ⟨w.heap.size + 1, 2, none⟩ = some (.int .i64 0) := fun y => (HZ0.out y).cell 2 rfl
  have Z03 : ∀ y : Later W0, y.w.cell? ⟨w.heap.size + 1, 3, none⟩ = some (.int .i64 0) := fun y => (HZ0.out y).cell 3 rfl
  have Z04 : ∀ y : Later W0, y.w.cell? ⟨w.heap.size + 1, 4, none⟩ = some (.int .i64 0) := fun y => (HZ0.out y).cell 4 rfl
  have fZ00 : ∀ y : Later W0, y.w.frozen? ⟨w.heap.size + 1, 0, none⟩ = false := fun y => (HZ0.out y).thaw 0
  have fZ01 : ∀ y : Later W0, y.w.frozen? ⟨w.heap.size + 1, 1, none⟩ = false := fun y => (HZ0.out y).thaw 1
  have fZ02 : ∀ y : Later W0, y.w.frozen? ⟨w.heap.size + 1, 2, none⟩ = false := fun y => (HZ0.out y).thaw 2
  have fZ03 : ∀ y : Later W0, y.w.frozen? ⟨w.heap.size + 1, 3, none⟩ = false := fun y => (HZ0.out y).thaw 3
  have fZ04 : ∀ y : Later W0, y.w.frozen? ⟨w.heap.size + 1, 4, none⟩ = false := fun y => (HZ0.out y).thaw 4
  have E0 := hideP e0
  have HP : Hid (∀ W, Below w.heap.size w W → ∀ k : Nat, k < r.pats.length → ∃ g, a2 = some ⟨g, 0, none⟩ ∧ g < w.heap.size ∧ IAt patK W g k (atK patK r.pats k)) := fun W hb k hk => by
    obtain ⟨g, e, hg, x⟩ := hcP k hk
    exact ⟨g, e, hg, x.below hb hg⟩
  clear e0 hcS hcP hG hr h1 h2 hp hmS hm
  generalize atK segK r.segs m = s at *
  generalize (styYear s.cal s.sty (n + s.off)).1 = y0 at *
  generalize (styYear s.cal s.sty (n + s.off)).2 = yb at *
  generalize (dateOf s.cal (n + s.off)).1 = d0 at *
  generalize (dateOf s.cal (n + s.off)).2.1 = d1 at *
  generalize (dateOf s.cal (n + s.off)).2.2.1 = d2 at *
  generalize (dateOf s.cal (n + s.off)).2.2.2.1 = d3 at *
  generalize (dateOf s.cal (n + s.off)).2.2.2.2 = db at *
  obtain ⟨mo, hmo⟩ : ∃ mo, (if 0 ≤ p then (atK patK r.pats p.toNat).mon else d2) = mo := ⟨_, rfl⟩
  obtain ⟨dy, hdy⟩ : ∃ dy, (if 0 ≤ p then (atK patK r.pats p.toNat).dom else d3) = dy := ⟨_, rfl⟩
  rw [hmo, hdy]
  go_enter Tryz.func48, Tryz.ntmps48
  go_wp2_with fail
  rw [← E0.out]
  refine (KS ⟨W0, Below.refl _ _⟩).mono ?_
  rintro e w1 ⟨rfl, hb⟩
  obtain ⟨x1, rfl⟩ := Later.of hb
  clear hb KS
  go_wp2_with fail
  obtain ⟨W1, e1⟩ : ∃ W1, W1 = x1.w.alloc (.cells #[.int .i64 s.fr, .int .i64 s.to, .int .i64 s.cal, .int .i64 s.sty, .int .i64 s.off] 90) := ⟨_, rfl⟩
  have t1 : Hid (∀ y : Later W1, Below W0.heap.size W0 y.w) := by unfold Hid; rw [e1]; exact fun y => x1.on (below_alloc y.below)
  have HR1 : Hid (∀ y : Later W1, Blk y.w (w.heap.size) #[.string r.name, .int .i64 r.fr, .int .i64 r.to, .slice (some ⟨gs, 0, none⟩) r.segs.length c1, .slice a2 r.pats.length c2, .slice a3 r.rgns.length c3, .int .i64 r.rule] 40) := fun y => HR0.out ⟨y.w, t1.out y⟩
  have HZ1 : Hid (∀ y : Later W1, Blk y.w (w.heap.size + 1) #[.int .i64 0, .int .i64 0, .int .i64 0, .int .i64 0, .int .i64 0] 76) := fun y => HZ0.out ⟨y.w, t1.out y⟩
  have HS1 : Hid (∀ y : Later W1, Blk y.w x1.w.heap.size #[.int .i64 s.fr, .int .i64 s.to, .int .i64 s.cal, .int .i64 s.sty, .int .i64 s.off] 90) := by unfold Hid; rw [e1]; exact fun y => (Blk.new _ _ _).later y
  have S10 : ∀ y : Later W1, y.w.cell? ⟨x1.w.heap.size, 0, none⟩ = some (.int .i64 s.fr) := fun y => (HS1.out y).cell 0 rfl
  have S11 : ∀ y : Later W1, y.w.cell? ⟨x1.w.heap.size, 1, none⟩ = some (.int .i64 s.to) := fun y => (HS1.out y).cell 1 rfl
  have S12 : ∀ y : Later W1, y.w.cell? ⟨x1.w.heap.size, 2, none⟩ = some (.int .i64 s.cal) := fun y => (HS1.out y).cell 2 rfl
  have S13 : ∀ y : Later W1, y.w.cell? ⟨x1.w.heap.size, 3, none⟩ = some (.int .i64 s.sty) := fun y => (HS1.out y).cell 3 rfl
  have S14 : ∀ y : Later W1, y.w.cell? ⟨x1.w.heap.size, 4, none⟩ = some (.int .i64 s.off) := fun y => (HS1.out y).cell 4 rfl
  have B1 : Hid (∀ y : Later W1, Below w.heap.size w y.w) := fun y => hB0.out ⟨y.w, t1.out y⟩
  rw [← e1]
  clear e1
  refine (KD W1 (B1.out ⟨W1, Below.refl _ _⟩)).mono ?_
  rintro e w2 ⟨rfl, hb⟩
  obtain ⟨x2, rfl⟩ := Later.of hb
  clear hb KD
  have A12 : ∀ (y : Later W1) (ob : Obj), (y.w.alloc ob).cell? ⟨x1.w.heap.size, 2, none⟩ = some (.int .i64 s.cal) := fun y ob => S12 ⟨y.w.alloc ob, y.below.alloc y.below.size ob⟩
  have A13 : ∀ (y : Later W1) (ob : Obj), (y.w.alloc ob).cell? ⟨x1.w.heap.size, 3, none⟩ = some (.int .i64 s.sty) := fun y ob => S13 ⟨y.w.alloc ob, y.below.alloc y.below.size ob⟩
  have A14 : ∀ (y : Later W1) (ob : Obj), (y.w.alloc ob).cell? ⟨x1.w.heap.size, 4, none⟩ = some (.int .i64 s.off) := fun y ob => S14 ⟨y.w.alloc ob, y.below.alloc y.below.size ob⟩
  go_wp2_with fail
  obtain ⟨W2, e2⟩ : ∃ W2, W2 = x2.w.alloc (.cells #[.int .i64 d0, .int .i64 d1, .int .i64 d2, .int .i64 d3] 92) := ⟨_, rfl⟩
  have t2 : Hid (∀ y : Later W2, Below W1.heap.size W1 y.w) := by unfold Hid; rw [e2]; exact fun y => x2.on (below_alloc y.below)
  have HR2 : Hid (∀ y : Later W2, Blk y.w (w.heap.size) #[.string r.name, .int .i64 r.fr, .int .i64 r.to, .slice (some ⟨gs, 0, none⟩) r.segs.length c1, .slice a2 r.pats.length c2, .slice a3 r.rgns.length c3, .int .i64 r.rule] 40) := fun y => HR1.out ⟨y.w, t2.out y⟩
  have HZ2 : Hid (∀ y : Later W2, Blk y.w (w.heap.size + 1) #[.int .i64 0, .int .i64 0, .int .i64 0, .int .i64 0, .int .i64 0] 76) := fun y => HZ1.out ⟨y.w, t2.out y⟩
  have HS2 : Hid (∀ y : Later W2, Blk y.w (x1.w.heap.size) #[.int .i64 s.fr, .int .i64 s.to, .int .i64 s.cal, .int .i64 s.sty, .int .i64 s.off] 90) := fun y => HS1.out ⟨y.w, t2.out y⟩
  have HD2 : Hid (∀ y : Later W2, Blk y.w x2.w.heap.size #[.int .i64 d0, .int .i64 d1, .int .i64 d2, .int .i64 d3] 92) := by unfold Hid; rw [e2]; exact fun y => (Blk.new _ _ _).later y
  have S20 : ∀ y : Later W2, y.w.cell? ⟨x1.w.heap.size, 0, none⟩ = some (.int .i64 s.fr) := fun y => (HS2.out y).cell 0 rfl
  have S21 : ∀ y : Later W2, y.w.cell? ⟨x1.w.heap.size, 1, none⟩ = some (.int .i64 s.to) := fun y => (HS2.out y).cell 1 rfl
  have S22 : ∀ y : Later W2, y.w.cell? ⟨x1.w.heap.size, 2, none⟩ = some (.int .i64 s.cal) := fun y => (HS2.out y).cell 2 rfl
  have S23 : ∀ y : Later W2, y.w.cell? ⟨x1.w.heap.size, 3, none⟩ = some (.int .i64 s.sty) := fun y => (HS2.out y).cell 3 rfl
  have S24 : ∀ y : Later W2, y.w.cell? ⟨x1.w.heap.size, 4, none⟩ = some (.int .i64 s.off) := fun y => (HS2.out y).cell 4 rfl
  have D20 : ∀ y : Later W2, y.w.cell? ⟨x2.w.heap.size, 0, none⟩ = some (.int .i64 d0) := fun y => (HD2.out y).cell 0 rfl
  have D21 : ∀ y : Later W2, y.w.cell? ⟨x2.w.heap.size, 1, none⟩ = some (.int .i64 d1) := fun y => (HD2.out y).cell 1 rfl
  have D22 : ∀ y : Later W2, y.w.cell? ⟨x2.w.heap.size, 2, none⟩ = some (.int .i64 d2) := fun y => (HD2.out y).cell 2 rfl
  have D23 : ∀ y : Later W2, y.w.cell? ⟨x2.w.heap.size, 3, none⟩ = some (.int .i64 d3) := fun y => (HD2.out y).cell 3 rfl
  have R20 : ∀ y : Later W2, y.w.cell? ⟨w.heap.size, 0, none⟩ = some (.string r.name) := fun y => (HR2.out y).cell 0 rfl
  have R21 : ∀ y : Later W2, y.w.cell? ⟨w.heap.size, 1, none⟩ = some (.int .i64 r.fr) := fun y => (HR2.out y).cell 1 rfl
  have R22 : ∀ y : Later W2, y.w.cell? ⟨w.heap.size, 2, none⟩ = some (.int .i64 r.to) := fun y => (HR2.out y).cell 2 rfl
  have R23 : ∀ y : Later W2, y.w.cell? ⟨w.heap.size, 3, none⟩ = some (.slice (some ⟨gs, 0, none⟩) r.segs.length c1) := fun y => (HR2.out y).cell 3 rfl
  have R24 : ∀ y : Later W2, y.w.cell? ⟨w.heap.size, 4, none⟩ = some (.slice a2 r.pats.length c2) := fun y => (HR2.out y).cell 4 rfl
  have R25 : ∀ y : Later W2, y.w.cell? ⟨w.heap.size, 5, none⟩ = some (.slice a3 r.rgns.length c3) := fun y => (HR2.out y).cell 5 rfl
  have R26 : ∀ y : Later W2, y.w.cell? ⟨w.heap.size, 6, none⟩ = some (.int .i64 r.rule) := fun y => (HR2.out y).cell 6 rfl
  have B2 : Hid (∀ y : Later W2, Below w.heap.size w y.w) := fun y => B1.out ⟨y.w, t2.out y⟩
  rw [← e2]
  clear e2 A12 A13 A14 S10 S11 S12 S13 S14
  refine (KY W2 (B2.out ⟨W2, Below.refl _ _⟩)).mono ?_
  rintro e w3 ⟨rfl, hb⟩
  obtain ⟨x3, rfl⟩ := Later.of hb
  clear hb KY
  have A20 : ∀ (y : Later W2) (ob : Obj), (y.w.alloc ob).cell? ⟨w.heap.size, 0, none⟩ = some (.string r.name) := fun y ob => R20 ⟨y.w.alloc ob, y.below.alloc y.below.size ob⟩
  have A21 : ∀ (y : Later W2) (ob : Obj), (y.w.alloc ob).cell? ⟨w.heap.size, 1, none⟩ = some (.int .i64 r.fr) := fun y ob => R21 ⟨y.w.alloc ob, y.below.alloc y.below.size ob⟩
  have A22 : ∀ (y : Later W2) (ob : Obj), (y.w.alloc ob).cell? ⟨w.heap.size, 2, none⟩ = some (.int .i64 r.to) := fun y ob => R22 ⟨y.w.alloc ob, y.below.alloc y.below.size ob⟩
  have A23 : ∀ (y : Later W2) (ob : Obj), (y.w.alloc ob).cell? ⟨w.heap.size, 3, none⟩ = some (.slice (some ⟨gs, 0, none⟩) r.segs.length c1) := fun y ob => R23 ⟨y.w.alloc ob, y.below.alloc y.below.size ob⟩
  have A24 : ∀ (y : Later W2) (ob : Obj), (y.w.alloc ob).cell? ⟨w.heap.size, 4, none⟩ = some (.slice a2 r.pats.length c2) := fun y ob => R24 ⟨y.w.alloc ob, y.below.alloc y.below.size ob⟩
  have A25 : ∀ (y : Later W2) (ob : Obj), (y.w.alloc ob).cell? ⟨w.heap.size, 5, none⟩ = some (.slice a3 r.rgns.length c3) := fun y ob => R25 ⟨y.w.alloc ob, y.below.alloc y.below.size ob⟩
  have A26 : ∀ (y : Later W2) (ob : Obj), (y.w.alloc ob).cell? ⟨w.heap.size, 6, none⟩ = some (.int .i64 r.rule) := fun y ob => R26 ⟨y.w.alloc ob, y.below.alloc y.below.size ob⟩
  go_wp2_with fail
  obtain ⟨W3, e3⟩ : ∃ W3, W3 = x3.w.alloc (.cells #[.int .i64 s.cal, .int .i64 y0, .int .i64 d1, .int .i64 d2, .int .i64 d3] 76) := ⟨_, rfl⟩
  have t3 : Hid (∀ y : Later W3, Below W2.heap.size W2 y.w) := by unfold Hid; rw [e3]; exact fun y => x3.on (below_alloc y.below)
  have HR3 : Hid (∀ y : Later W3, Blk y.w (w.heap.size) #[.string r.name, .int .i64 r.fr, .int .i64 r.to, .slice (some ⟨gs, 0, none⟩) r.segs.length c1, .slice a2 r.pats.length c2, .slice a3 r.rgns.length c3, .int .i64 r.rule] 40) := fun y => HR2.out ⟨y.w, t3.out y⟩
  have HZ3 : Hid (∀ y : Later W3, Blk y.w (w.heap.size + 1) #[.int .i64 0, .int .i64 0, .int .i64 0, .int .i64 0, .int .i64 0] 76) := fun y => HZ2.out ⟨y.w, t3.out y⟩
  have HX3 : Hid (∀ y : Later W3, Blk y.w x3.w.heap.size #[.int .i64 s.cal, .int .i64 y0, .int .i64 d1, .int .i64 d2, .int .i64 d3] 76) := by unfold Hid; rw [e3]; exact fun y => (Blk.new _ _ _).later y
  have R30 : ∀ y : Later W3, y.w.cell? ⟨w.heap.size, 0, none⟩ = some (.string r.name) := fun y => (HR3.out y).cell 0 rfl
  have R31 : ∀ y : Later W3, y.w.cell? ⟨w.heap.size, 1, none⟩ = some (.int .i64 r.fr) := fun y => (HR3.out y).cell 1 rfl
  have R32 : ∀ y : Later W3, y.w.cell? ⟨w.heap.size, 2, none⟩ = some (.int .i64 r.to) := fun y => (HR3.out y).cell 2 rfl
  have R33 : ∀ y : Later W3, y.w.cell? ⟨w.heap.size, 3, none⟩ = some (.slice (some ⟨gs, 0, none⟩) r.segs.length c1) := fun y => (HR3.out y).cell 3 rfl
  have R34 : ∀ y : Later W3, y.w.cell? ⟨w.heap.size, 4, none⟩ = some (.slice a2 r.pats.length c2) := fun y => (HR3.out y).cell 4 rfl
  have R35 : ∀ y : Later W3, y.w.cell? ⟨w.heap.size, 5, none⟩ = some (.slice a3 r.rgns.length c3) := fun y => (HR3.out y).cell 5 rfl
  have R36 : ∀ y : Later W3, y.w.cell? ⟨w.heap.size, 6, none⟩ = some (.int .i64 r.rule) := fun y => (HR3.out y).cell 6 rfl
  have X30 : ∀ y : Later W3, y.w.cell? ⟨x3.w.heap.size, 0, none⟩ = some (.int .i64 s.cal) := fun y => (HX3.out y).cell 0 rfl
  have X31 : ∀ y : Later W3, y.w.cell? ⟨x3.w.heap.size, 1, none⟩ = some (.int .i64 y0) := fun y => (HX3.out y).cell 1 rfl
  have X32 : ∀ y : Later W3, y.w.cell? ⟨x3.w.heap.size, 2, none⟩ = some (.int .i64 d1) := fun y => (HX3.out y).cell 2 rfl
  have X33 : ∀ y : Later W3, y.w.cell? ⟨x3.w.heap.size, 3, none⟩ = some (.int .i64 d2) := fun y => (HX3.out y).cell 3 rfl
  have X34 : ∀ y : Later W3, y.w.cell? ⟨x3.w.heap.size, 4, none⟩ = some (.int .i64 d3) := fun y => (HX3.out y).cell 4 rfl
  have Z30 : ∀ y : Later W3, y.w.cell? ⟨w.heap.size + 1, 0, none⟩ = some (.int .i64 0) := fun y => (HZ3.out y).cell 0 rfl
  have Z31 : ∀ y : Later W3, y.w.cell? ⟨w.heap.size + 1, 1, none⟩ = some (.int .i64 0) := fun y => (HZ3.out y).cell 1 rfl
  have Z32 : ∀ y : Later W3, y.w.cell? ⟨w.heap.size + 1, 2, none⟩ = some (.int .i64 0) := fun y => (HZ3.out y).cell 2 rfl
  have Z33 : ∀ y : Later W3, y.w.cell? ⟨w.heap.size + 1, 3, none⟩ = some (.int .i64 0) := fun y => (HZ3.out y).cell 3 rfl
  have Z34 : ∀ y : Later W3, y.w.cell? ⟨w.heap.size + 1, 4, none⟩ = some (.int .i64 0) := fun y => (HZ3.out y).cell 4 rfl
  have fX33 : ∀ y : Later W3, y.w.frozen? ⟨x3.w.heap.size, 3, none⟩ = false := fun y => (HX3.out y).thaw 3
  have fX34 : ∀ y : Later W3, y.w.frozen? ⟨x3.w.heap.size, 4, none⟩ = false := fun y => (HX3.out y).thaw 4
  have fZ30 : ∀ y : Later W3, y.w.frozen? ⟨w.heap.size + 1, 0, none⟩ = false := fun y => (HZ3.out y).thaw 0
  have fZ31 : ∀ y : Later W3, y.w.frozen? ⟨w.heap.size + 1, 1, none⟩ = false := fun y => (HZ3.out y).thaw 1
  have fZ32 : ∀ y : Later W3, y.w.frozen? ⟨w.heap.size + 1, 2, none⟩ = false := fun y => (HZ3.out y).thaw 2
  have fZ33 : ∀ y : Later W3, y.w.frozen? ⟨w.heap.size + 1, 3, none⟩ = false := fun y => (HZ3.out y).thaw 3
  have fZ34 : ∀ y : Later W3, y.w.frozen? ⟨w.heap.size + 1, 4, none⟩ = false := fun y => (HZ3.out y).thaw 4
  have B3 : Hid (∀ y : Later W3, Below w.heap.size w y.w) := fun y => B2.out ⟨y.w, t3.out y⟩
  have T3 : Hid (∀ y : Later W3, Below W0.heap.size W0 y.w) := fun y => (Later.mk (W := W1) _ (t2.out ⟨y.w, t3.out y⟩)).below.trans (Below.refl _ _) |> fun h => t1.out ⟨y.w, h⟩
  rw [← e3]
  have q3 : Below W0.heap.size W0 W3 := T3.out ⟨W3, Below.refl _ _⟩
  clear e3 A20 A21 A22 A23 A24 A25 A26 R20 R21 R22 R23 R24 R25 R26 S20 S21 S22 S23 S24 D20 D21 D22 D23 R00 R01 R02 R03 R04 R05 R06
  refine (KP ⟨W3, q3⟩).mono ?_
  rintro e w4 ⟨rfl, hb⟩
  obtain ⟨x4, rfl⟩ := Later.of (W := W3) hb
  clear hb KP q3
  rcases hpc with rfl | ⟨k, hk, rfl⟩
  · rw [if_neg (by omega)] at hmo hdy
    subst hmo
    subst hdy
    go_wp2
    obtain ⟨W9, e9⟩ : ∃ W9, W9 = ((((x4.w.setCell ⟨w.heap.size + 1, 0, none⟩ (.int .i64 s.cal)).setCell ⟨w.heap.size + 1, 1, none⟩ (.int .i64 y0)).setCell ⟨w.heap.size + 1, 2, none⟩ (.int .i64 d1)).setCell ⟨w.heap.size + 1, 3, none⟩ (.int .i64 d2)).setCell ⟨w.heap.size + 1, 4, none⟩ (.int .i64 d3) := ⟨_, rfl⟩
    have Z9 : Blk W9 (w.heap.size + 1) #[.int .i64 s.cal, .int .i64 y0, .int .i64 d1, .int .i64 d2, .int .i64 d3] 76 := by rw [e9]; exact ((((((HZ3.out x4).set 0 _).set 1 _).set 2 _).set 3 _).set 4 _)
    have B9 : Below w.heap.size w W9 := by rw [e9]; exact (Below.setCell (Below.setCell (Below.setCell (Below.setCell (Below.setCell (B3.out x4) (p := ⟨w.heap.size + 1, 0, none⟩) (show w.heap.size ≤ w.heap.size + 1 by omega) _) (p := ⟨w.heap.size + 1, 1, none⟩) (show w.heap.size ≤ w.heap.size + 1 by omega) _) (p := ⟨w.heap.size + 1, 2, none⟩) (show w.heap.size ≤ w.heap.size + 1 by omega) _) (p := ⟨w.heap.size + 1, 3, none⟩) (show w.heap.size ≤ w.heap.size + 1 by omega) _) (p := ⟨w.heap.size + 1, 4, none⟩) (show w.heap.size ≤ w.heap.size + 1 by omega) _)
    rw [← e9]
    clear e9
    have q0 : W9.cell? ⟨w.heap.size + 1, 0, none⟩ = some (.int .i64 s.cal) := Z9.cell 0 rfl
    have q1 : W9.cell? ⟨w.heap.size + 1, 1, none⟩ = some (.int .i64 y0) := Z9.cell 1 rfl
    have q2 : W9.cell? ⟨w.heap.size + 1, 2, none⟩ = some (.int .i64 d1) := Z9.cell 2 rfl
    have q3 : W9.cell? ⟨w.heap.size + 1, 3, none⟩ = some (.int .i64 d2) := Z9.cell 3 rfl
    have q4 : W9.cell? ⟨w.heap.size + 1, 4, none⟩ = some (.int .i64 d3) := Z9.cell 4 rfl
    exact bodyPost_ret (by simp [results, Tryz.results48, go_sem, q0, q1, q2, q3, q4]; try rfl) rfl ⟨rfl, B9⟩
  · rw [if_pos (by omega), Int.toNat_natCast] at hmo hdy
    obtain ⟨g, rfl, hgw, xp⟩ := HP.out x4.w (B3.out x4) k hk
    obtain ⟨c0, c1', c2'⟩ := xp.pat
    have hkz : (k : Int) < (r.pats.length : Int) := by omega
    have hx3 : w.heap.size + 1 < x3.w.heap.size := by
      have := (HZ2.out x3).lt
      omega
    have hG : g ≠ x3.w.heap.size := by omega
    have hGr : w.heap.size ≠ x3.w.heap.size := by omega
    have hGz : x3.w.heap.size ≠ w.heap.size + 1 := by omega
    rw [hmo] at c1'
    rw [hdy] at c2'
    clear HP xp hmo hdy
    have k1 : ∀ u : Value, (x4.w.setCell ⟨x3.w.heap.size, 3, none⟩ u).cell? ⟨w.heap.size, 4, none⟩ = some (.slice (some ⟨g, 0, none⟩) r.pats.length c2) := fun u => ((HR3.out x4).other (i := 3) (v := u) (Ne.symm hGr)).cell 4 rfl
    have k2 : ∀ u : Value, (x4.w.setCell ⟨x3.w.heap.size, 3, none⟩ u).cell? ⟨g, k * 3 + 2, none⟩ = some (.int .i64 dy) := fun u => (World.cell?_setCell_other x4.w ⟨x3.w.heap.size, 3, none⟩ ⟨g, k * 3 + 2, none⟩ u (by intro e; exact hG (by first | exact congrArg Addr.block e | exact (congrArg Addr.block e).symm))).trans c2'
    have k3 : ∀ u : Value, (x4.w.setCell ⟨x3.w.heap.size, 3, none⟩ u).frozen? ⟨x3.w.heap.size, 4, none⟩ = false := fun u => ((HX3.out x4).set 3 u).thaw 4
    have k4 : ∀ u : Value, (x4.w.setCell ⟨x3.w.heap.size, 3, none⟩ u).cell? ⟨x3.w.heap.size, 4, none⟩ = some (.int .i64 d3) := fun u => ((HX3.out x4).set 3 u).cell 4 rfl
    have l0 : ∀ u u2 : Value, ((x4.w.setCell ⟨x3.w.heap.size, 3, none⟩ u).setCell ⟨x3.w.heap.size, 4, none⟩ u2).cell? ⟨x3.w.heap.size, 0, none⟩ = some (.int .i64 s.cal) := fun u u2 => (((HX3.out x4).set 3 u).set 4 u2).cell 0 rfl
    have l1 : ∀ u u2 : Value, ((x4.w.setCell ⟨x3.w.heap.size, 3, none⟩ u).setCell ⟨x3.w.heap.size, 4, none⟩ u2).cell? ⟨x3.w.heap.size, 1, none⟩ = some (.int .i64 y0) := fun u u2 => (((HX3.out x4).set 3 u).set 4 u2).cell 1 rfl
    have l2 : ∀ u u2 : Value, ((x4.w.setCell ⟨x3.w.heap.size, 3, none⟩ u).setCell ⟨x3.w.heap.size, 4, none⟩ u2).cell? ⟨x3.w.heap.size, 2, none⟩ = some (.int .i64 d1) := fun u u2 => (((HX3.out x4).set 3 u).set 4 u2).cell 2 rfl
    have l3 : ∀ u u2 : Value, ((x4.w.setCell ⟨x3.w.heap.size, 3, none⟩ u).setCell ⟨x3.w.heap.size, 4, none⟩ u2).cell? ⟨x3.w.heap.size, 3, none⟩ = some (u) := fun u u2 => (((HX3.out x4).set 3 u).set 4 u2).cell 3 rfl
    have l4 : ∀ u u2 : Value, ((x4.w.setCell ⟨x3.w.heap.size, 3, none⟩ u).setCell ⟨x3.w.heap.size, 4, none⟩ u2).cell? ⟨x3.w.heap.size, 4, none⟩ = some (u2) := fun u u2 => (((HX3.out x4).set 3 u).set 4 u2).cell 4 rfl
    have m0 : ∀ u u2 : Value, ((x4.w.setCell ⟨x3.w.heap.size, 3, none⟩ u).setCell ⟨x3.w.heap.size, 4, none⟩ u2).frozen? ⟨w.heap.size + 1, 0, none⟩ = false := fun u u2 => (((HZ3.out x4).other (i := 3) (v := u) hGz).other (i := 4) (v := u2) hGz).thaw 0
    have p0 : ∀ u u2 : Value, ((x4.w.setCell ⟨x3.w.heap.size, 3, none⟩ u).setCell ⟨x3.w.heap.size, 4, none⟩ u2).cell? ⟨w.heap.size + 1, 0, none⟩ = some (.int .i64 0) := fun u u2 => (((HZ3.out x4).other (i := 3) (v := u) hGz).other (i := 4) (v := u2) hGz).cell 0 rfl
    have m1 : ∀ u u2 : Value, ((x4.w.setCell ⟨x3.w.heap.size, 3, none⟩ u).setCell ⟨x3.w.heap.size, 4, none⟩ u2).frozen? ⟨w.heap.size + 1, 1, none⟩ = false := fun u u2 => (((HZ3.out x4).other (i := 3) (v := u) hGz).other (i := 4) (v := u2) hGz).thaw 1
    have p1 : ∀ u u2 : Value, ((x4.w.setCell ⟨x3.w.heap.size, 3, none⟩ u).setCell ⟨x3.w.heap.size, 4, none⟩ u2).cell? ⟨w.heap.size + 1, 1, none⟩ = some (.int .i64 0) := fun u u2 => (((HZ3.out x4).other (i := 3) (v := u) hGz).other (i := 4) (v := u2) hGz).cell 1 rfl
    have m2 : ∀ u u2 : Value, ((x4.w.setCell ⟨x3.w.heap.size, 3, none⟩ u).setCell ⟨x3.w.heap.size, 4, none⟩ u2).frozen? ⟨w.heap.size + 1, 2, none⟩ = false := fun u u2 => (((HZ3.out x4).other (i := 3) (v := u) hGz).other (i := 4) (v := u2) hGz).thaw 2
    have p2 : ∀ u u2 : Value, ((x4.w.setCell ⟨x3.w.heap.size, 3, none⟩ u).setCell ⟨x3.w.heap.size, 4, none⟩ u2).cell? ⟨w.heap.size + 1, 2, none⟩ = some (.int .i64 0) := fun u u2 => (((HZ3.out x4).other (i := 3) (v := u) hGz).other (i := 4) (v := u2) hGz).cell 2 rfl
    have m3 : ∀ u u2 : Value, ((x4.w.setCell ⟨x3.w.heap.size, 3, none⟩ u).setCell ⟨x3.w.heap.size, 4, none⟩ u2).frozen? ⟨w.heap.size + 1, 3, none⟩ = false := fun u u2 => (((HZ3.out x4).other (i := 3) (v := u) hGz).other (i := 4) (v := u2) hGz).thaw 3
    have p3 : ∀ u u2 : Value, ((x4.w.setCell ⟨x3.w.heap.size, 3, none⟩ u).setCell ⟨x3.w.heap.size, 4, none⟩ u2).cell? ⟨w.heap.size + 1, 3, none⟩ = some (.int .i64 0) := fun u u2 => (((HZ3.out x4).other (i := 3) (v := u) hGz).other (i := 4) (v := u2) hGz).cell 3 rfl
    have m4 : ∀ u u2 : Value, ((x4.w.setCell ⟨x3.w.heap.size, 3, none⟩ u).setCell ⟨x3.w.heap.size, 4, none⟩ u2).frozen? ⟨w.heap.size + 1, 4, none⟩ = false := fun u u2 => (((HZ3.out x4).other (i := 3) (v := u) hGz).other (i := 4) (v := u2) hGz).thaw 4
    have p4 : ∀ u u2 : Value, ((x4.w.setCell ⟨x3.w.heap.size, 3, none⟩ u).setCell ⟨x3.w.heap.size, 4, none⟩ u2).cell? ⟨w.heap.size + 1, 4, none⟩ = some (.int .i64 0) := fun u u2 => (((HZ3.out x4).other (i := 3) (v := u) hGz).other (i := 4) (v := u2) hGz).cell 4 rfl
    go_wp2
    obtain ⟨W9, e9⟩ : ∃ W9, W9 = ((((((x4.w.setCell ⟨x3.w.heap.size, 3, none⟩ (.int .i64 mo)).setCell ⟨x3.w.heap.size, 4, none⟩ (.int .i64 dy)).setCell ⟨w.heap.size + 1, 0, none⟩ (.int .i64 s.cal)).setCell ⟨w.heap.size + 1, 1, none⟩ (.int .i64 y0)).setCell ⟨w.heap.size + 1, 2, none⟩ (.int .i64 d1)).setCell ⟨w.heap.size + 1, 3, none⟩ (.int .i64 mo)).setCell ⟨w.heap.size + 1, 4, none⟩ (.int .i64 dy) := ⟨_, rfl⟩
    have Z9 : Blk W9 (w.heap.size + 1) #[.int .i64 s.cal, .int .i64 y0, .int .i64 d1, .int .i64 mo, .int .i64 dy] 76 := by rw [e9]; exact ((((((((HZ3.out x4).other (i := 3) hGz).other (i := 4) hGz).set 0 _).set 1 _).set 2 _).set 3 _).set 4 _)
    have B9 : Below w.heap.size w W9 := by rw [e9]; exact (Below.setCell (Below.setCell (Below.setCell (Below.setCell (Below.setCell (Below.setCell (Below.setCell (B3.out x4) (p := ⟨x3.w.heap.size, 3, none⟩) (show w.heap.size ≤ x3.w.heap.size by omega) _) (p := ⟨x3.w.heap.size, 4, none⟩) (show w.heap.size ≤ x3.w.heap.size by omega) _) (p := ⟨w.heap.size + 1, 0, none⟩) (show w.heap.size ≤ w.heap.size + 1 by omega) _) (p := ⟨w.heap.size + 1, 1, none⟩) (show w.heap.size ≤ w.heap.size + 1 by omega) _) (p := ⟨w.heap.size + 1, 2, none⟩) (show w.heap.size ≤ w.heap.size + 1 by omega) _) (p := ⟨w.heap.size + 1, 3, none⟩) (show w.heap.size ≤ w.heap.size + 1 by omega) _) (p := ⟨w.heap.size + 1, 4, none⟩) (show w.heap.size ≤ w.heap.size + 1 by omega) _)
    rw [← e9]
    clear e9
    have q0 : W9.cell? ⟨w.heap.size + 1, 0, none⟩ = some (.int .i64 s.cal) := Z9.cell 0 rfl
    have q1 : W9.cell? ⟨w.heap.size + 1, 1, none⟩ = some (.int .i64 y0) := Z9.cell 1 rfl
    have q2 : W9.cell? ⟨w.heap.size + 1, 2, none⟩ = some (.int .i64 d1) := Z9.cell 2 rfl
    have q3 : W9.cell? ⟨w.heap.size + 1, 3, none⟩ = some (.int .i64 mo) := Z9.cell 3 rfl
    have q4 : W9.cell? ⟨w.heap.size + 1, 4, none⟩ = some (.int .i64 dy) := Z9.cell 4 rfl
    exact bodyPost_ret (by simp [results, Tryz.results48, go_sem, q0, q1, q2, q3, q4]; try rfl) rfl ⟨rfl, B9⟩
end Go.Proofs.YtdgolaaheakfoaaGreatDoor.ctr
