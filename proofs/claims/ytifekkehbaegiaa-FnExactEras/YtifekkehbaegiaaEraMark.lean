/- Contracts of the laws' own helpers over lists of eras (eqEraS, markEraS, heldEraS): two lists alike are told alike; marks are written into a list's own row, and found there again; nothing else turns. -/
import Derived.Test.YtifekkehbaegiaaEraSpec
import Derived.Test.YtifekkehbaegiaaMarkCtr
namespace Go.Proofs.Ytifekkehbaegiaa.ctr
open Go.RowKit

theorem eqEra1 (s : ByteArray) (st ad cy : Int) (w : World) : Calls Try.prog 23 #[.agg #[.string s, .int .i64 st, .int .i64 ad, .int .i64 cy], .agg #[.string s, .int .i64 st, .int .i64 ad, .int .i64 cy]] w fun e w' => e = .returned (.bool true) ∧ Below w.heap.size w w' := by
  go_enter Try.func23, Try.ntmps23
  go_wp2
  go_ret
  exact ⟨rfl, ((Below.refl _ _).alloc (Nat.le_refl _) _).alloc (by rw [enew]; omega) _⟩

set_option maxHeartbeats 2000000 in
theorem eqEras (v1 v2 : Value) (w : World) (h1 : EraRow w v1) (h2 : EraRow w v2) : Calls Try.prog 12 #[v1, v2] w fun e w' => e = .returned (.bool true) ∧ Below w.heap.size w w' := by
  obtain ⟨g1, c1, rfl, hg1, H1⟩ := h1.at
  obtain ⟨g2, c2, rfl, hg2, H2⟩ := h2.at
  have K1 := hideP H1
  have K2 := hideP H2
  clear h1 h2 H1 H2
  go_enter Try.func12, Try.ntmps12
  go_wp2
  go_loopw [5] (fun i wr => ∃ k : Nat, k ≤ 9 ∧ i = .int .i64 (k : Int) ∧ Below w.heap.size w wr) (fun i _ => 9 - (intOf i).toNat)
  case atStart => exact ⟨0, Nat.zero_le _, rfl, Below.refl _ _⟩
  case round =>
    obtain ⟨k, hk, rfl, hb⟩ := hrel
    have HB := hideP hb
    clear hb
    by_cases hlt : k < 9
    · obtain ⟨a0, a1, a2, a3⟩ := K1.out wr HB.out k hlt
      obtain ⟨b0, b1, b2, b3⟩ := K2.out wr HB.out k hlt
      generalize eraAt k = f at *
      obtain ⟨s, st, ad, cy⟩ := f
      go_wp2
      go_region_with (go_at_call 23; refine (eqEra1 s st ad cy _).mono ?_; rintro e w2 ⟨rfl, hb2⟩; have HB2 : Hid (Below w.heap.size w w2) := HB.out.trans ⟨hb2.os, hb2.tape, hb2.output, Nat.le_trans (Nat.le_refl _) hb2.size, fun j hj => hb2.block j (Nat.lt_of_lt_of_le hj HB.out.size)⟩; clear hb2)
      all_goals go_wp2
      all_goals exact ⟨⟨k + 1, by omega, by go_num, HB2.out⟩, by simp [intOf]; omega⟩
    · go_wp2
      go_ret
      exact ⟨rfl, HB.out⟩

/-- The mark of the q-th cell of a row of eras. -/
def emark (q : Nat) : Value := if q % 4 = 0 then .string (mk (q + 1)) else .int .i64 ((q + 1 : Nat) : Int)
theorem emark0 (k : Nat) : emark (k * 4) = .string (mk (k * 4 + 1)) := by unfold emark; rw [if_pos (by omega)]
theorem emark1 (k : Nat) : emark (k * 4 + 1) = .int .i64 ((k * 4 + 2 : Nat) : Int) := by unfold emark; rw [if_neg (by omega)]
theorem emark2 (k : Nat) : emark (k * 4 + 2) = .int .i64 ((k * 4 + 3 : Nat) : Int) := by unfold emark; rw [if_neg (by omega)]
theorem emark3 (k : Nat) : emark (k * 4 + 3) = .int .i64 ((k * 4 + 4 : Nat) : Int) := by unfold emark; rw [if_neg (by omega)]
def EMarked (W : World) (g n : Nat) : Prop := ∀ q, q < n → W.cell? ⟨g, q, none⟩ = some (emark q)
theorem EMarked.set {W : World} {g n : Nat} {u : Value} (h : EMarked W g n) (hu : W.cell? ⟨g, n, none⟩ = some u) {v : Value} (hv : emark n = v) : EMarked (W.setCell ⟨g, n, none⟩ v) g (n + 1) := fun q hq => by
  by_cases e : q = n
  · subst e
    rw [hv]
    exact World.cell?_setCell_same W _ _ hu
  · rw [World.cell?_setCell_other W _ _ _ (by intro h; injection h with _ h2; exact e h2.symm)]
    exact h q (by omega)
theorem EMarked.below {W W' : World} {g n B : Nat} (h : EMarked W g n) (hb : Below B W W') (hg : g < B) : EMarked W' g n := fun q hq => (hb.cell (p := ⟨g, q, none⟩) hg).trans (h q hq)
/-- What a row that is marked up to n, and owned up to 36, is after the next four stores. -/
theorem mark4 {W : World} {g k : Nat} (hk : k < 9) (h : EMarked W g (k * 4)) (ho : OwnRow W g 36) {v0 v1 v2 v3 : Value} (e0 : emark (k * 4) = v0) (e1 : emark (k * 4 + 1) = v1) (e2 : emark (k * 4 + 2) = v2) (e3 : emark (k * 4 + 3) = v3) :
    EMarked ((((W.setCell ⟨g, k * 4, none⟩ v0).setCell ⟨g, k * 4 + 1, none⟩ v1).setCell ⟨g, k * 4 + 2, none⟩ v2).setCell ⟨g, k * 4 + 3, none⟩ v3) g ((k + 1) * 4) ∧
    OwnRow ((((W.setCell ⟨g, k * 4, none⟩ v0).setCell ⟨g, k * 4 + 1, none⟩ v1).setCell ⟨g, k * 4 + 2, none⟩ v2).setCell ⟨g, k * 4 + 3, none⟩ v3) g 36 ∧
    W.grownBy ((((W.setCell ⟨g, k * 4, none⟩ v0).setCell ⟨g, k * 4 + 1, none⟩ v1).setCell ⟨g, k * 4 + 2, none⟩ v2).setCell ⟨g, k * 4 + 3, none⟩ v3) (some g) := by
  have o1 := own_set ho (k * 4) (by omega) v0
  have o2 := own_set o1 (k * 4 + 1) (by omega) v1
  have o3 := own_set o2 (k * 4 + 2) (by omega) v2
  have o4 := own_set o3 (k * 4 + 3) (by omega) v3
  obtain ⟨⟨u0, h0⟩, _⟩ := ho (k * 4) (by omega)
  obtain ⟨⟨u1, h1⟩, _⟩ := o1 (k * 4 + 1) (by omega)
  obtain ⟨⟨u2, h2⟩, _⟩ := o2 (k * 4 + 2) (by omega)
  obtain ⟨⟨u3, h3⟩, _⟩ := o3 (k * 4 + 3) (by omega)
  refine ⟨?_, o4, mgrown_trans (mgrown_trans (mgrown_trans (mgrown_set _ _ _ _) (mgrown_set _ _ _ _)) (mgrown_set _ _ _ _)) (mgrown_set _ _ _ _)⟩
  rw [show (k + 1) * 4 = k * 4 + 3 + 1 by omega]
  exact (((h.set h0 e0).set h1 e1).set h2 e2).set h3 e3
theorem own_bel {W W' : World} {g n B : Nat} (h : OwnRow W g n) (hb : Below B W W') (hg : g < B) : OwnRow W' g n := fun j hj => by
  obtain ⟨⟨u, hu⟩, hf⟩ := h j hj
  exact ⟨⟨u, (hb.cell (p := ⟨g, j, none⟩) hg).trans hu⟩, (hb.frozen (p := ⟨g, j, none⟩) hg).trans hf⟩

set_option maxHeartbeats 2000000 in
theorem markEras (g cap : Nat) (w : World) (hg : g < w.heap.size) (ho : OwnRow w g 36) :
    Calls Try.prog 13 #[.slice (some ⟨g, 0, none⟩) 9 cap, .int .i64 1] w fun e w' => e = .returned (.int .i64 37) ∧ w.grownBy w' (some g) ∧ EMarked w' g 36 := by
  have HO := hideP ho
  clear ho
  go_enter Try.func13, Try.ntmps13
  go_wp2
  go_loopw [1, 5] (fun t i wr => ∃ k : Nat, k ≤ 9 ∧ i = .int .i64 (k : Int) ∧ t = .int .i64 ((k * 4 + 1 : Nat) : Int) ∧ w.grownBy wr (some g) ∧ OwnRow wr g 36 ∧ EMarked wr g (k * 4)) (fun _ i _ => 9 - (intOf i).toNat)
  case atStart => exact ⟨0, Nat.zero_le _, rfl, rfl, ⟨rfl, rfl, rfl, Nat.le_refl _, fun _ _ _ => rfl⟩, HO.out, fun q hq => by omega⟩
  case round =>
    obtain ⟨k, hk, rfl, rfl, hG, hOw, hM⟩ := hrel
    have HG := hideP hG
    have HW := hideP hOw
    have HM := hideP hM
    clear hG hOw hM
    by_cases hlt : k < 9
    · go_wp2_with fail
      rw [show ((k : Int) * 4 + 1) = ((k * 4 + 1 : Nat) : Int) from by omega]
      refine (markText (k * 4 + 1) _ (by omega) (by omega)).mono ?_
      rintro e w2 ⟨rfl, hb2⟩
      have hgw : g < wr.heap.size := Nat.lt_of_lt_of_le hg HG.out.size
      have hO2 := own_bel HW.out hb2 hgw
      obtain ⟨⟨u0, h0⟩, f0⟩ := hO2 (k * 4) (by omega)
      obtain ⟨⟨u1, h1⟩, f1⟩ := hO2 (k * 4 + 1) (by omega)
      obtain ⟨⟨u2, h2⟩, f2⟩ := hO2 (k * 4 + 2) (by omega)
      obtain ⟨⟨u3, h3⟩, f3⟩ := hO2 (k * 4 + 3) (by omega)
      have HO2 := hideP hO2
      have HM2 := hideP (HM.out.below hb2 hgw)
      have HG2 : Hid (w.grownBy w2 (some g)) := mgrown_trans HG.out ⟨hb2.os, hb2.tape, hb2.output, hb2.size, fun j hj _ => hb2.block j hj⟩
      clear hO2 hb2
      go_wp2
      have M := mark4 hlt HM2.out HO2.out (emark0 k) (v1 := .int .i64 ((k : Int) * 4 + 1 + 1)) (by rw [emark1]; apply congrArg (Value.int .i64); omega) (v2 := .int .i64 ((k : Int) * 4 + 1 + 1 + 1)) (by rw [emark2]; apply congrArg (Value.int .i64); omega) (v3 := .int .i64 ((k : Int) * 4 + 1 + 1 + 1 + 1)) (by rw [emark3]; apply congrArg (Value.int .i64); omega)
      exact ⟨⟨k + 1, by omega, by go_num, by apply congrArg (Value.int .i64); omega, mgrown_trans HG2.out M.2.2, M.2.1, M.1⟩, by simp [intOf]; omega⟩
    · have hkn : k = 9 := by omega
      subst hkn
      go_wp2
      go_ret
      exact ⟨rfl, HG.out, HM.out⟩

set_option maxHeartbeats 2000000 in
theorem heldEras (g cap : Nat) (w : World) (hg : g < w.heap.size) (hM : EMarked w g 36) :
    Calls Try.prog 14 #[.slice (some ⟨g, 0, none⟩) 9 cap, .int .i64 1] w fun e w' => e = .returned (.int .i64 37) ∧ Below w.heap.size w w' := by
  have HM := hideP hM
  clear hM
  go_enter Try.func14, Try.ntmps14
  go_wp2
  go_loopw [1, 5] (fun t i wr => ∃ k : Nat, k ≤ 9 ∧ i = .int .i64 (k : Int) ∧ t = .int .i64 ((k * 4 + 1 : Nat) : Int) ∧ Below w.heap.size w wr) (fun _ i _ => 9 - (intOf i).toNat)
  case atStart => exact ⟨0, Nat.zero_le _, rfl, rfl, Below.refl _ _⟩
  case round =>
    obtain ⟨k, hk, rfl, rfl, hB⟩ := hrel
    have HB := hideP hB
    clear hB
    by_cases hlt : k < 9
    · have m0 := (HM.out.below HB.out hg) (k * 4) (by omega)
      have HT : Hid (∀ w2, Below wr.heap.size wr w2 → (w2.cell? ⟨g, k * 4, none⟩ = some (.string (mk (k * 4 + 1))) ∧ w2.cell? ⟨g, k * 4 + 1, none⟩ = some (.int .i64 ((k : Int) * 4 + 1 + 1)) ∧ w2.cell? ⟨g, k * 4 + 2, none⟩ = some (.int .i64 ((k : Int) * 4 + 1 + 1 + 1)) ∧ w2.cell? ⟨g, k * 4 + 3, none⟩ = some (.int .i64 ((k : Int) * 4 + 1 + 1 + 1 + 1))) ∧ Below w.heap.size w w2) := fun w2 hb2 => by
        have hb : Below w.heap.size w w2 := HB.out.trans (hb2.mono HB.out.size)
        have m := HM.out.below hb hg
        refine ⟨⟨?_, ?_, ?_, ?_⟩, hb⟩
        · rw [m (k * 4) (by omega), emark0]
        · rw [m (k * 4 + 1) (by omega), emark1]
          apply congrArg some
          apply congrArg (Value.int .i64)
          omega
        · rw [m (k * 4 + 2) (by omega), emark2]
          apply congrArg some
          apply congrArg (Value.int .i64)
          omega
        · rw [m (k * 4 + 3) (by omega), emark3]
          apply congrArg some
          apply congrArg (Value.int .i64)
          omega
      rw [emark0] at m0
      go_wp2
      go_region_with (go_at_call 24; rw [show ((k : Int) * 4 + 1) = ((k * 4 + 1 : Nat) : Int) from by omega]; refine (markText (k * 4 + 1) _ (by omega) (by omega)).mono ?_; rintro e w2 ⟨rfl, hb2⟩; obtain ⟨⟨c0, c1, c2, c3⟩, hb3⟩ := HT.out w2 ⟨hb2.os, hb2.tape, hb2.output, hb2.size, hb2.block⟩; have HB2 := hideP hb3; clear hb2 hb3)
      all_goals go_wp2
      all_goals exact ⟨⟨k + 1, by omega, by go_num, by apply congrArg (Value.int .i64); omega, HB2.out⟩, by simp [intOf]; omega⟩
    · have hkn : k = 9 := by omega
      subst hkn
      go_wp2
      go_ret
      exact ⟨rfl, HB.out⟩
end Go.Proofs.Ytifekkehbaegiaa.ctr
