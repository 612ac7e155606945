/- Contracts of the laws' own helpers over lists of feasts (eqFeastS, markFeastS, heldFeastS): two lists alike are told alike; marks are written into a list's own row, and found there again; nothing else turns. -/
import Derived.Test.YtaahkfdledahdaaFeaImpl2
import Derived.Test.YtaahkfdledahdaaMarkCtr
namespace Go.Proofs.Ytaahkfdledahdaa.ctr
open Go.RowKit

theorem eqFea (s : ByteArray) (mv : Bool) (o m d : Int) (w : World) : Calls Try.prog 18 #[.agg #[.string s, .bool mv, .int .i64 o, .int .i64 m, .int .i64 d], .agg #[.string s, .bool mv, .int .i64 o, .int .i64 m, .int .i64 d]] w fun e w' => e = .returned (.bool true) ∧ Below w.heap.size w w' := by
  go_enter Try.func18, Try.ntmps18
  go_wp2
  go_ret
  exact ⟨rfl, ((Below.refl _ _).alloc (Nat.le_refl _) _).alloc (by rw [sz_new]; omega) _⟩
theorem FeaRow.at {W : World} {v : Value} (h : FeaRow W v) : ∃ g cap, v = .slice (some ⟨g, 0, none⟩) 20 cap ∧ g < W.heap.size ∧ ∀ W', Below W.heap.size W W' → ∀ k, k < 20 → W'.cell? ⟨g, k * 5, none⟩ = some (.string (feaAt k).name) ∧ W'.cell? ⟨g, k * 5 + 1, none⟩ = some (.bool (feaAt k).mv) ∧ W'.cell? ⟨g, k * 5 + 2, none⟩ = some (.int .i64 (feaAt k).off) ∧ W'.cell? ⟨g, k * 5 + 3, none⟩ = some (.int .i64 (feaAt k).m) ∧ W'.cell? ⟨g, k * 5 + 4, none⟩ = some (.int .i64 (feaAt k).d) := by
  obtain ⟨g, cap, hv, hg, hc⟩ := h
  refine ⟨g, cap, hv, hg, fun W' hb k hk => ?_⟩
  have e := fun j hj => (hb.cell (p := ⟨g, k * 5 + j, none⟩) hg).trans (hc k hk j hj)
  exact ⟨e 0 (by omega), e 1 (by omega), e 2 (by omega), e 3 (by omega), e 4 (by omega)⟩

set_option maxHeartbeats 2000000 in
theorem eqFeas (v1 v2 : Value) (w : World) (h1 : FeaRow w v1) (h2 : FeaRow w v2) : Calls Try.prog 7 #[v1, v2] w fun e w' => e = .returned (.bool true) ∧ Below w.heap.size w w' := by
  obtain ⟨g1, c1, rfl, hg1, H1⟩ := h1.at
  obtain ⟨g2, c2, rfl, hg2, H2⟩ := h2.at
  have K1 := hideP H1
  have K2 := hideP H2
  clear h1 h2 H1 H2
  go_enter Try.func7, Try.ntmps7
  go_wp2
  go_loopw [5] (fun i wr => ∃ k : Nat, k ≤ 20 ∧ i = .int .i64 (k : Int) ∧ Below w.heap.size w wr) (fun i _ => 20 - (intOf i).toNat)
  case atStart => exact ⟨0, Nat.zero_le _, rfl, Below.refl _ _⟩
  case round =>
    obtain ⟨k, hk, rfl, hb⟩ := hrel
    have HB := hideP hb
    clear hb
    by_cases hlt : k < 20
    · obtain ⟨a0, a1, a2, a3, a4⟩ := K1.out wr HB.out k hlt
      obtain ⟨b0, b1, b2, b3, b4⟩ := K2.out wr HB.out k hlt
      generalize feaAt k = f at *
      obtain ⟨s, mv, o, m, d⟩ := f
      go_wp2
      go_region_with (go_at_call 18; refine (eqFea s mv o m d _).mono ?_; rintro e w2 ⟨rfl, hb2⟩; have HB2 : Hid (Below w.heap.size w w2) := HB.out.trans ⟨hb2.os, hb2.tape, hb2.output, Nat.le_trans (Nat.le_refl _) hb2.size, fun j hj => hb2.block j (Nat.lt_of_lt_of_le hj HB.out.size)⟩; clear hb2)
      all_goals go_wp2
      all_goals exact ⟨⟨k + 1, by omega, by go_num, HB2.out⟩, by simp [intOf]; omega⟩
    · go_wp2
      go_ret
      exact ⟨rfl, HB.out⟩

/-- The mark of the q-th cell of a row of feasts. -/
def fmark (q : Nat) : Value := if q % 5 = 0 then .string (mk (q + 1)) else if q % 5 = 1 then .bool (decide ((q + 1) % 3 = 0)) else .int .i64 ((q + 1 : Nat) : Int)
theorem fmark0 (k : Nat) : fmark (k * 5) = .string (mk (k * 5 + 1)) := by unfold fmark; rw [if_pos (by omega)]
theorem fmark1 (k : Nat) : fmark (k * 5 + 1) = .bool (decide ((k * 5 + 2) % 3 = 0)) := by unfold fmark; rw [if_neg (by omega), if_pos (by omega)]
theorem fmark2 (k : Nat) : fmark (k * 5 + 2) = .int .i64 ((k * 5 + 3 : Nat) : Int) := by unfold fmark; rw [if_neg (by omega), if_neg (by omega)]
theorem fmark3 (k : Nat) : fmark (k * 5 + 3) = .int .i64 ((k * 5 + 4 : Nat) : Int) := by unfold fmark; rw [if_neg (by omega), if_neg (by omega)]
theorem fmark4 (k : Nat) : fmark (k * 5 + 4) = .int .i64 ((k * 5 + 5 : Nat) : Int) := by unfold fmark; rw [if_neg (by omega), if_neg (by omega)]
def Marked (W : World) (g n : Nat) : Prop := ∀ q, q < n → W.cell? ⟨g, q, none⟩ = some (fmark q)
theorem Marked.set {W : World} {g n : Nat} {u : Value} (h : Marked W g n) (hu : W.cell? ⟨g, n, none⟩ = some u) {v : Value} (hv : fmark n = v) : Marked (W.setCell ⟨g, n, none⟩ v) g (n + 1) := fun q hq => by
  by_cases e : q = n
  · subst e
    rw [hv]
    exact World.cell?_setCell_same W _ _ hu
  · rw [World.cell?_setCell_other W _ _ _ (by intro h; injection h with _ h2; exact e h2.symm)]
    exact h q (by omega)
theorem Marked.below {W W' : World} {g n B : Nat} (h : Marked W g n) (hb : Below B W W') (hg : g < B) : Marked W' g n := fun q hq => (hb.cell (p := ⟨g, q, none⟩) hg).trans (h q hq)
/-- What a row that is marked up to n, and owned up to 100, is after the next five stores. -/
theorem mark5 {W : World} {g k : Nat} (hk : k < 20) (h : Marked W g (k * 5)) (ho : OwnRow W g 100) {v0 v1 v2 v3 v4 : Value} (e0 : fmark (k * 5) = v0) (e1 : fmark (k * 5 + 1) = v1) (e2 : fmark (k * 5 + 2) = v2) (e3 : fmark (k * 5 + 3) = v3) (e4 : fmark (k * 5 + 4) = v4) :
    Marked (((((W.setCell ⟨g, k * 5, none⟩ v0).setCell ⟨g, k * 5 + 1, none⟩ v1).setCell ⟨g, k * 5 + 2, none⟩ v2).setCell ⟨g, k * 5 + 3, none⟩ v3).setCell ⟨g, k * 5 + 4, none⟩ v4) g ((k + 1) * 5) ∧
    OwnRow (((((W.setCell ⟨g, k * 5, none⟩ v0).setCell ⟨g, k * 5 + 1, none⟩ v1).setCell ⟨g, k * 5 + 2, none⟩ v2).setCell ⟨g, k * 5 + 3, none⟩ v3).setCell ⟨g, k * 5 + 4, none⟩ v4) g 100 ∧
    W.grownBy (((((W.setCell ⟨g, k * 5, none⟩ v0).setCell ⟨g, k * 5 + 1, none⟩ v1).setCell ⟨g, k * 5 + 2, none⟩ v2).setCell ⟨g, k * 5 + 3, none⟩ v3).setCell ⟨g, k * 5 + 4, none⟩ v4) (some g) := by
  have o1 := own_set ho (k * 5) (by omega) v0
  have o2 := own_set o1 (k * 5 + 1) (by omega) v1
  have o3 := own_set o2 (k * 5 + 2) (by omega) v2
  have o4 := own_set o3 (k * 5 + 3) (by omega) v3
  have o5 := own_set o4 (k * 5 + 4) (by omega) v4
  obtain ⟨⟨u0, h0⟩, _⟩ := ho (k * 5) (by omega)
  obtain ⟨⟨u1, h1⟩, _⟩ := o1 (k * 5 + 1) (by omega)
  obtain ⟨⟨u2, h2⟩, _⟩ := o2 (k * 5 + 2) (by omega)
  obtain ⟨⟨u3, h3⟩, _⟩ := o3 (k * 5 + 3) (by omega)
  obtain ⟨⟨u4, h4⟩, _⟩ := o4 (k * 5 + 4) (by omega)
  refine ⟨?_, o5, mgrown_trans (mgrown_trans (mgrown_trans (mgrown_trans (mgrown_set _ _ _ _) (mgrown_set _ _ _ _)) (mgrown_set _ _ _ _)) (mgrown_set _ _ _ _)) (mgrown_set _ _ _ _)⟩
  rw [show (k + 1) * 5 = k * 5 + 4 + 1 by omega]
  exact ((((h.set h0 e0).set h1 e1).set h2 e2).set h3 e3).set h4 e4
theorem OwnRow.below {W W' : World} {g n B : Nat} (h : OwnRow W g n) (hb : Below B W W') (hg : g < B) : OwnRow W' g n := fun j hj => by
  obtain ⟨⟨u, hu⟩, hf⟩ := h j hj
  exact ⟨⟨u, (hb.cell (p := ⟨g, j, none⟩) hg).trans hu⟩, (hb.frozen (p := ⟨g, j, none⟩) hg).trans hf⟩

set_option maxHeartbeats 2000000 in
theorem markFeas (g cap : Nat) (w : World) (hg : g < w.heap.size) (ho : OwnRow w g 100) :
    Calls Try.prog 8 #[.slice (some ⟨g, 0, none⟩) 20 cap, .int .i64 1] w fun e w' => e = .returned (.int .i64 101) ∧ w.grownBy w' (some g) ∧ Marked w' g 100 := by
  have HO := hideP ho
  clear ho
  go_enter Try.func8, Try.ntmps8
  go_wp2
  go_loopw [1, 5] (fun t i wr => ∃ k : Nat, k ≤ 20 ∧ i = .int .i64 (k : Int) ∧ t = .int .i64 ((k * 5 + 1 : Nat) : Int) ∧ w.grownBy wr (some g) ∧ OwnRow wr g 100 ∧ Marked wr g (k * 5)) (fun _ i _ => 20 - (intOf i).toNat)
  case atStart => exact ⟨0, Nat.zero_le _, rfl, rfl, ⟨rfl, rfl, rfl, Nat.le_refl _, fun _ _ _ => rfl⟩, HO.out, fun q hq => by omega⟩
  case round =>
    obtain ⟨k, hk, rfl, rfl, hG, hOw, hM⟩ := hrel
    have HG := hideP hG
    have HW := hideP hOw
    have HM := hideP hM
    clear hG hOw hM
    by_cases hlt : k < 20
    · go_wp2_with fail
      rw [show ((k : Int) * 5 + 1) = ((k * 5 + 1 : Nat) : Int) from by omega]
      refine (markText (k * 5 + 1) _ (by omega) (by omega)).mono ?_
      rintro e w2 ⟨rfl, hb2⟩
      have hgw : g < wr.heap.size := Nat.lt_of_lt_of_le hg HG.out.size
      have hO2 := HW.out.below hb2 hgw
      obtain ⟨⟨u0, h0⟩, f0⟩ := hO2 (k * 5) (by omega)
      obtain ⟨⟨u1, h1⟩, f1⟩ := hO2 (k * 5 + 1) (by omega)
      obtain ⟨⟨u2, h2⟩, f2⟩ := hO2 (k * 5 + 2) (by omega)
      obtain ⟨⟨u3, h3⟩, f3⟩ := hO2 (k * 5 + 3) (by omega)
      obtain ⟨⟨u4, h4⟩, f4⟩ := hO2 (k * 5 + 4) (by omega)
      have HO2 := hideP hO2
      have HM2 := hideP (HM.out.below hb2 hgw)
      have HG2 : Hid (w.grownBy w2 (some g)) := mgrown_trans HG.out ⟨hb2.os, hb2.tape, hb2.output, hb2.size, fun j hj _ => hb2.block j hj⟩
      clear hO2 hb2
      go_wp2
      have M := mark5 hlt HM2.out HO2.out (fmark0 k) (v1 := .bool (((k : Int) * 5 + 1 + 1) % 3 == 0)) (by rw [fmark1]; apply congrArg Value.bool; rw [Bool.eq_iff_iff]; simp; omega) (v2 := .int .i64 ((k : Int) * 5 + 1 + 1 + 1)) (by rw [fmark2]; apply congrArg (Value.int .i64); omega) (v3 := .int .i64 ((k : Int) * 5 + 1 + 1 + 1 + 1)) (by rw [fmark3]; apply congrArg (Value.int .i64); omega) (v4 := .int .i64 ((k : Int) * 5 + 1 + 1 + 1 + 1 + 1)) (by rw [fmark4]; apply congrArg (Value.int .i64); omega)
      exact ⟨⟨k + 1, by omega, by go_num, by apply congrArg (Value.int .i64); omega, mgrown_trans HG2.out M.2.2, M.2.1, M.1⟩, by simp [intOf]; omega⟩
    · have hkn : k = 20 := by omega
      subst hkn
      go_wp2
      go_ret
      exact ⟨rfl, HG.out, HM.out⟩

set_option maxHeartbeats 2000000 in
theorem heldFeas (g cap : Nat) (w : World) (hg : g < w.heap.size) (hM : Marked w g 100) :
    Calls Try.prog 9 #[.slice (some ⟨g, 0, none⟩) 20 cap, .int .i64 1] w fun e w' => e = .returned (.int .i64 101) ∧ Below w.heap.size w w' := by
  have HM := hideP hM
  clear hM
  go_enter Try.func9, Try.ntmps9
  go_wp2
  go_loopw [1, 5] (fun t i wr => ∃ k : Nat, k ≤ 20 ∧ i = .int .i64 (k : Int) ∧ t = .int .i64 ((k * 5 + 1 : Nat) : Int) ∧ Below w.heap.size w wr) (fun _ i _ => 20 - (intOf i).toNat)
  case atStart => exact ⟨0, Nat.zero_le _, rfl, rfl, Below.refl _ _⟩
  case round =>
    obtain ⟨k, hk, rfl, rfl, hB⟩ := hrel
    have HB := hideP hB
    clear hB
    by_cases hlt : k < 20
    · have m0 := (HM.out.below HB.out hg) (k * 5) (by omega)
      have HT : Hid (∀ w2, Below wr.heap.size wr w2 → (w2.cell? ⟨g, k * 5, none⟩ = some (.string (mk (k * 5 + 1))) ∧ w2.cell? ⟨g, k * 5 + 1, none⟩ = some (.bool (((k : Int) * 5 + 1 + 1) % 3 == 0)) ∧ w2.cell? ⟨g, k * 5 + 2, none⟩ = some (.int .i64 ((k : Int) * 5 + 1 + 1 + 1)) ∧ w2.cell? ⟨g, k * 5 + 3, none⟩ = some (.int .i64 ((k : Int) * 5 + 1 + 1 + 1 + 1)) ∧ w2.cell? ⟨g, k * 5 + 4, none⟩ = some (.int .i64 ((k : Int) * 5 + 1 + 1 + 1 + 1 + 1))) ∧ Below w.heap.size w w2) := fun w2 hb2 => by
        have hb : Below w.heap.size w w2 := HB.out.trans (hb2.mono HB.out.size)
        have m := HM.out.below hb hg
        refine ⟨⟨?_, ?_, ?_, ?_, ?_⟩, hb⟩
        · rw [m (k * 5) (by omega), fmark0]
        · rw [m (k * 5 + 1) (by omega), fmark1]
          apply congrArg some
          apply congrArg Value.bool
          rw [Bool.eq_iff_iff]
          simp
          omega
        · rw [m (k * 5 + 2) (by omega), fmark2]
          apply congrArg some
          apply congrArg (Value.int .i64)
          omega
        · rw [m (k * 5 + 3) (by omega), fmark3]
          apply congrArg some
          apply congrArg (Value.int .i64)
          omega
        · rw [m (k * 5 + 4) (by omega), fmark4]
          apply congrArg some
          apply congrArg (Value.int .i64)
          omega
      rw [fmark0] at m0
      go_wp2
      go_region_with (go_at_call 19; rw [show ((k : Int) * 5 + 1) = ((k * 5 + 1 : Nat) : Int) from by omega]; refine (markText (k * 5 + 1) _ (by omega) (by omega)).mono ?_; rintro e w2 ⟨rfl, hb2⟩; obtain ⟨⟨c0, c1, c2, c3, c4⟩, hb3⟩ := HT.out w2 ⟨hb2.os, hb2.tape, hb2.output, hb2.size, hb2.block⟩; have HB2 := hideP hb3; clear hb2 hb3)
      all_goals go_wp2
      all_goals exact ⟨⟨k + 1, by omega, by go_num, by apply congrArg (Value.int .i64); omega, HB2.out⟩, by simp [intOf]; omega⟩
    · have hkn : k = 20 := by omega
      subst hkn
      go_wp2
      go_ret
      exact ⟨rfl, HB.out⟩
end Go.Proofs.Ytaahkfdledahdaa.ctr
