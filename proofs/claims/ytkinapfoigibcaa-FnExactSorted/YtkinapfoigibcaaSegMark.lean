/- Contracts of the laws' markSegmentS and heldSegmentS: marks are written into a list's own row, and found there again; nothing else turns. -/
import Derived.Test.YtkinapfoigibcaaSrtImpl
namespace Go.Proofs.Ytkinapfoigibcaa.ctr
open Go.RowKit

/-- m cells of one's own; the first k hold their marks. -/
def OwnC (w : World) (g m : Nat) : Prop := ∀ j, j < m → (∃ u, w.cell? ⟨g, j, none⟩ = some u) ∧ w.frozen? ⟨g, j, none⟩ = false
def MarkC (w : World) (g m : Nat) : Prop := ∀ j, j < m → w.cell? ⟨g, j, none⟩ = some (.int .i64 ((1 + j : Nat) : Int))
theorem ownC_of {W : World} {g m : Nat} {cs : Array Value} {t : TypeId} (h : Blk W g cs t) (hs : m ≤ cs.size) : OwnC W g m := fun j hj => ⟨⟨cs[j]'(by omega), h.cell j (by simp)⟩, h.thaw j⟩
theorem PRow.own {w : World} {g cap : Nat} {T : TypeId} {L : List Seg} (h : PRow segK T w g cap L) : OwnC w g (L.length * 5) := by
  obtain ⟨cur, hB, hs, h1, _⟩ := h
  have : L.length * 5 ≤ cap * 5 := Nat.mul_le_mul_right _ h1
  exact ownC_of hB (by rw [hs]; exact this)
theorem ownC_set {W : World} {g n : Nat} (h : OwnC W g n) (k : Nat) (v : Value) : OwnC (W.setCell ⟨g, k, none⟩ v) g n := fun j hj => by
  obtain ⟨⟨u, hu⟩, hf⟩ := h j hj
  refine ⟨?_, by rw [World.frozen?_setCell]; exact hf⟩
  by_cases e : j = k
  · subst e
    exact ⟨v, World.cell?_setCell_same W _ _ hu⟩
  · exact ⟨u, by rw [World.cell?_setCell_other W _ _ _ (by intro h; injection h with _ h2; exact e h2.symm)]; exact hu⟩
theorem markC_set {W : World} {g n k : Nat} (h : MarkC W g k) (ho : OwnC W g n) (hk : k < n) : MarkC (W.setCell ⟨g, k, none⟩ (.int .i64 ((1 + k : Nat) : Int))) g (k + 1) := fun j hj => by
  obtain ⟨⟨u, hu⟩, _⟩ := ho k hk
  by_cases e : j = k
  · subst e
    exact World.cell?_setCell_same W _ _ hu
  · rw [World.cell?_setCell_other W _ _ _ (by intro h; injection h with _ h2; exact e h2.symm)]
    exact h j (by omega)
theorem grown_set (W : World) (B o : Nat) (v : Value) : W.grownBy (W.setCell ⟨B, o, none⟩ v) (some B) :=
  ⟨rfl, rfl, rfl, by rw [World.size_setCell]; exact Nat.le_refl _, fun k _ hk => Below.heap_setCell W _ _ k (by intro e; apply hk; rw [e])⟩
structure MSt (w : World) (g n k : Nat) (wr : World) : Prop where
  own : OwnC wr g (n * 5)
  mark : MarkC wr g k
  grown : w.grownBy wr (some g)
theorem MSt.put {w wr : World} {g n k : Nat} (h : MSt w g n k wr) (hk : k < n * 5) : MSt w g n (k + 1) (wr.setCell ⟨g, k, none⟩ (.int .i64 ((1 + k : Nat) : Int))) :=
  ⟨ownC_set h.own _ _, markC_set h.mark h.own hk, grown_two h.grown (grown_set _ _ _ _)⟩
theorem MSt.five {w wr : World} {g n k : Nat} (h : MSt w g n (k * 5) wr) (hk : k < n) : MSt w g n ((k + 1) * 5) (((((wr.setCell ⟨g, k * 5, none⟩ (.int .i64 ((k : Int) * 5 + 1))).setCell ⟨g, k * 5 + 1, none⟩ (.int .i64 ((k : Int) * 5 + 1 + 1))).setCell ⟨g, k * 5 + 2, none⟩ (.int .i64 ((k : Int) * 5 + 1 + 1 + 1))).setCell ⟨g, k * 5 + 3, none⟩ (.int .i64 ((k : Int) * 5 + 1 + 1 + 1 + 1))).setCell ⟨g, k * 5 + 4, none⟩ (.int .i64 ((k : Int) * 5 + 1 + 1 + 1 + 1 + 1))) := by
  have e : ∀ j : Nat, j < 5 → ((1 + (k * 5 + j) : Nat) : Int) = (k : Int) * 5 + 1 + (j : Int) := fun j _ => by omega
  have h5 := ((((h.put (by omega)).put (by omega)).put (by omega)).put (by omega)).put (by omega)
  rw [show (k + 1) * 5 = k * 5 + 1 + 1 + 1 + 1 + 1 by omega]
  have a0 : ((1 + (k * 5) : Nat) : Int) = (k : Int) * 5 + 1 := by omega
  have a1 : ((1 + (k * 5 + 1) : Nat) : Int) = (k : Int) * 5 + 1 + 1 := by omega
  have a2 : ((1 + (k * 5 + 1 + 1) : Nat) : Int) = (k : Int) * 5 + 1 + 1 + 1 := by omega
  have a3 : ((1 + (k * 5 + 1 + 1 + 1) : Nat) : Int) = (k : Int) * 5 + 1 + 1 + 1 + 1 := by omega
  have a4 : ((1 + (k * 5 + 1 + 1 + 1 + 1) : Nat) : Int) = (k : Int) * 5 + 1 + 1 + 1 + 1 + 1 := by omega
  rw [a0, a1, a2, a3, a4] at h5
  exact h5
set_option maxHeartbeats 2000000 in
theorem markSegs (g cap n : Nat) (w : World) (hn : n ≤ 1048576) (ho : OwnC w g (n * 5)) :
    Calls Try.prog 16 #[.slice (some ⟨g, 0, none⟩) n cap, .int .i64 1] w fun e w' => e = .returned (.int .i64 ((n : Int) * 5 + 1)) ∧ MSt w g n (n * 5) w' := by
  have S0 : Hid (MSt w g n 0 w) := ⟨ho, fun j hj => by omega, ⟨rfl, rfl, rfl, Nat.le_refl _, fun _ _ _ => rfl⟩⟩
  clear ho
  go_enter Try.func16, Try.ntmps16
  go_wp2
  go_loopw [1, 5] (fun t i wr => ∃ k : Nat, k ≤ n ∧ i = .int .i64 (k : Int) ∧ t = .int .i64 ((k : Int) * 5 + 1) ∧ MSt w g n (k * 5) wr) (fun _ i _ => n - (intOf i).toNat)
  case atStart => exact ⟨0, Nat.zero_le _, rfl, rfl, S0.out⟩
  case round =>
    obtain ⟨k, hk, rfl, rfl, hM⟩ := hrel
    have HM := hideP hM
    clear hM S0
    by_cases hlt : k < n
    · obtain ⟨⟨u0, h0⟩, f0⟩ := HM.out.own (k * 5) (by omega)
      obtain ⟨⟨u1, h1⟩, f1⟩ := HM.out.own (k * 5 + 1) (by omega)
      obtain ⟨⟨u2, h2⟩, f2⟩ := HM.out.own (k * 5 + 2) (by omega)
      obtain ⟨⟨u3, h3⟩, f3⟩ := HM.out.own (k * 5 + 3) (by omega)
      obtain ⟨⟨u4, h4⟩, f4⟩ := HM.out.own (k * 5 + 4) (by omega)
      have HN := hideP (HM.out.five hlt)
      go_wp2
      exact ⟨⟨k + 1, by omega, by go_num, by apply congrArg (Value.int .i64); omega, HN.out⟩, by simp [intOf]; omega⟩
    · obtain rfl : k = n := by omega
      go_wp2
      go_ret
      exact ⟨rfl, HM.out⟩
set_option maxHeartbeats 2000000 in
theorem heldSegs (g cap n : Nat) (w : World) (hn : n ≤ 1048576) (ho : MarkC w g (n * 5)) :
    Calls Try.prog 17 #[.slice (some ⟨g, 0, none⟩) n cap, .int .i64 1] w fun e w' => e = .returned (.int .i64 ((n : Int) * 5 + 1)) ∧ w' = w := by
  have HO := hideP ho
  clear ho
  go_enter Try.func17, Try.ntmps17
  go_wp2
  go_loopw [1, 5] (fun t i wr => ∃ k : Nat, k ≤ n ∧ i = .int .i64 (k : Int) ∧ t = .int .i64 ((k : Int) * 5 + 1) ∧ wr = w) (fun _ i _ => n - (intOf i).toNat)
  case atStart => exact ⟨0, Nat.zero_le _, rfl, rfl, rfl⟩
  case round =>
    obtain ⟨k, hk, rfl, rfl, rfl⟩ := hrel
    by_cases hlt : k < n
    · have e0 : wr.cell? ⟨g, k * 5, none⟩ = some (.int .i64 ((k : Int) * 5 + 1)) := by rw [HO.out (k * 5) (by omega)]; congr 2; omega
      have e1 : wr.cell? ⟨g, k * 5 + 1, none⟩ = some (.int .i64 ((k : Int) * 5 + 1 + 1)) := by rw [HO.out (k * 5 + 1) (by omega)]; congr 2; omega
      have e2 : wr.cell? ⟨g, k * 5 + 2, none⟩ = some (.int .i64 ((k : Int) * 5 + 1 + 1 + 1)) := by rw [HO.out (k * 5 + 2) (by omega)]; congr 2; omega
      have e3 : wr.cell? ⟨g, k * 5 + 3, none⟩ = some (.int .i64 ((k : Int) * 5 + 1 + 1 + 1 + 1)) := by rw [HO.out (k * 5 + 3) (by omega)]; congr 2; omega
      have e4 : wr.cell? ⟨g, k * 5 + 4, none⟩ = some (.int .i64 ((k : Int) * 5 + 1 + 1 + 1 + 1 + 1)) := by rw [HO.out (k * 5 + 4) (by omega)]; congr 2; omega
      go_wp2
      exact ⟨⟨k + 1, by omega, by go_num, by apply congrArg (Value.int .i64); omega, trivial⟩, by simp [intOf]; omega⟩
    · obtain rfl : k = n := by omega
      go_wp2
      go_ret
      exact ⟨rfl, rfl⟩
end Go.Proofs.Ytkinapfoigibcaa.ctr
