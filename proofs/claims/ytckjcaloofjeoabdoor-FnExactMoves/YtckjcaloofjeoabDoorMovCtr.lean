/- How Easter moves: the plain function, and the contracts of the model's and the program's Moves: each answers the plain list, in a row of its own. -/
import Derived.Test.YtckjcaloofjeoabDoorEasFun2
import Derived.Test.YtckjcaloofjeoabDoorIntKit
namespace Go.Proofs.YtckjcaloofjeoabDoor.ctr
open Go.RowKit

def bump (l : List Int) (k : Nat) : List Int := l.set k (l.getD k 0 + 1)
/-- Of n years from a on: how often Easter is how many days behind 21 March. -/
def cnt (c a : Int) : Nat → List Int
  | 0 => List.replicate 36 0
  | n + 1 => bump (cnt c a n) (easterDays c (a + n)).toNat
def movesP (c a b : Int) : Prop := yearP c a ∧ yearP c b ∧ a ≤ b ∧ b - a < 1000
instance (c a b : Int) : Decidable (movesP c a b) := by unfold movesP; infer_instance
def moves (c a b : Int) : List Int := if movesP c a b then cnt c a (b - a + 1).toNat else []
theorem bump_len (l : List Int) (k : Nat) : (bump l k).length = l.length := by simp [bump]
theorem cnt_len (c a : Int) : ∀ n, (cnt c a n).length = 36
  | 0 => by simp [cnt]
  | n + 1 => by rw [cnt, bump_len, cnt_len c a n]
theorem bump_at (l : List Int) (k j : Nat) (hk : k < l.length) : (bump l k).getD j 0 = if j = k then l.getD k 0 + 1 else l.getD j 0 := by
  unfold bump
  by_cases h : j = k
  · subst h
    rw [if_pos rfl, List.getD, List.getElem?_set_self hk]
    rfl
  · rw [if_neg h, List.getD, List.getElem?_set_ne (fun e => h e.symm)]
    rfl
theorem cnt_b (c a : Int) (j : Nat) : ∀ n : Nat, 0 ≤ (cnt c a n).getD j 0 ∧ (cnt c a n).getD j 0 ≤ n
  | 0 => by
    rw [cnt, List.getD, List.getElem?_replicate]
    split <;> simp
  | n + 1 => by
    have ih := cnt_b c a j n
    rw [cnt]
    by_cases hk : (easterDays c (a + n)).toNat < (cnt c a n).length
    · rw [bump_at _ _ _ hk]
      split
      · rename_i e
        rw [← e]
        omega
      · omega
    · unfold bump
      rw [List.set_eq_of_length_le (by omega)]
      omega
theorem ints_zero (c a : Int) : ints (cnt c a 0) = #[.int .i64 0, .int .i64 0, .int .i64 0, .int .i64 0, .int .i64 0, .int .i64 0, .int .i64 0, .int .i64 0, .int .i64 0, .int .i64 0, .int .i64 0, .int .i64 0, .int .i64 0, .int .i64 0, .int .i64 0, .int .i64 0, .int .i64 0, .int .i64 0, .int .i64 0, .int .i64 0, .int .i64 0, .int .i64 0, .int .i64 0, .int .i64 0, .int .i64 0, .int .i64 0, .int .i64 0, .int .i64 0, .int .i64 0, .int .i64 0, .int .i64 0, .int .i64 0, .int .i64 0, .int .i64 0, .int .i64 0, .int .i64 0] := rfl

set_option maxHeartbeats 2000000 in
theorem implMoves (c a b : Int) (w : World) (hT : Tab w) : Calls Tryd.prog 12 #[.int .i64 c, .int .i64 a, .int .i64 b] w fun e w' => ∃ v, e = .returned v ∧ MovRow w w' v (moves c a b) ∧ Below w.heap.size w w' := by
  have KT : ∀ x : Later w, Tab x.w := fun x => hT.later x.below
  have KA := implYearOk c a w hT
  have KB : ∀ x : Later w, Calls Tryd.prog 32 #[.int .i64 c, .int .i64 b] x.w fun e w' => e = .returned (.bool (yearB c b)) ∧ Below x.w.heap.size x.w w' := fun x => implYearOk c b x.w (KT x)
  by_cases ha : yearP c a
  · rw [yearB_true ha] at KA
    by_cases hb : yearP c b
    · simp only [yearB_true hb] at KB
      have h1 := ha.2
      have h2 := hb.2
      by_cases hlt : b < a
      · have hM : moves c a b = [] := by unfold moves; rw [if_neg (fun h => by have := h.2.2; omega)]
        rw [hM]
        clear KT hT ha hb hM
        go_enter Tryd.func12, Tryd.ntmps12
        go_wp2_with fail
        refine KA.mono ?_
        rintro e w1 ⟨rfl, hb⟩
        obtain ⟨x1, rfl⟩ := Later.of hb
        clear hb
        go_wp2_with fail
        refine (KB x1).mono ?_
        rintro e w2 ⟨rfl, hb⟩
        obtain ⟨x2, rfl⟩ := x1.next hb
        clear hb
        go_wp2
        go_ret
        exact ⟨_, rfl, movRow_nil _ _, x2.below⟩
      by_cases hgt : 1000 ≤ b - a
      · have hM : moves c a b = [] := by unfold moves; rw [if_neg (fun h => by have := h.2.2; omega)]
        rw [hM]
        clear KT hT ha hb hM
        go_enter Tryd.func12, Tryd.ntmps12
        go_wp2_with fail
        refine KA.mono ?_
        rintro e w1 ⟨rfl, hb⟩
        obtain ⟨x1, rfl⟩ := Later.of hb
        clear hb
        go_wp2_with fail
        refine (KB x1).mono ?_
        rintro e w2 ⟨rfl, hb⟩
        obtain ⟨x2, rfl⟩ := x1.next hb
        clear hb
        go_wp2
        go_ret
        exact ⟨_, rfl, movRow_nil _ _, x2.below⟩
      have hM : moves c a b = cnt c a (b - a + 1).toNat := by unfold moves; rw [if_pos ⟨ha, hb, by omega, by omega⟩]
      rw [hM]
      have HT := hideP KT
      have HY : Hid (∀ k : Nat, (k : Int) ≤ b - a → yearP c (a + k)) := fun k hk => ⟨ha.1, by omega, by omega⟩
      clear KT hT ha hb hM
      go_enter Tryd.func12, Tryd.ntmps12
      go_wp2_with fail
      refine KA.mono ?_
      rintro e w1 ⟨rfl, hb⟩
      obtain ⟨x1, rfl⟩ := Later.of hb
      clear hb
      go_wp2_with fail
      refine (KB x1).mono ?_
      rintro e w2 ⟨rfl, hb⟩
      obtain ⟨x2, rfl⟩ := x1.next hb
      clear hb
      go_wp2
      rw [← ints_zero c a]
      go_loopw [34] (fun i wr => ∃ k : Nat, (k : Int) ≤ b - a + 1 ∧ i = .int .i64 (k : Int) ∧ Below x2.w.heap.size x2.w wr ∧ Blk wr x2.w.heap.size (ints (cnt c a k)) 48) (fun i _ => (b - a + 1).toNat - (intOf i).toNat)
      case atStart => exact ⟨0, by omega, rfl, (Below.refl _ _).alloc (Nat.le_refl _) _, Blk.new x2.w _ _⟩
      case round =>
        obtain ⟨k, hk, rfl, hb, h0⟩ := hrel
        have HB := hideP hb
        have H0 := hideP h0
        clear hb h0
        by_cases hlt' : (k : Int) < b - a + 1
        · have hy := HY.out k (by omega)
          have hd := easterDays_b hy
          have KE := implEasterDays c (a + k) wr (HT.out ⟨wr, x2.on HB.out⟩)
          obtain ⟨d, hd0⟩ := Int.eq_ofNat_of_zero_le (show 0 ≤ easterDays c (a + k) by omega)
          have hd1 : d < 36 := by omega
          have HC : Hid (cnt c a (k + 1) = bump (cnt c a k) d) := by unfold Hid; rw [cnt, hd0]; rfl
          rw [hd0] at KE
          clear hd hd0 hy
          go_wp2_with fail
          refine KE.mono ?_
          rintro e w3 ⟨rfl, hb⟩
          have HB3 : Hid (Below x2.w.heap.size x2.w w3) := HB.out.trans (hb.mono HB.out.size)
          have H03 : Hid (Blk w3 x2.w.heap.size (ints (cnt c a k)) 48) := H0.out.below hb H0.out.lt
          clear hb
          have c0 := H03.out.cell d (ints_at (cnt c a k) d (by rw [cnt_len]; exact hd1))
          have f0 := H03.out.thaw d
          have hz := cnt_b c a d k
          have HU : Hid (bump (cnt c a k) d = (cnt c a k).set d ((cnt c a k).getD d 0 + 1)) := rfl
          generalize (cnt c a k).getD d 0 = z at *
          go_wp2_with fail
          refine ⟨⟨k + 1, by omega, by go_num, below_store HB3.out _ (Nat.le_refl _), ?_⟩, by simp [intOf]; omega⟩
          have h := H03.out.set d (.int .i64 (z + 1))
          rw [ints_set, ← HU.out, ← HC.out] at h
          exact h
        · have hk1 : (b - a + 1).toNat = k := by omega
          rw [hk1]
          go_wp2
          go_ret
          exact ⟨.slice (some ⟨x2.w.heap.size, 0, none⟩) 36 36, rfl, ⟨some ⟨x2.w.heap.size, 0, none⟩, 36, by rw [cnt_len], .inr ⟨x2.w.heap.size, _, #[], rfl, x2.below.size, by simpa using H0.out⟩⟩, x2.on HB.out⟩
    · simp only [yearB_false hb] at KB
      have hM : moves c a b = [] := by unfold moves; rw [if_neg (fun h => hb h.2.1)]
      rw [hM]
      clear KT hT ha hb hM
      go_enter Tryd.func12, Tryd.ntmps12
      go_wp2_with fail
      refine KA.mono ?_
      rintro e w1 ⟨rfl, hb⟩
      obtain ⟨x1, rfl⟩ := Later.of hb
      clear hb
      go_wp2_with fail
      refine (KB x1).mono ?_
      rintro e w2 ⟨rfl, hb⟩
      obtain ⟨x2, rfl⟩ := x1.next hb
      clear hb
      go_wp2
      go_ret
      exact ⟨_, rfl, movRow_nil _ _, x2.below⟩
  · rw [yearB_false ha] at KA
    have hM : moves c a b = [] := by unfold moves; rw [if_neg (fun h => ha h.1)]
    rw [hM]
    clear KT hT ha hM KB
    go_enter Tryd.func12, Tryd.ntmps12
    go_wp2_with fail
    refine KA.mono ?_
    rintro e w1 ⟨rfl, hb⟩
    obtain ⟨x1, rfl⟩ := Later.of hb
    clear hb
    go_wp2
    go_ret
    exact ⟨_, rfl, movRow_nil _ _, x1.below⟩

theorem make36 (w : World) : (Instr.makeSlice 24 (.int .i64 36) (.int .i64 36)).run Tryd.prog w = .ok (.slice (some ⟨w.heap.size, 0, none⟩) 36 36) (w.alloc (.cells #[.int .i64 0, .int .i64 0, .int .i64 0, .int .i64 0, .int .i64 0, .int .i64 0, .int .i64 0, .int .i64 0, .int .i64 0, .int .i64 0, .int .i64 0, .int .i64 0, .int .i64 0, .int .i64 0, .int .i64 0, .int .i64 0, .int .i64 0, .int .i64 0, .int .i64 0, .int .i64 0, .int .i64 0, .int .i64 0, .int .i64 0, .int .i64 0, .int .i64 0, .int .i64 0, .int .i64 0, .int .i64 0, .int .i64 0, .int .i64 0, .int .i64 0, .int .i64 0, .int .i64 0, .int .i64 0, .int .i64 0, .int .i64 0] 3)) := by kernel_rfl

set_option maxHeartbeats 2000000 in
theorem specMoves (c a b : Int) (w : World) : Calls Tryd.prog 11 #[.int .i64 c, .int .i64 a, .int .i64 b] w fun e w' => ∃ v, e = .returned v ∧ MovRow w w' v (moves c a b) ∧ Below w.heap.size w w' := by
  have KA : ∀ W, Calls Tryd.prog 29 #[.int .i64 c, .int .i64 a] W fun e w' => e = .returned (.bool (yearB c a)) ∧ w' = W := specYearOk c a
  have KB : ∀ W, Calls Tryd.prog 29 #[.int .i64 c, .int .i64 b] W fun e w' => e = .returned (.bool (yearB c b)) ∧ w' = W := specYearOk c b
  by_cases ha : yearP c a
  · simp only [yearB_true ha] at KA
    by_cases hb : yearP c b
    · simp only [yearB_true hb] at KB
      have h1 := ha.2
      have h2 := hb.2
      by_cases hlt : b < a
      · have hM : moves c a b = [] := by unfold moves; rw [if_neg (fun h => by have := h.2.2; omega)]
        rw [hM]
        clear ha hb hM
        go_enter Tryd.func11, Tryd.ntmps11
        go_wp2_with fail
        refine (KA _).mono ?_
        rintro e w1 ⟨rfl, rfl⟩
        go_wp2_with fail
        refine (KB _).mono ?_
        rintro e w1 ⟨rfl, rfl⟩
        go_wp2
        go_ret
        exact ⟨_, rfl, movRow_nil _ _, (Below.refl _ _).alloc (Nat.le_refl _) _⟩
      by_cases hgt : 1000 ≤ b - a
      · have hM : moves c a b = [] := by unfold moves; rw [if_neg (fun h => by have := h.2.2; omega)]
        rw [hM]
        clear ha hb hM
        go_enter Tryd.func11, Tryd.ntmps11
        go_wp2_with fail
        refine (KA _).mono ?_
        rintro e w1 ⟨rfl, rfl⟩
        go_wp2_with fail
        refine (KB _).mono ?_
        rintro e w1 ⟨rfl, rfl⟩
        go_wp2
        go_ret
        exact ⟨_, rfl, movRow_nil _ _, (Below.refl _ _).alloc (Nat.le_refl _) _⟩
      have hM : moves c a b = cnt c a (b - a + 1).toNat := by unfold moves; rw [if_pos ⟨ha, hb, by omega, by omega⟩]
      rw [hM]
      have HY : Hid (∀ k : Nat, (k : Int) ≤ b - a → yearP c (a + k)) := fun k hk => ⟨ha.1, by omega, by omega⟩
      clear ha hb hM
      go_enter Tryd.func11, Tryd.ntmps11
      go_wp2_with fail
      refine (KA _).mono ?_
      rintro e w1 ⟨rfl, rfl⟩
      go_wp2_with fail
      refine (KB _).mono ?_
      rintro e w1 ⟨rfl, rfl⟩
      have hmk := make36
      go_wp2
      clear hmk
      rw [← ints_zero c a]
      go_loopw [8] (fun i wr => ∃ k : Nat, (k : Int) ≤ b - a + 1 ∧ i = .int .i64 (a + k) ∧ Below w1.heap.size w1 wr ∧ Blk wr w1.heap.size (ints (cnt c a k)) 3) (fun i _ => (b + 1 - intOf i).toNat)
      case atStart => exact ⟨0, by omega, by simp, (Below.refl _ _).alloc (Nat.le_refl _) _, Blk.new w1 _ _⟩
      case round =>
        obtain ⟨k, hk, rfl, hb, h0⟩ := hrel
        have HB := hideP hb
        have H0 := hideP h0
        clear hb h0
        by_cases hlt' : (k : Int) < b - a + 1
        · have hy := HY.out k (by omega)
          have hd := easterDays_b hy
          have KE := specEasterDays c (a + k) wr
          obtain ⟨d, hd0⟩ := Int.eq_ofNat_of_zero_le (show 0 ≤ easterDays c (a + k) by omega)
          have hd1 : d < 36 := by omega
          have HC : Hid (cnt c a (k + 1) = bump (cnt c a k) d) := by unfold Hid; rw [cnt, hd0]; rfl
          rw [hd0] at KE
          have hle : a + (k : Int) ≤ b := by omega
          clear hd hd0 hy
          go_wp2_with fail
          refine KE.mono ?_
          rintro e w3 ⟨rfl, hb⟩
          have HB3 : Hid (Below w1.heap.size w1 w3) := HB.out.trans (hb.mono HB.out.size)
          have H03 : Hid (Blk w3 w1.heap.size (ints (cnt c a k)) 3) := H0.out.below hb H0.out.lt
          clear hb
          have c0 := H03.out.cell d (ints_at (cnt c a k) d (by rw [cnt_len]; exact hd1))
          have f0 := H03.out.thaw d
          have hz := cnt_b c a d k
          have HU : Hid (bump (cnt c a k) d = (cnt c a k).set d ((cnt c a k).getD d 0 + 1)) := rfl
          generalize (cnt c a k).getD d 0 = z at *
          go_wp2_with fail
          refine ⟨⟨k + 1, by omega, ?_, below_store HB3.out _ (Nat.le_refl _), ?_⟩, by simp [intOf]; omega⟩
          · rw [show a + ((k + 1 : Nat) : Int) = a + (k : Int) + 1 by omega]
          · have h := H03.out.set d (.int .i64 (z + 1))
            rw [ints_set, ← HU.out, ← HC.out] at h
            exact h
        · have hk1 : (b - a + 1).toNat = k := by omega
          have hle : ¬ a + (k : Int) ≤ b := by omega
          have HK1 := hideP hk1
          clear hk1
          go_wp2
          go_ret
          rw [HK1.out]
          exact ⟨.slice (some ⟨w1.heap.size, 0, none⟩) 36 36, rfl, ⟨some ⟨w1.heap.size, 0, none⟩, 36, by rw [cnt_len], .inr ⟨w1.heap.size, _, #[], rfl, Nat.le_refl _, by simpa using H0.out⟩⟩, HB.out⟩
    · simp only [yearB_false hb] at KB
      have hM : moves c a b = [] := by unfold moves; rw [if_neg (fun h => hb h.2.1)]
      rw [hM]
      clear ha hb hM
      go_enter Tryd.func11, Tryd.ntmps11
      go_wp2_with fail
      refine (KA _).mono ?_
      rintro e w1 ⟨rfl, rfl⟩
      go_wp2_with fail
      refine (KB _).mono ?_
      rintro e w1 ⟨rfl, rfl⟩
      go_wp2
      go_ret
      exact ⟨_, rfl, movRow_nil _ _, (Below.refl _ _).alloc (Nat.le_refl _) _⟩
  · simp only [yearB_false ha] at KA
    have hM : moves c a b = [] := by unfold moves; rw [if_neg (fun h => ha h.1)]
    rw [hM]
    clear ha hM KB
    go_enter Tryd.func11, Tryd.ntmps11
    go_wp2_with fail
    refine (KA _).mono ?_
    rintro e w1 ⟨rfl, rfl⟩
    go_wp2
    go_ret
    exact ⟨_, rfl, movRow_nil _ _, (Below.refl _ _).alloc (Nat.le_refl _) _⟩
end Go.Proofs.YtckjcaloofjeoabDoor.ctr
