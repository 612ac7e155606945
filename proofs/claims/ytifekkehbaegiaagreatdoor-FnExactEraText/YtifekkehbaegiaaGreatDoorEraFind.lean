/- Contracts of the program's erasByName and of both FindEra: the map holds the nine eras by name; FindEra answers the number of the era that has the name, -1 for none. -/
import Derived.Test.YtifekkehbaegiaaGreatDoorEraMap
namespace Go.Proofs.YtifekkehbaegiaaGreatDoor.ctr
open Go.RowKit

theorem egrown {W wr W2 : World} {M : Nat} {o : Obj} (h : W.grownBy wr (some M)) (h2 : (wr.alloc o).grownBy W2 (some M)) : W.grownBy W2 (some M) :=
  ⟨h2.os.trans h.os, h2.tape.trans h.tape, h2.output.trans h.output, Nat.le_trans h.size (Nat.le_trans (by rw [enew]; omega) h2.size), fun j hj hn => (h2.block j (by rw [enew]; have := h.size; omega) hn).trans ((Below.heap_alloc wr o j (Nat.lt_of_lt_of_le hj h.size)).trans (h.block j hj hn))⟩
set_option maxRecDepth 100000 in
set_option maxHeartbeats 2000000 in
theorem implMap (w : World) : Calls Tryz.prog 52 #[] w fun e w' => ∃ M, e = .returned (.map (some M)) ∧ MapAt w' M 9 ∧ w.heap.size ≤ M ∧ Below w.heap.size w w' := by
  have hmm := @run_makeMap Tryz.prog
  go_enter Tryz.func52, Tryz.ntmps52
  go_wp2_with fail
  refine (implEras _).mono ?_
  rintro e W1 ⟨v, rfl, hr, hb⟩
  obtain ⟨g, cap, rfl, hg, H⟩ := hr.row.at
  have HC := hideP H
  have hM : MapAt (w.alloc (.map #[] 0)) w.heap.size 0 := heap_alloc_new w _
  have HM1 := hideP (hM.below hb hM.lt)
  have HB1 := hideP (below_alloc hb)
  have hgM : w.heap.size < g := by
    rcases hr.2 with ⟨_, h0⟩ | ⟨g', _, _, hv, hb', _⟩
    · simp at h0
    · rw [enew] at hb'
      simp at hv
      omega
  clear hr hb H hM hmm
  go_wp2
  go_loopw [7] (fun i wr => ∃ k : Nat, k ≤ 9 ∧ i = .int .i64 (k : Int) ∧ MapAt wr w.heap.size k ∧ Below w.heap.size w wr ∧ W1.grownBy wr (some w.heap.size)) (fun i _ => 9 - (intOf i).toNat)
  case atStart => exact ⟨0, Nat.zero_le _, rfl, HM1.out, HB1.out, ⟨rfl, rfl, rfl, Nat.le_refl _, fun _ _ _ => rfl⟩⟩
  case round =>
    obtain ⟨k, hk, rfl, hM, hB, hG⟩ := hrel
    have HM := hideP hM
    have HB := hideP hB
    have HG := hideP hG
    clear hM hB hG
    by_cases hlt : k < 9
    · have hne : some g ≠ some w.heap.size := by simp; omega
      obtain ⟨d0, d1, d2, d3⟩ := HC.out W1 (Below.refl _ _) k hlt
      have c0 := HG.out.cell d0 hne
      have c1 := HG.out.cell d1 hne
      have c2 := HG.out.cell d2 hne
      have c3 := HG.out.cell d3 hne
      have HP : Hid (∀ W, MapAt W w.heap.size k → ∃ w', (Instr.mapUpdate 72 (.map (some w.heap.size)) (.string (eraAt k).name) (placed (eraAt k) k)).run Tryz.prog W = .ok () w' ∧ MapAt w' w.heap.size (k + 1) ∧ W.grownBy w' (some w.heap.size)) := fun W h => run_put W w.heap.size k hlt h
      clear d0 d1 d2 d3 hne
      generalize eraAt k = f at *
      obtain ⟨s, st, ad, cy⟩ := f
      dsimp only at c0 c1 c2 c3
      obtain ⟨W2, hr2, hM2, hG2⟩ := HP.out (wr.alloc (.cells #[.string s, .int .i64 st, .int .i64 ad, .int .i64 cy] 25)) ((Below.heap_alloc wr _ _ HM.out.lt).trans HM.out)
      have HR2 := hideP hr2
      have HM2 := hideP hM2
      have HG2 := hideP hG2
      clear hr2 hM2 hG2
      go_wp2_with (at_mapUpdate; refine wpList_put _ W2 rfl _ _ _ 72 rfl _ _ _ rfl rfl rfl HR2.out ?_)
      refine ⟨⟨k + 1, by omega, by go_num, HM2.out, (HB.out.alloc HB.out.size _).grown HG2.out (by have := HB.out.size; rw [enew]; omega) (fun j hj => by cases hj; exact Nat.le_refl _), egrown HG.out HG2.out⟩, by simp [intOf]; omega⟩
    · have hkn : k = 9 := by omega
      subst hkn
      go_wp2
      go_ret
      exact ⟨_, rfl, HM.out, Nat.le_refl _, HB.out⟩

set_option maxHeartbeats 1000000 in
theorem specFindEra (s : ByteArray) (w : World) : Calls Tryz.prog 24 #[.string s] w fun e w' => e = .returned (.int .i64 (findEra s)) ∧ Below w.heap.size w w' := by
  go_enter Tryz.func24, Tryz.ntmps24
  go_wp2_with fail
  refine (specEras _).mono ?_
  rintro e W1 ⟨v, rfl, hr, hb⟩
  obtain ⟨g, cap, rfl, hg, H⟩ := hr.row.at
  have HC := hideP H
  have HB := hideP hb
  clear hr H hb
  go_wp2
  go_loopw [4] (fun i wr => ∃ k : Nat, k ≤ 9 ∧ i = .int .i64 (k : Int) ∧ Hid (eraFrom s (eras.drop k) k = findEra s) ∧ W1 = wr) (fun i _ => 9 - (intOf i).toNat)
  case atStart => exact ⟨0, Nat.zero_le _, rfl, rfl, rfl⟩
  case round =>
    obtain ⟨k, hk, rfl, HF, rfl⟩ := hrel
    by_cases hlt : k < 9
    · obtain ⟨c0, _⟩ := HC.out W1 (Below.refl _ _) k hlt
      have K1 := hideP (fun h => era_hit hlt h HF.out)
      have K2 := hideP (fun h => era_miss hlt h HF.out)
      have hsz := eraAt_size0 ⟨k, hlt⟩
      dsimp only at hsz
      generalize (eraAt k).name = n at *
      cases hq : (n.toList == s.toList)
      · have HN := hideP (K2.out (str_ne hq))
        go_wp2
        exact ⟨⟨k + 1, by omega, by go_num, HN.out, by first | rfl | trivial⟩, by simp [intOf]; omega⟩
      · have HN := hideP (K1.out (str_eq hq))
        go_wp2
        go_ret
        exact ⟨ret_int HN.out.symm, HB.out⟩
    · have HN := hideP (era_end (by omega) HF.out)
      go_wp2
      go_ret
      exact ⟨ret_int HN.out.symm, HB.out⟩

set_option maxHeartbeats 1000000 in
theorem implFindEra (s : ByteArray) (w : World) : Calls Tryz.prog 23 #[.string s] w fun e w' => e = .returned (.int .i64 (findEra s)) ∧ Below w.heap.size w w' := by
  go_enter Tryz.func23, Tryz.ntmps23
  go_wp2_with fail
  refine (implMap _).mono ?_
  rintro e W1 ⟨M, rfl, hM, hg, hb⟩
  have HB := hideP hb
  clear hb
  rcases run_look W1 M hM s with ⟨hf, hr⟩ | ⟨k, hk, hf, hn, hr⟩
  · have h1 := hr true
    simp only [if_true, placed, era0] at h1
    clear hr hM
    go_wp2
    go_ret
    exact ⟨ret_int hf.symm, HB.out.alloc HB.out.size _⟩
  · have h1 := hr true
    have HF := hideP hf
    simp only [if_true, placed] at h1
    clear hr hM hn hf
    generalize eraAt k = f at *
    obtain ⟨n, st, ad, cy⟩ := f
    dsimp only at h1
    go_wp2
    go_ret
    exact ⟨ret_int HF.out.symm, HB.out.alloc HB.out.size _⟩
end Go.Proofs.YtifekkehbaegiaaGreatDoor.ctr
