/- Contracts of container/heap's up and Push at the heap of segments: the heap's order comes back. -/
import Derived.Test.YtioiaefjkmgmdaaGreatDoorHeapMeth
import Derived.Test.YtioiaefjkmgmdaaGreatDoorHeapLess
namespace Go.Proofs.YtioiaefjkmgmdaaGreatDoor.ctr
open Go.RowKit

theorem atK_ps (L : List PSeg) (k : Nat) : atK psK L k = psA L k := rfl
theorem HS.swap {base : Nat} {w w' : World} {hb g cap : Nat} {L L' : List PSeg} (h : HS base w hb g cap L) (hl : L'.length = L.length) (hr : PRow psK 202 w' g cap L') (hg : w.grownBy w' (some g)) : HS base w' hb g cap L' :=
  ⟨by rw [hl]; exact (hg.block hb h.box.lt (fun e => h.ne (by simpa using e.symm))).trans h.box, hr, h.ne, h.lo, h.lg⟩
theorem HS.bel {base : Nat} {w w' : World} {hb g cap : Nat} {L : List PSeg} (h : HS base w hb g cap L) (hg : w.grownBy w' (some g)) : Below base w w' := below_grown2 hg h.sz (fun k e => by cases e; exact h.lg)
set_option maxRecDepth 100000 in
set_option maxHeartbeats 2000000 in
theorem heapUp (base hb g cap j0 : Nat) (L : List PSeg) (w : World) (h : HS base w hb g cap L) (hj : j0 < L.length) (hl : L.length ≤ 1048576) (hU : UpTo L L.length j0) :
    Calls Tryz.prog 236 #[.iface 197 (.pointer (some ⟨hb, 0, none⟩)), .int .i64 (j0 : Int)] w fun e w' => e = .returned (.tuple #[]) ∧ ∃ L', L'.Perm L ∧ HeapOn L' L'.length ∧ HS base w' hb g cap L' ∧ Below base w w' := by
  have H := hideP h
  have HU := hideP hU
  clear h hU
  go_enter Tryz.func236, Tryz.ntmps236
  go_wp2
  go_loopw [1] (fun i wr => ∃ (j : Nat) (l : List PSeg), i = .int .i64 (j : Int) ∧ j < L.length ∧ l.length = L.length ∧ Hid (l.Perm L ∧ UpTo l L.length j ∧ HS base wr hb g cap l ∧ Below base w wr)) (fun i _ => (intOf i).toNat)
  case atStart => exact ⟨j0, L, rfl, hj, rfl, List.Perm.refl _, HU.out, H.out, Below.refl _ _⟩
  case round =>
    obtain ⟨j, l, rfl, hjn, hln, HR⟩ := hrel
    have HLn := hideP hln
    clear H HU hln
    by_cases h0 : j = 0
    · subst h0
      go_wp2
      exact end_void Tryz.results236 rfl ⟨rfl, l, HR.out.1, by rw [HLn.out]; exact up_done HR.out.2.1 (.inl rfl), HR.out.2.2.1, HR.out.2.2.2⟩
    · obtain ⟨i, hi⟩ : ∃ i, (j - 1) / 2 = i := ⟨_, rfl⟩
      have hc : wr.cell? ⟨hb, 0, none⟩ = some (.slice (some ⟨g, 0, none⟩) L.length cap) := by rw [← HLn.out]; exact HR.out.2.2.1.box.cell 0 rfl
      have hd : Int.tdiv ((j : Int) - 1) 2 = (i : Int) := by
        rw [Int.tdiv_eq_ediv_of_nonneg (by omega)]
        omega
      have hij : i < j := by omega
      have hne : ((i : Int) == (j : Int)) = false := by simp; omega
      have HI := hideP hi
      have hm1 := meth_less hc
      have hlt : HS base wr hb g cap l := HR.out.2.2.1
      have KL := hideP (heapLess g L.length cap j i (psA l j) (psA l i) wr hlt.row.lt (by omega) (by omega) (hlt.row.at (by rw [HLn.out]; omega)) (hlt.row.at (by rw [HLn.out]; omega)))
      clear hi hlt
      go_wp2_with fail
      refine KL.out.mono ?_
      rintro e w1 ⟨rfl, hb1⟩
      have S1 := hideP (HR.out.2.2.1.next hb1)
      have B1 : Hid (Below base w w1) := HR.out.2.2.2.trans (hb1.mono (by have := HR.out.2.2.1.sz; exact this))
      clear hb1 hm1 hc
      cases hq : ltP (psA l j) (psA l i)
      · have HN : Hid (HeapOn l l.length) := by
          unfold Hid
          rw [HLn.out]
          exact up_done HR.out.2.1 (.inr (by rw [HI.out]; exact hq))
        go_wp2_with fail
        exact end_void Tryz.results236 rfl ⟨rfl, l, HR.out.1, HN.out, S1.out, B1.out⟩
      · have HN := hideP (up_next HLn.out HR.out.2.1 (by omega) hjn (by rw [HI.out]; exact hq))
        rw [HI.out] at HN
        have HPm := hideP ((swP_perm (l := l) (i := i) (j := j) (by rw [HLn.out]; omega) (by rw [HLn.out]; omega)).trans HR.out.1)
        have hc1 : w1.cell? ⟨hb, 0, none⟩ = some (.slice (some ⟨g, 0, none⟩) L.length cap) := by rw [← HLn.out]; exact S1.out.box.cell 0 rfl
        have hm2 := meth_swap hc1
        have KS0 := heapSwap g cap i j l w1 S1.out.row (by rw [HLn.out]; omega) (by rw [HLn.out]; omega)
        rw [HLn.out] at KS0
        have KS := hideP KS0
        clear KS0
        go_wp2_with fail
        refine KS.out.mono ?_
        rintro e w2 ⟨rfl, hr2, hg2⟩
        have S2 := hideP (S1.out.swap (swP_len l i j) hr2 hg2)
        have B2 : Hid (Below base w w2) := B1.out.trans (S1.out.bel hg2)
        clear hr2 hg2 hm2 hc1
        go_wp2_with fail
        exact ⟨⟨i, swP l i j, rfl, by omega, by rw [swP_len]; exact HLn.out, HPm.out, HN.out, S2.out, B2.out⟩, by simp [intOf]; omega⟩
end Go.Proofs.YtioiaefjkmgmdaaGreatDoor.ctr
