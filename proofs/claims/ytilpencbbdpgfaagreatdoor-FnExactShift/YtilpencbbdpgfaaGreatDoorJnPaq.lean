/- Contracts of container/heap's up and Push at the heap of segments: the heap's order comes back. Contracts of container/heap's Push, down and Pop, and of the heap's own Len, Pop and takeFirst. Contracts of the heap's Pop, of container/heap's Pop and of takeFirst: the segment that is ahead of all others is taken off. -/
import Derived.Test.YtilpencbbdpgfaaGreatDoorJnPap
namespace Go.Proofs.YtilpencbbdpgfaaGreatDoor.ctr
open Go.RowKit
theorem atK_ps (L : List PSeg) (k : Nat) : atK psK L k = psA L k := rfl
theorem HS.swap {base : Nat} {w w' : World} {hb g cap : Nat} {L L' : List PSeg} (h : HS base w hb g cap L) (hl : L'.length = L.length) (hr : PRow psK 337 w' g cap L') (hg : w.grownBy w' (some g)) : HS base w' hb g cap L' :=
  ⟨by rw [hl]; exact (hg.block hb h.box.lt (fun e => h.ne (by simpa using e.symm))).trans h.box, hr, h.ne, h.lo, h.lg⟩
theorem HS.bel {base : Nat} {w w' : World} {hb g cap : Nat} {L : List PSeg} (h : HS base w hb g cap L) (hg : w.grownBy w' (some g)) : Below base w w' := below_grown2 hg h.sz (fun k e => by cases e; exact h.lg)
set_option maxRecDepth 100000 in
set_option maxHeartbeats 2000000 in
theorem heapUp (base hb g cap j0 : Nat) (L : List PSeg) (w : World) (h : HS base w hb g cap L) (hj : j0 < L.length) (hl : L.length ≤ 1048576) (hU : UpTo L L.length j0) :
    Calls Tryz.prog 341 #[.iface 332 (.pointer (some ⟨hb, 0, none⟩)), .int .i64 (j0 : Int)] w fun e w' => e = .returned (.tuple #[]) ∧ ∃ L', L'.Perm L ∧ HeapOn L' L'.length ∧ HS base w' hb g cap L' ∧ Below base w w' := by
  have H := hideP h
  have HU := hideP hU
  clear h hU
  go_enter Tryz.func341, Tryz.ntmps341
  go_wp2
  go_loopw [1] (fun i wr => ∃ (j : Nat) (l : List PSeg), i = .int .i64 (j : Int) ∧ j < L.length ∧ l.length = L.length ∧ Hid (l.Perm L ∧ UpTo l L.length j ∧ HS base wr hb g cap l ∧ Below base w wr)) (fun i _ => (intOf i).toNat)
  case atStart => exact ⟨j0, L, rfl, hj, rfl, List.Perm.refl _, HU.out, H.out, Below.refl _ _⟩
  case round =>
    obtain ⟨j, l, rfl, hjn, hln, HR⟩ := hrel
    have HLn := hideP hln
    clear H HU hln
    by_cases h0 : j = 0
    · subst h0
      go_wp2
      exact end_void Tryz.results341 rfl ⟨rfl, l, HR.out.1, by rw [HLn.out]; exact up_done HR.out.2.1 (.inl rfl), HR.out.2.2.1, HR.out.2.2.2⟩
    · obtain ⟨i, hi⟩ : ∃ i, (j - 1) / 2 = i := ⟨_, rfl⟩
      have hc : wr.cell? ⟨hb, 0, none⟩ = some (.slice (some ⟨g, 0, none⟩) L.length cap) := by rw [← HLn.out]; exact HR.out.2.2.1.box.cell 0 rfl
      have hd : Int.tdiv ((j : Int) - 1) 2 = (i : Int) := by
        rw [Int.tdiv_eq_ediv_of_nonneg (by omega)]
        omega
      have hij : i < j := by omega
      have hne : ((i : Int) == (j : Int)) = false := by simp; omega
      have HI := hideP hi
      have hm1 := meth_less hc
      have hlt : HS base wr hb g cap l := HR.out.2.2.1
      have KL := hideP (heapLess g L.length cap j i (psA l j) (psA l i) wr hlt.row.lt (by omega) (by omega) (hlt.row.at (by rw [HLn.out]; omega)) (hlt.row.at (by rw [HLn.out]; omega)))
      clear hi hlt
      go_wp2_with fail
      refine KL.out.mono ?_
      rintro e w1 ⟨rfl, hb1⟩
      have S1 := hideP (HR.out.2.2.1.next hb1)
      have B1 : Hid (Below base w w1) := HR.out.2.2.2.trans (hb1.mono (by have := HR.out.2.2.1.sz; exact this))
      clear hb1 hm1 hc
      cases hq : ltP (psA l j) (psA l i)
      · have HN : Hid (HeapOn l l.length) := by
          unfold Hid
          rw [HLn.out]
          exact up_done HR.out.2.1 (.inr (by rw [HI.out]; exact hq))
        go_wp2_with fail
        exact end_void Tryz.results341 rfl ⟨rfl, l, HR.out.1, HN.out, S1.out, B1.out⟩
      · have HN := hideP (up_next HLn.out HR.out.2.1 (by omega) hjn (by rw [HI.out]; exact hq))
        rw [HI.out] at HN
        have HPm := hideP ((swP_perm (l := l) (i := i) (j := j) (by rw [HLn.out]; omega) (by rw [HLn.out]; omega)).trans HR.out.1)
        have hc1 : w1.cell? ⟨hb, 0, none⟩ = some (.slice (some ⟨g, 0, none⟩) L.length cap) := by rw [← HLn.out]; exact S1.out.box.cell 0 rfl
        have hm2 := meth_swap hc1
        have KS0 := heapSwap g cap i j l w1 S1.out.row (by rw [HLn.out]; omega) (by rw [HLn.out]; omega)
        rw [HLn.out] at KS0
        have KS := hideP KS0
        clear KS0
        go_wp2_with fail
        refine KS.out.mono ?_
        rintro e w2 ⟨rfl, hr2, hg2⟩
        have S2 := hideP (S1.out.swap (swP_len l i j) hr2 hg2)
        have B2 : Hid (Below base w w2) := B1.out.trans (S1.out.bel hg2)
        clear hr2 hg2 hm2 hc1
        go_wp2_with fail
        exact ⟨⟨i, swP l i j, rfl, by omega, by rw [swP_len]; exact HLn.out, HPm.out, HN.out, S2.out, B2.out⟩, by simp [intOf]; omega⟩
end Go.Proofs.YtilpencbbdpgfaaGreatDoor.ctr
namespace Go.Proofs.YtilpencbbdpgfaaGreatDoor.ctr
open Go.RowKit
theorem heapLen (a : Option Addr) (n c : Nat) (w : World) : Calls Tryz.prog 427 #[.slice a n c] w fun e w' => e = .returned (.int .i64 (n : Int)) ∧ w' = w := by
  go_enter Tryz.func427, Tryz.ntmps427
  go_wp2
  go_ret
  exact ⟨rfl, rfl⟩
set_option maxRecDepth 100000 in
set_option maxHeartbeats 2000000 in
theorem heapPush (base hb g cap : Nat) (L : List PSeg) (x : PSeg) (w : World) (h : HS base w hb g cap L) (hl : L.length < 1048576) (hH : HeapOn L L.length) :
    Calls Tryz.prog 322 #[.iface 332 (.pointer (some ⟨hb, 0, none⟩)), .iface 337 (.agg #[.int .i64 x.s.fr, .int .i64 x.s.to, .int .i64 x.s.cal, .int .i64 x.s.sty, .int .i64 x.s.off, .int .i64 x.at'])] w fun e w' => e = .returned (.tuple #[]) ∧ ∃ g' cap' L', L'.Perm (L ++ [x]) ∧ HeapOn L' L'.length ∧ HS base w' hb g' cap' L' ∧ Below base w w' := by
  have hm1 := meth_push ⟨hb, 0, none⟩
  have KP := hideP (heapPushM base hb g cap L x w h hl)
  have HU : Hid (UpTo (L ++ [x]) (L ++ [x]).length L.length) := by
    unfold Hid
    rw [show (L ++ [x]).length = L.length + 1 by simp]
    exact up_start hH rfl
  clear h hH
  go_enter Tryz.func322, Tryz.ntmps322
  go_wp2_with fail
  refine KP.out.mono ?_
  rintro e w1 ⟨rfl, g', cap', S1, B1⟩
  have hc : w1.cell? ⟨hb, 0, none⟩ = some (.slice (some ⟨g', 0, none⟩) (L.length + 1) cap') := by
    have := S1.box.cell 0 rfl
    simpa using this
  have hm2 := meth_len hc
  have KL := hideP (heapLen (some ⟨g', 0, none⟩) (L.length + 1) cap' w1)
  have KU := hideP (heapUp base hb g' cap' L.length (L ++ [x]) w1 S1 (by simp) (by simp; omega) HU.out)
  have HB1 := hideP B1
  clear S1 B1 hm1
  go_wp2_with fail
  refine KL.out.mono ?_
  rintro e w2 ⟨rfl, rfl⟩
  go_wp2_with fail
  refine KU.out.mono ?_
  rintro e w3 ⟨rfl, L', p, q, S3, B3⟩
  have HR := hideP (show ∃ g' cap' L', L'.Perm (L ++ [x]) ∧ HeapOn L' L'.length ∧ HS base w3 hb g' cap' L' ∧ Below base w w3 from ⟨g', cap', L', p, q, S3, HB1.out.trans B3⟩)
  clear p q S3 B3 hm2 hc
  go_wp2_with fail
  exact end_void Tryz.results322 rfl ⟨rfl, HR.out⟩
structure Fr (hb g : Nat) (w w' : World) : Prop where
  os : w'.os = w.os
  tape : w'.tape = w.tape
  output : w'.output = w.output
  size : w.heap.size ≤ w'.heap.size
  block : ∀ k, k < w.heap.size → k ≠ hb → k ≠ g → w'.heap[k]? = w.heap[k]?
theorem Fr.refl (hb g : Nat) (w : World) : Fr hb g w w := ⟨rfl, rfl, rfl, Nat.le_refl _, fun _ _ _ _ => rfl⟩
theorem Fr.trans {hb g : Nat} {w w1 w2 : World} (h : Fr hb g w w1) (k : Fr hb g w1 w2) : Fr hb g w w2 := ⟨k.os.trans h.os, k.tape.trans h.tape, k.output.trans h.output, Nat.le_trans h.size k.size, fun j hj h1 h2 => (k.block j (Nat.lt_of_lt_of_le hj h.size) h1 h2).trans (h.block j hj h1 h2)⟩
theorem Fr.of {hb g : Nat} {w w1 : World} (h : Below w.heap.size w w1) : Fr hb g w w1 := ⟨h.os, h.tape, h.output, h.size, fun k hk _ _ => h.block k hk⟩
theorem Fr.grown {hb g : Nat} {w w1 : World} (h : w.grownBy w1 (some g)) : Fr hb g w w1 := ⟨h.os, h.tape, h.output, h.size, fun k hk _ h2 => h.block k hk (fun e => h2 (by simpa using e))⟩
theorem Fr.bel {hb g base : Nat} {w w1 : World} (h : Fr hb g w w1) (h0 : base ≤ w.heap.size) (h1 : base ≤ hb) (h2 : base ≤ g) : Below base w w1 := ⟨h.os, h.tape, h.output, h.size, fun k hk => h.block k (by omega) (by omega) (by omega)⟩
theorem Fr.blk {hb g b : Nat} {w w1 : World} {cs : Array Value} {t : TypeId} (h : Fr hb g w w1) (hB : Blk w b cs t) (h1 : b ≠ hb) (h2 : b ≠ g) : Blk w1 b cs t := (h.block b hB.lt h1 h2).trans hB
def Sunk (base : Nat) (w : World) (hb g cap n : Nat) (L : List PSeg) (w' : World) : Prop := ∃ L', L'.length = L.length ∧ L'.Perm L ∧ HeapOn L' n ∧ (∀ k, n ≤ k → psA L' k = psA L k) ∧ HS base w' hb g cap L' ∧ Fr hb g w w'
theorem sw_far {l : List PSeg} {i j k n : Nat} (hi : i < n) (hj : j < n) (hn : n ≤ l.length) (hk : n ≤ k) : psA (swP l i j) k = psA l k := by
  rw [psA_sw (by omega) (by omega), if_neg (by omega), if_neg (by omega)]
theorem kids {i k : Nat} (h0 : 0 < k) (h : (k - 1) / 2 = i) : k = 2 * i + 1 ∨ k = 2 * i + 2 := by omega
set_option maxRecDepth 100000 in
set_option maxHeartbeats 4000000 in
theorem heapDown (base hb g cap n : Nat) (L : List PSeg) (w : World) (h : HS base w hb g cap L) (hn : n < L.length) (hl : L.length ≤ 1048576) (hD : DownTo L n 0) :
    Calls Tryz.prog 357 #[.iface 332 (.pointer (some ⟨hb, 0, none⟩)), .int .i64 0, .int .i64 (n : Int)] w fun e w' => ∃ b, e = .returned (.bool b) ∧ Sunk base w hb g cap n L w' := by
  have H := hideP h
  have HD := hideP hD
  clear h hD
  go_enter Tryz.func357, Tryz.ntmps357
  go_wp2
  go_loopw [7] (fun i wr => ∃ (j : Nat) (l : List PSeg), i = .int .i64 (j : Int) ∧ (j = 0 ∨ j < n) ∧ Hid (l.length = L.length ∧ l.Perm L ∧ DownTo l n j ∧ (∀ k, n ≤ k → psA l k = psA L k) ∧ HS base wr hb g cap l ∧ Fr hb g w wr)) (fun i _ => n - (intOf i).toNat)
  case atStart => exact ⟨0, L, rfl, .inl rfl, rfl, List.Perm.refl _, HD.out, fun _ _ => rfl, H.out, Fr.refl _ _ _⟩
  case round =>
    obtain ⟨i, l, rfl, hi, HR⟩ := hrel
    clear H HD
    have HLn := hideP HR.out.1
    by_cases hA : n ≤ 2 * i + 1
    · have HN : Hid (Sunk base w hb g cap n L wr) := ⟨l, HR.out.1, HR.out.2.1, down_done HR.out.2.2.1 (fun k k0 hk e => by have := kids k0 e; omega), HR.out.2.2.2.1, HR.out.2.2.2.2.1, HR.out.2.2.2.2.2⟩
      have hA' : (n : Int) ≤ 2 * (i : Int) + 1 := by omega
      go_wp2_with fail
      go_ret
      exact ⟨_, rfl, HN.out⟩
    have hin : i < n := by omega
    have hA' : ¬ ((n : Int) ≤ 2 * (i : Int) + 1) := by omega
    have S0 := hideP HR.out.2.2.2.2.1
    have B0 := hideP HR.out.2.2.2.2.2
    have hc : wr.cell? ⟨hb, 0, none⟩ = some (.slice (some ⟨g, 0, none⟩) L.length cap) := by rw [← HLn.out]; exact S0.out.box.cell 0 rfl
    obtain ⟨j1, hj1⟩ : ∃ j1 : Nat, j1 = 2 * i + 1 := ⟨_, rfl⟩
    have E1 : Hid (2 * (i : Int) + 1 = (j1 : Int)) := by unfold Hid; omega
    have E2 : Hid (2 * (i : Int) + 1 + 1 = ((j1 + 1 : Nat) : Int)) := by unfold Hid; omega
    have HJ1 := hideP hj1
    clear hj1
    by_cases hB : j1 + 1 < n
    · have hB' : 2 * (i : Int) + 1 + 1 < (n : Int) := by have := HJ1.out; omega
      have hm1 := meth_less hc
      have hj1 := HJ1.out
      have K0 := heapLess g L.length cap (j1 + 1) j1 (psA l (j1 + 1)) (psA l j1) wr S0.out.row.lt (by omega) (by omega) (S0.out.row.at (by rw [HLn.out]; omega)) (S0.out.row.at (by rw [HLn.out]; omega))
      rw [← E2.out, ← E1.out] at K0
      have KL0 := hideP K0
      clear K0 hj1
      go_wp2_with fail
      refine KL0.out.mono ?_
      rintro e w4 ⟨rfl, hb4⟩
      have S4 := hideP (S0.out.next hb4)
      have B4 : Hid (Fr hb g w w4) := B0.out.trans (Fr.of hb4)
      have hc4 : w4.cell? ⟨hb, 0, none⟩ = some (.slice (some ⟨g, 0, none⟩) L.length cap) := by rw [← HLn.out]; exact S4.out.box.cell 0 rfl
      clear hb4 hm1 hc
      cases hq0 : ltP (psA l (j1 + 1)) (psA l j1)
      · have HM : Hid (∀ k, 0 < k → k < n → (k - 1) / 2 = i → leP (psA l j1) (psA l k)) := fun k k0 hk e => by
          rcases kids k0 e with e | e
          · rw [e, ← HJ1.out]; exact leP_refl _
          · rw [e, show 2 * i + 2 = j1 + 1 by have := HJ1.out; omega]; exact hq0
        have hj1 := HJ1.out
        have K0 := heapLess g L.length cap j1 i (psA l j1) (psA l i) w4 S4.out.row.lt (by omega) (by omega) (S4.out.row.at (by rw [HLn.out]; omega)) (S4.out.row.at (by rw [HLn.out]; omega))
        rw [← E1.out] at K0
        have KL := hideP K0
        clear K0
        have hjn : j1 < n := by omega
        have HJP : Hid ((j1 - 1) / 2 = i) := by unfold Hid; omega
        have hj0 : 0 < j1 := by omega
        clear hj1
        have hm3 := meth_less hc4
        go_wp2_with fail
        refine KL.out.mono ?_
        rintro e w5 ⟨rfl, hb5⟩
        have S5 := hideP (S4.out.next hb5)
        have B5 : Hid (Fr hb g w w5) := B4.out.trans (Fr.of hb5)
        clear hb5 hm3
        cases hq : ltP (psA l j1) (psA l i)
        · have HN : Hid (Sunk base w hb g cap n L w5) := ⟨l, HR.out.1, HR.out.2.1, down_done HR.out.2.2.1 (fun k k0 hk e => leP_trans hq (HM.out k k0 hk e)), HR.out.2.2.2.1, S5.out, B5.out⟩
          go_wp2_with fail
          go_ret
          exact ⟨_, rfl, HN.out⟩
        · have HN := hideP (down_next (j := j1) (by rw [HLn.out]; omega) HR.out.2.2.1 hjn hj0 HJP.out HM.out hq)
          have HPm := hideP ((swP_perm (l := l) (i := i) (j := j1) (by rw [HLn.out]; omega) (by rw [HLn.out]; omega)).trans HR.out.2.1)
          have HF : Hid (∀ k, n ≤ k → psA (swP l i (j1)) k = psA L k) := fun k hk => (sw_far hin (by omega) (by rw [HLn.out]; omega) hk).trans (HR.out.2.2.2.1 k hk)
          have hc5 : w5.cell? ⟨hb, 0, none⟩ = some (.slice (some ⟨g, 0, none⟩) L.length cap) := by rw [← HLn.out]; exact S5.out.box.cell 0 rfl
          have hm4 := meth_swap hc5
          have KS0 := heapSwap g cap i (j1) l w5 S5.out.row (by rw [HLn.out]; omega) (by rw [HLn.out]; omega)
          rw [HLn.out, ← E1.out] at KS0
          have KS := hideP KS0
          clear KS0
          go_wp2_with fail
          refine KS.out.mono ?_
          rintro e w6 ⟨rfl, hr6, hg6⟩
          have S6 := hideP (S5.out.swap (swP_len l i (j1)) hr6 hg6)
          have B6 : Hid (Fr hb g w w6) := B5.out.trans (Fr.grown hg6)
          clear hr6 hg6 hm4 hc5
          go_wp2_with fail
          exact ⟨⟨j1, swP l i (j1), by rw [E1.out], .inr hjn, by rw [swP_len]; exact HLn.out, HPm.out, HN.out, HF.out, S6.out, B6.out⟩, by simp [intOf]; have := HJ1.out; omega⟩
      · have HM : Hid (∀ k, 0 < k → k < n → (k - 1) / 2 = i → leP (psA l (j1 + 1)) (psA l k)) := fun k k0 hk e => by
          rcases kids k0 e with e | e
          · rw [e, ← HJ1.out]; exact leP_of_lt hq0
          · rw [e, show 2 * i + 2 = j1 + 1 by have := HJ1.out; omega]; exact leP_refl _
        have hj1 := HJ1.out
        have K0 := heapLess g L.length cap (j1 + 1) i (psA l (j1 + 1)) (psA l i) w4 S4.out.row.lt (by omega) (by omega) (S4.out.row.at (by rw [HLn.out]; omega)) (S4.out.row.at (by rw [HLn.out]; omega))
        rw [← E2.out] at K0
        have KL := hideP K0
        clear K0
        have hjn : (j1 + 1) < n := by omega
        have HJP : Hid (((j1 + 1) - 1) / 2 = i) := by unfold Hid; omega
        have hj0 : 0 < (j1 + 1) := by omega
        clear hj1
        have hm3 := meth_less hc4
        go_wp2_with fail
        refine KL.out.mono ?_
        rintro e w5 ⟨rfl, hb5⟩
        have S5 := hideP (S4.out.next hb5)
        have B5 : Hid (Fr hb g w w5) := B4.out.trans (Fr.of hb5)
        clear hb5 hm3
        cases hq : ltP (psA l (j1 + 1)) (psA l i)
        · have HN : Hid (Sunk base w hb g cap n L w5) := ⟨l, HR.out.1, HR.out.2.1, down_done HR.out.2.2.1 (fun k k0 hk e => leP_trans hq (HM.out k k0 hk e)), HR.out.2.2.2.1, S5.out, B5.out⟩
          go_wp2_with fail
          go_ret
          exact ⟨_, rfl, HN.out⟩
        · have HN := hideP (down_next (j := (j1 + 1)) (by rw [HLn.out]; omega) HR.out.2.2.1 hjn hj0 HJP.out HM.out hq)
          have HPm := hideP ((swP_perm (l := l) (i := i) (j := (j1 + 1)) (by rw [HLn.out]; omega) (by rw [HLn.out]; omega)).trans HR.out.2.1)
          have HF : Hid (∀ k, n ≤ k → psA (swP l i ((j1 + 1))) k = psA L k) := fun k hk => (sw_far hin (by omega) (by rw [HLn.out]; omega) hk).trans (HR.out.2.2.2.1 k hk)
          have hc5 : w5.cell? ⟨hb, 0, none⟩ = some (.slice (some ⟨g, 0, none⟩) L.length cap) := by rw [← HLn.out]; exact S5.out.box.cell 0 rfl
          have hm4 := meth_swap hc5
          have KS0 := heapSwap g cap i ((j1 + 1)) l w5 S5.out.row (by rw [HLn.out]; omega) (by rw [HLn.out]; omega)
          rw [HLn.out, ← E2.out] at KS0
          have KS := hideP KS0
          clear KS0
          go_wp2_with fail
          refine KS.out.mono ?_
          rintro e w6 ⟨rfl, hr6, hg6⟩
          have S6 := hideP (S5.out.swap (swP_len l i ((j1 + 1))) hr6 hg6)
          have B6 : Hid (Fr hb g w w6) := B5.out.trans (Fr.grown hg6)
          clear hr6 hg6 hm4 hc5
          go_wp2_with fail
          exact ⟨⟨(j1 + 1), swP l i ((j1 + 1)), by rw [E2.out], .inr hjn, by rw [swP_len]; exact HLn.out, HPm.out, HN.out, HF.out, S6.out, B6.out⟩, by simp [intOf]; have := HJ1.out; omega⟩
    · have hB' : ¬ (2 * (i : Int) + 1 + 1 < (n : Int)) := by have := HJ1.out; omega
      have HM : Hid (∀ k, 0 < k → k < n → (k - 1) / 2 = i → leP (psA l j1) (psA l k)) := fun k k0 hk e => by
        rcases kids k0 e with e | e
        · rw [e, ← HJ1.out]; exact leP_refl _
        · have := HJ1.out; omega
      have hj1 := HJ1.out
      have K0 := heapLess g L.length cap j1 i (psA l j1) (psA l i) wr S0.out.row.lt (by omega) (by omega) (S0.out.row.at (by rw [HLn.out]; omega)) (S0.out.row.at (by rw [HLn.out]; omega))
      rw [← E1.out] at K0
      have KL := hideP K0
      clear K0
      have hjn : j1 < n := by omega
      have HJP : Hid ((j1 - 1) / 2 = i) := by unfold Hid; omega
      have hj0 : 0 < j1 := by omega
      clear hj1
      have hm3 := meth_less hc
      go_wp2_with fail
      refine KL.out.mono ?_
      rintro e w5 ⟨rfl, hb5⟩
      have S5 := hideP (S0.out.next hb5)
      have B5 : Hid (Fr hb g w w5) := B0.out.trans (Fr.of hb5)
      clear hb5 hm3
      cases hq : ltP (psA l j1) (psA l i)
      · have HN : Hid (Sunk base w hb g cap n L w5) := ⟨l, HR.out.1, HR.out.2.1, down_done HR.out.2.2.1 (fun k k0 hk e => leP_trans hq (HM.out k k0 hk e)), HR.out.2.2.2.1, S5.out, B5.out⟩
        go_wp2_with fail
        go_ret
        exact ⟨_, rfl, HN.out⟩
      · have HN := hideP (down_next (j := j1) (by rw [HLn.out]; omega) HR.out.2.2.1 hjn hj0 HJP.out HM.out hq)
        have HPm := hideP ((swP_perm (l := l) (i := i) (j := j1) (by rw [HLn.out]; omega) (by rw [HLn.out]; omega)).trans HR.out.2.1)
        have HF : Hid (∀ k, n ≤ k → psA (swP l i (j1)) k = psA L k) := fun k hk => (sw_far hin (by omega) (by rw [HLn.out]; omega) hk).trans (HR.out.2.2.2.1 k hk)
        have hc5 : w5.cell? ⟨hb, 0, none⟩ = some (.slice (some ⟨g, 0, none⟩) L.length cap) := by rw [← HLn.out]; exact S5.out.box.cell 0 rfl
        have hm4 := meth_swap hc5
        have KS0 := heapSwap g cap i (j1) l w5 S5.out.row (by rw [HLn.out]; omega) (by rw [HLn.out]; omega)
        rw [HLn.out, ← E1.out] at KS0
        have KS := hideP KS0
        clear KS0
        go_wp2_with fail
        refine KS.out.mono ?_
        rintro e w6 ⟨rfl, hr6, hg6⟩
        have S6 := hideP (S5.out.swap (swP_len l i (j1)) hr6 hg6)
        have B6 : Hid (Fr hb g w w6) := B5.out.trans (Fr.grown hg6)
        clear hr6 hg6 hm4 hc5
        go_wp2_with fail
        exact ⟨⟨j1, swP l i (j1), by rw [E1.out], .inr hjn, by rw [swP_len]; exact HLn.out, HPm.out, HN.out, HF.out, S6.out, B6.out⟩, by simp [intOf]; have := HJ1.out; omega⟩
end Go.Proofs.YtilpencbbdpgfaaGreatDoor.ctr
namespace Go.Proofs.YtilpencbbdpgfaaGreatDoor.ctr
open Go.RowKit
set_option maxRecDepth 100000 in
set_option maxHeartbeats 2000000 in
theorem heapPopM (base hb g cap n : Nat) (L : List PSeg) (w : World) (h : HS base w hb g cap L) (hn : L.length = n + 1) (hl : n < 1048576) :
    Calls Tryz.prog 429 #[.pointer (some ⟨hb, 0, none⟩)] w fun e w' => e = .returned (.iface 337 (.agg #[.int .i64 (psA L n).s.fr, .int .i64 (psA L n).s.to, .int .i64 (psA L n).s.cal, .int .i64 (psA L n).s.sty, .int .i64 (psA L n).s.off, .int .i64 (psA L n).at'])) ∧ HS base w' hb g cap (L.take n) ∧ Fr hb g w w' := by
  have hc : w.cell? ⟨hb, 0, none⟩ = some (.slice (some ⟨g, 0, none⟩) (n + 1) cap) := by rw [← hn]; exact h.box.cell 0 rfl
  have hf := h.box.thaw 0
  have hlb := h.box.lt
  have hlg := h.row.lt
  obtain ⟨c0, c1, c2, c3, c4, c5⟩ := (h.row.at (k := n) (by omega)).ps
  have hcap : n + 1 ≤ cap := by obtain ⟨_, _, _, q, _⟩ := h.row; omega
  have hcm : cap ≤ maxLen := by obtain ⟨_, _, _, _, q, _⟩ := h.row; exact q
  have H := hideP h
  have HN := hideP hn
  have ht : Hid ((L.take n).length = n) := by unfold Hid; simp; omega
  unfold maxLen at hcm
  rw [atK_ps] at c0 c1 c2 c3 c4 c5
  clear h hn
  generalize psA L n = x at *
  go_enter Tryz.func429, Tryz.ntmps429
  go_wp2_with fail
  go_ret
  refine ⟨rfl, ⟨?_, ?_, H.out.ne, H.out.lo, H.out.lg⟩, ?_⟩
  · rw [ht.out]
    exact (H.out.box.set 0 _).alloc _
  · obtain ⟨cur, q1, q2⟩ := H.out.row.shorter n
    exact ⟨cur, (q1.other (Ne.symm H.out.ne)).alloc _, q2⟩
  · have q : Below hb w ((w.setCell ⟨hb, 0, none⟩ (.slice (some ⟨g, 0, none⟩) n cap)).alloc (.cells #[.int .i64 x.s.fr, .int .i64 x.s.to, .int .i64 x.s.cal, .int .i64 x.s.sty, .int .i64 x.s.off, .int .i64 x.at'] 337)) := ((Below.refl hb w).setCell (p := ⟨hb, 0, none⟩) (Nat.le_refl _) _).alloc (by rw [World.size_setCell]; exact Nat.le_of_lt hlb) _
    refine ⟨q.os, q.tape, q.output, q.size, fun k hk h1 _ => ?_⟩
    rw [Below.heap_alloc _ _ k (by rw [World.size_setCell]; exact hk)]
    exact Below.heap_setCell w _ _ k h1
set_option maxRecDepth 100000 in
set_option maxHeartbeats 2000000 in
theorem heapPop (base hb g cap n : Nat) (L : List PSeg) (w : World) (h : HS base w hb g cap L) (hn : L.length = n + 1) (hl : n < 1048576) (hH : HeapOn L L.length) :
    Calls Tryz.prog 342 #[.iface 332 (.pointer (some ⟨hb, 0, none⟩))] w fun e w' => e = .returned (.iface 337 (.agg #[.int .i64 (psA L 0).s.fr, .int .i64 (psA L 0).s.to, .int .i64 (psA L 0).s.cal, .int .i64 (psA L 0).s.sty, .int .i64 (psA L 0).s.off, .int .i64 (psA L 0).at'])) ∧ ∃ L', (psA L 0 :: L').Perm L ∧ HeapOn L' L'.length ∧ HS base w' hb g cap L' ∧ Fr hb g w w' := by
  have hc : w.cell? ⟨hb, 0, none⟩ = some (.slice (some ⟨g, 0, none⟩) (n + 1) cap) := by rw [← hn]; exact h.box.cell 0 rfl
  have hm1 := meth_len hc
  have hm2 := meth_swap hc
  have KL := hideP (heapLen (some ⟨g, 0, none⟩) (n + 1) cap w)
  have KS0 := heapSwap g cap 0 n L w h.row (by omega) (by omega)
  rw [hn] at KS0
  have KS := hideP KS0
  have HD := hideP (down_start (l := L) (n := n) (by rw [← hn]; exact hH) hn)
  have hlast : Hid (psA (swP L 0 n) n = psA L 0) := by
    unfold Hid
    rw [psA_sw (by omega) (by omega), if_pos rfl]
  have HP := hideP (swP_perm (l := L) (i := 0) (j := n) (by omega) (by omega))
  have hlen : Hid ((swP L 0 n).length = n + 1) := by unfold Hid; rw [swP_len, hn]
  have H := hideP h
  have HN := hideP hn
  clear h hn hH KS0
  go_enter Tryz.func342, Tryz.ntmps342
  go_wp2_with fail
  refine KL.out.mono ?_
  rintro e w1 ⟨rfl, rfl⟩
  go_wp2_with fail
  refine KS.out.mono ?_
  rintro e w2 ⟨rfl, hr2, hg2⟩
  have S2 := hideP (H.out.swap (swP_len L 0 n) hr2 hg2)
  have B2 : Hid (Fr hb g w1 w2) := Fr.grown hg2
  clear hr2 hg2 hm1 hm2 hc
  have KD := hideP (heapDown base hb g cap n (swP L 0 n) w2 S2.out (by rw [hlen.out]; omega) (by rw [hlen.out]; omega) HD.out)
  go_wp2_with fail
  refine KD.out.mono ?_
  rintro e w3 ⟨b, rfl, L3, q1, q2, q3, q4, S3, B3⟩
  have hm3 := meth_pop ⟨hb, 0, none⟩
  have KP0 := heapPopM base hb g cap n L3 w3 S3 (by rw [q1, hlen.out]) hl
  rw [q4 n (Nat.le_refl _), hlast.out] at KP0
  have KP := hideP KP0
  have HR : Hid ((psA L 0 :: L3.take n).Perm L) := by
    have e : L3 = L3.take n ++ [psA L 0] := by
      have := take_last (l := L3) (n := n) (by rw [q1, hlen.out])
      rw [q4 n (Nat.le_refl _), hlast.out] at this
      exact this
    have p1 : (psA L 0 :: L3.take n).Perm L3 := by
      rw (occs := .pos [2]) [e]
      exact (List.perm_append_singleton _ _).symm
    exact p1.trans (q2.trans HP.out)
  have HH : Hid (HeapOn (L3.take n) (L3.take n).length) := by
    unfold Hid
    rw [show (L3.take n).length = n by simp; rw [q1, hlen.out]; omega]
    exact heap_init q3
  have B3' : Hid (Fr hb g w1 w3) := B2.out.trans B3
  clear KP0 q1 q2 q3 q4 S3 B3
  go_wp2_with fail
  refine KP.out.mono ?_
  rintro e w4 ⟨rfl, S4, B4⟩
  have HF : Hid (∃ L', (psA L 0 :: L').Perm L ∧ HeapOn L' L'.length ∧ HS base w4 hb g cap L' ∧ Fr hb g w1 w4) := ⟨_, HR.out, HH.out, S4, B3'.out.trans B4⟩
  clear S4 B4
  go_wp2_with fail
  go_ret
  exact ⟨rfl, HF.out⟩
theorem field_ps (a b c d e f : Int) (w : World) : (Instr.field 337 (.agg #[.int .i64 a, .int .i64 b, .int .i64 c, .int .i64 d, .int .i64 e, .int .i64 f]) 0).run Tryz.prog w = .ok (.agg #[.int .i64 a, .int .i64 b, .int .i64 c, .int .i64 d, .int .i64 e]) w := by kernel_rfl
theorem HS.far {base : Nat} {w : World} {hb g cap b i : Nat} {L : List PSeg} (h : HS base w hb g cap L) (h1 : b ≠ hb) (h2 : b ≠ g) (v : Value) : HS base (w.setCell ⟨b, i, none⟩ v) hb g cap L := by
  obtain ⟨cur, q1, q2⟩ := h.row
  exact ⟨h.box.other h1, ⟨cur, q1.other h2, q2⟩, h.ne, h.lo, h.lg⟩
theorem Fr.far {hb g i : Nat} {w w1 : World} (h : Fr hb g w w1) (v : Value) : Fr hb g w (w1.setCell ⟨w.heap.size, i, none⟩ v) :=
  ⟨h.os, h.tape, h.output, by rw [World.size_setCell]; exact h.size, fun k hk h1 h2 => (Below.heap_setCell w1 _ _ k (by show k ≠ w.heap.size; omega)).trans (h.block k hk h1 h2)⟩
set_option maxRecDepth 100000 in
set_option maxHeartbeats 2000000 in
theorem takeFirst (base hb g cap n : Nat) (L : List PSeg) (w : World) (h : HS base w hb g cap L) (hn : L.length = n + 1) (hl : n < 1048576) (hH : HeapOn L L.length) :
    Calls Tryz.prog 323 #[.pointer (some ⟨hb, 0, none⟩)] w fun e w' => e = .returned (.agg #[.int .i64 (psA L 0).s.fr, .int .i64 (psA L 0).s.to, .int .i64 (psA L 0).s.cal, .int .i64 (psA L 0).s.sty, .int .i64 (psA L 0).s.off]) ∧ ∃ L', (psA L 0 :: L').Perm L ∧ HeapOn L' L'.length ∧ HS base w' hb g cap L' ∧ Fr hb g w w' := by
  have hta := is_ps
  have hfd := field_ps
  obtain ⟨W0, hW0⟩ : ∃ W0, W0 = w.alloc (.cells #[.int .i64 0, .int .i64 0, .int .i64 0, .int .i64 0, .int .i64 0] 95) := ⟨_, rfl⟩
  have h0 : Blk W0 w.heap.size #[.int .i64 0, .int .i64 0, .int .i64 0, .int .i64 0, .int .i64 0] 95 := by rw [hW0]; exact Blk.new _ _ _
  have hb0 : Below w.heap.size w W0 := by rw [hW0]; exact (Below.refl _ _).alloc (Nat.le_refl _) _
  have hz0 : W0.heap.size = w.heap.size + 1 := by rw [hW0, World.size_alloc]
  have S0 := h.next hb0
  have hg : g < w.heap.size := h.row.lt
  have hhb : hb < w.heap.size := h.box.lt
  have KP := hideP (heapPop base hb g cap n L W0 S0 hn hl hH)
  have HB0 : Hid (Fr hb g w W0) := Fr.of hb0
  have HW0 := hideP hW0
  have HK0 := hideP h0
  have H := hideP h
  clear h hn hH hW0 h0 hb0 hz0 S0
  generalize psA L 0 = x at *
  go_enter Tryz.func323, Tryz.ntmps323
  go_wp2_with fail
  rw [← HW0.out]
  refine KP.out.mono ?_
  rintro e w1 ⟨rfl, L', p, q, S1, F1⟩
  have K1 := F1.blk HK0.out (by omega) (by omega)
  have q0 := K1.cell 0 rfl
  have q1 := K1.cell 1 rfl
  have q2 := K1.cell 2 rfl
  have q3 := K1.cell 3 rfl
  have q4 := K1.cell 4 rfl
  have f0 := K1.thaw 0
  have f1 := K1.thaw 1
  have f2 := K1.thaw 2
  have f3 := K1.thaw 3
  have f4 := K1.thaw 4
  have HK1 := hideP K1
  have HS1 := hideP S1
  have HF1 : Hid (Fr hb g w w1) := HB0.out.trans F1
  have HP := hideP p
  have HQ := hideP q
  clear K1 S1 F1 p q
  go_wp2_with fail
  obtain ⟨W9, e9⟩ : ∃ W9, W9 = ((((w1.setCell ⟨w.heap.size, 0, none⟩ (.int .i64 x.s.fr)).setCell ⟨w.heap.size, 1, none⟩ (.int .i64 x.s.to)).setCell ⟨w.heap.size, 2, none⟩ (.int .i64 x.s.cal)).setCell ⟨w.heap.size, 3, none⟩ (.int .i64 x.s.sty)).setCell ⟨w.heap.size, 4, none⟩ (.int .i64 x.s.off) := ⟨_, rfl⟩
  have Z9 : Blk W9 w.heap.size #[.int .i64 x.s.fr, .int .i64 x.s.to, .int .i64 x.s.cal, .int .i64 x.s.sty, .int .i64 x.s.off] 95 := by rw [e9]; exact ((((HK1.out.set 0 _).set 1 _).set 2 _).set 3 _).set 4 _
  have S9 : HS base W9 hb g cap L' := by
    rw [e9]
    exact HS.far (HS.far (HS.far (HS.far (HS.far HS1.out (by omega) (by omega) _) (by omega) (by omega) _) (by omega) (by omega) _) (by omega) (by omega) _) (by omega) (by omega) _
  have B9 : Fr hb g w W9 := by
    rw [e9]
    exact Fr.far (Fr.far (Fr.far (Fr.far (Fr.far HF1.out _) _) _) _) _
  rw [← e9]
  clear e9
  have z0 := Z9.cell 0 rfl
  have z1 := Z9.cell 1 rfl
  have z2 := Z9.cell 2 rfl
  have z3 := Z9.cell 3 rfl
  have z4 := Z9.cell 4 rfl
  exact bodyPost_ret (by simp [results, Tryz.results323, go_sem, z0, z1, z2, z3, z4]; try rfl) rfl ⟨rfl, L', HP.out, HQ.out, S9, B9⟩
end Go.Proofs.YtilpencbbdpgfaaGreatDoor.ctr
