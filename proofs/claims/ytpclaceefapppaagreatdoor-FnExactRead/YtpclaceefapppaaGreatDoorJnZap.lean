/- Contracts of container/heap's up and Push at the heap of segments: the heap's order comes back; and what else the law reaches. -/
import Derived.Test.YtpclaceefapppaaGreatDoorJnZak
import Derived.Test.YtpclaceefapppaaGreatDoorJnZad
import Derived.Lib.SliceRun
set_option maxRecDepth 100000
set_option maxHeartbeats 4000000
namespace Go.Proofs.YtpclaceefapppaaGreatDoor.ctr
open Go.RowKit
theorem atK_ps (L : List PSeg) (k : Nat) : atK psK L k = psA L k := rfl
theorem HS.swap {base : Nat} {w w' : World} {hb g cap : Nat} {L L' : List PSeg} (h : HS base w hb g cap L) (hl : L'.length = L.length) (hr : PRow psK 312 w' g cap L') (hg : w.grownBy w' (some g)) : HS base w' hb g cap L' :=
 ⟨by rw [hl]; exact (hg.block hb h.box.lt (fun e => h.ne (by simpa using e.symm))).trans h.box, hr, h.ne, h.lo, h.lg⟩
theorem HS.bel {base : Nat} {w w' : World} {hb g cap : Nat} {L : List PSeg} (h : HS base w hb g cap L) (hg : w.grownBy w' (some g)) : Below base w w' := below_grown2 hg h.sz (fun k e => by cases e; exact h.lg)
theorem heapUp (base hb g cap j0 : Nat) (L : List PSeg) (w : World) (h : HS base w hb g cap L) (hj : j0 < L.length) (hl : L.length ≤ 1048576) (hU : UpTo L L.length j0) :
    Calls Tryz.prog 312 #[.iface 307 (.pointer (some ⟨hb, 0, none⟩)), .int .i64 (j0 : Int)] w fun e w' => e = .returned (.tuple #[]) ∧ ∃ L', L'.Perm L ∧ HeapOn L' L'.length ∧ HS base w' hb g cap L' ∧ Below base w w' := by
  have H := hideP h
  have HU := hideP hU
  clear h hU
  go_enter Tryz.func312, Tryz.ntmps312
  go_wp2
  go_loopw [1] (fun i wr => ∃ (j : Nat) (l : List PSeg), i = .int .i64 (j : Int) ∧ j < L.length ∧ l.length = L.length ∧ Hid (l.Perm L ∧ UpTo l L.length j ∧ HS base wr hb g cap l ∧ Below base w wr)) (fun i _ => (intOf i).toNat)
  case atStart => exact ⟨j0, L, rfl, hj, rfl, List.Perm.refl _, HU.out, H.out, Below.refl _ _⟩
  case round =>
   obtain ⟨j, l, rfl, hjn, hln, HR⟩ := hrel
   have HLn := hideP hln
   clear H HU hln
   by_cases h0 : j = 0
   · subst h0
     go_wp2
     exact end_void Tryz.results312 rfl ⟨rfl, l, HR.out.1, by rw [HLn.out]; exact up_done HR.out.2.1 (.inl rfl), HR.out.2.2.1, HR.out.2.2.2⟩
   · obtain ⟨i, hi⟩ : ∃ i, (j - 1) / 2 = i := ⟨_, rfl⟩
     have hc : wr.cell? ⟨hb, 0, none⟩ = some (.slice (some ⟨g, 0, none⟩) L.length cap) := by rw [← HLn.out]; exact HR.out.2.2.1.box.cell 0 rfl
     have hd : Int.tdiv ((j : Int) - 1) 2 = (i : Int) := by
      rw [Int.tdiv_eq_ediv_of_nonneg (by omega)]
      omega
     have hij : i < j := by omega
     have hne : ((i : Int) == (j : Int)) = false := by simp; omega
     have HI := hideP hi
     have hm1 := meth_less hc
     have hlt : HS base wr hb g cap l := HR.out.2.2.1
     have KL := hideP (heapLess g L.length cap j i (psA l j) (psA l i) wr hlt.row.lt (by omega) (by omega) (hlt.row.at (by rw [HLn.out]; omega)) (hlt.row.at (by rw [HLn.out]; omega)))
     clear hi hlt
     go_wp2_with fail
     refine KL.out.mono ?_
     rintro e w1 ⟨rfl, hb1⟩
     have S1 := hideP (HR.out.2.2.1.next hb1)
     have B1 : Hid (Below base w w1) := HR.out.2.2.2.trans (hb1.mono (by have := HR.out.2.2.1.sz; exact this))
     clear hb1 hm1 hc
     cases hq : ltP (psA l j) (psA l i)
     · have HN : Hid (HeapOn l l.length) := by
        unfold Hid
        rw [HLn.out]
        exact up_done HR.out.2.1 (.inr (by rw [HI.out]; exact hq))
       go_wp2_with fail
       exact end_void Tryz.results312 rfl ⟨rfl, l, HR.out.1, HN.out, S1.out, B1.out⟩
     · have HN := hideP (up_next HLn.out HR.out.2.1 (by omega) hjn (by rw [HI.out]; exact hq))
       rw [HI.out] at HN
       have HPm := hideP ((swP_perm (l := l) (i := i) (j := j) (by rw [HLn.out]; omega) (by rw [HLn.out]; omega)).trans HR.out.1)
       have hc1 : w1.cell? ⟨hb, 0, none⟩ = some (.slice (some ⟨g, 0, none⟩) L.length cap) := by rw [← HLn.out]; exact S1.out.box.cell 0 rfl
       have hm2 := meth_swap hc1
       have KS0 := heapSwap g cap i j l w1 S1.out.row (by rw [HLn.out]; omega) (by rw [HLn.out]; omega)
       rw [HLn.out] at KS0
       have KS := hideP KS0
       clear KS0
       go_wp2_with fail
       refine KS.out.mono ?_
       rintro e w2 ⟨rfl, hr2, hg2⟩
       have S2 := hideP (S1.out.swap (swP_len l i j) hr2 hg2)
       have B2 : Hid (Below base w w2) := B1.out.trans (S1.out.bel hg2)
       clear hr2 hg2 hm2 hc1
       go_wp2_with fail
       exact ⟨⟨i, swP l i j, rfl, by omega, by rw [swP_len]; exact HLn.out, HPm.out, HN.out, S2.out, B2.out⟩, by simp [intOf]; omega⟩
theorem heapLen (a : Option Addr) (n c : Nat) (w : World) : CS 400 #[.slice a n c] w (.int .i64 (n : Int)) := by
 go_enter Tryz.func400, Tryz.ntmps400
 go_wp2
 go_ret
 exact ⟨rfl, rfl⟩
theorem heapPush (base hb g cap : Nat) (L : List PSeg) (x : PSeg) (w : World) (h : HS base w hb g cap L) (hl : L.length < 1048576) (hH : HeapOn L L.length) :
    Calls Tryz.prog 289 #[.iface 307 (.pointer (some ⟨hb, 0, none⟩)), .iface 312 (.agg #[.int .i64 x.s.fr, .int .i64 x.s.to, .int .i64 x.s.cal, .int .i64 x.s.sty, .int .i64 x.s.off, .int .i64 x.at'])] w fun e w' => e = .returned (.tuple #[]) ∧ ∃ g' cap' L', L'.Perm (L ++ [x]) ∧ HeapOn L' L'.length ∧ HS base w' hb g' cap' L' ∧ Below base w w' := by
  have hm1 := meth_push ⟨hb, 0, none⟩
  have KP := hideP (heapPushM base hb g cap L x w h hl)
  have HU : Hid (UpTo (L ++ [x]) (L ++ [x]).length L.length) := by
   unfold Hid
   rw [show (L ++ [x]).length = L.length + 1 by simp]
   exact up_start hH rfl
  clear h hH
  go_enter Tryz.func289, Tryz.ntmps289
  go_wp2_with fail
  refine KP.out.mono ?_
  rintro e w1 ⟨rfl, g', cap', S1, B1⟩
  have hc : w1.cell? ⟨hb, 0, none⟩ = some (.slice (some ⟨g', 0, none⟩) (L.length + 1) cap') := by
   have := S1.box.cell 0 rfl
   simpa using this
  have hm2 := meth_len hc
  have KL := hideP (heapLen (some ⟨g', 0, none⟩) (L.length + 1) cap' w1)
  have KU := hideP (heapUp base hb g' cap' L.length (L ++ [x]) w1 S1 (by simp) (by simp; omega) HU.out)
  have HB1 := hideP B1
  clear S1 B1 hm1
  go_wp2_with fail
  refine sameC KL.out ?_
  go_wp2_with fail
  refine KU.out.mono ?_
  rintro e w3 ⟨rfl, L', p, q, S3, B3⟩
  have HR := hideP (show ∃ g' cap' L', L'.Perm (L ++ [x]) ∧ HeapOn L' L'.length ∧ HS base w3 hb g' cap' L' ∧ Below base w w3 from ⟨g', cap', L', p, q, S3, HB1.out.trans B3⟩)
  clear p q S3 B3 hm2 hc
  go_wp2_with fail
  exact end_void Tryz.results289 rfl ⟨rfl, HR.out⟩
structure Fr (hb g : Nat) (w w' : World) : Prop where
 os : w'.os = w.os
 tape : w'.tape = w.tape
 output : w'.output = w.output
 size : w.heap.size ≤ w'.heap.size
 block : ∀ k, k < w.heap.size → k ≠ hb → k ≠ g → w'.heap[k]? = w.heap[k]?
theorem Fr.refl (hb g : Nat) (w : World) : Fr hb g w w := ⟨rfl, rfl, rfl, Nat.le_refl _, fun _ _ _ _ => rfl⟩
theorem Fr.trans {hb g : Nat} {w w1 w2 : World} (h : Fr hb g w w1) (k : Fr hb g w1 w2) : Fr hb g w w2 := ⟨k.os.trans h.os, k.tape.trans h.tape, k.output.trans h.output, Nat.le_trans h.size k.size, fun j hj h1 h2 => (k.block j (Nat.lt_of_lt_of_le hj h.size) h1 h2).trans (h.block j hj h1 h2)⟩
theorem Fr.of {hb g : Nat} {w w1 : World} (h : Below w.heap.size w w1) : Fr hb g w w1 := ⟨h.os, h.tape, h.output, h.size, fun k hk _ _ => h.block k hk⟩
theorem Fr.grown {hb g : Nat} {w w1 : World} (h : w.grownBy w1 (some g)) : Fr hb g w w1 := ⟨h.os, h.tape, h.output, h.size, fun k hk _ h2 => h.block k hk (fun e => h2 (by simpa using e))⟩
theorem Fr.bel {hb g base : Nat} {w w1 : World} (h : Fr hb g w w1) (h0 : base ≤ w.heap.size) (h1 : base ≤ hb) (h2 : base ≤ g) : Below base w w1 := ⟨h.os, h.tape, h.output, h.size, fun k hk => h.block k (by omega) (by omega) (by omega)⟩
theorem Fr.blk {hb g b : Nat} {w w1 : World} {cs : Array Value} {t : TypeId} (h : Fr hb g w w1) (hB : Blk w b cs t) (h1 : b ≠ hb) (h2 : b ≠ g) : Blk w1 b cs t := (h.block b hB.lt h1 h2).trans hB
def Sunk (base : Nat) (w : World) (hb g cap n : Nat) (L : List PSeg) (w' : World) : Prop := ∃ L', L'.length = L.length ∧ L'.Perm L ∧ HeapOn L' n ∧ (∀ k, n ≤ k → psA L' k = psA L k) ∧ HS base w' hb g cap L' ∧ Fr hb g w w'
theorem sw_far {l : List PSeg} {i j k n : Nat} (hi : i < n) (hj : j < n) (hn : n ≤ l.length) (hk : n ≤ k) : psA (swP l i j) k = psA l k := by
 rw [psA_sw (by omega) (by omega), if_neg (by omega), if_neg (by omega)]
theorem kids {i k : Nat} (h0 : 0 < k) (h : (k - 1) / 2 = i) : k = 2 * i + 1 ∨ k = 2 * i + 2 := by omega
theorem heapDown (base hb g cap n : Nat) (L : List PSeg) (w : World) (h : HS base w hb g cap L) (hn : n < L.length) (hl : L.length ≤ 1048576) (hD : DownTo L n 0) :
    Calls Tryz.prog 330 #[.iface 307 (.pointer (some ⟨hb, 0, none⟩)), .int .i64 0, .int .i64 (n : Int)] w fun e w' => ∃ b, e = .returned (.bool b) ∧ Sunk base w hb g cap n L w' := by
  have H := hideP h
  have HD := hideP hD
  clear h hD
  go_enter Tryz.func330, Tryz.ntmps330
  go_wp2
  go_loopw [7] (fun i wr => ∃ (j : Nat) (l : List PSeg), i = .int .i64 (j : Int) ∧ (j = 0 ∨ j < n) ∧ Hid (l.length = L.length ∧ l.Perm L ∧ DownTo l n j ∧ (∀ k, n ≤ k → psA l k = psA L k) ∧ HS base wr hb g cap l ∧ Fr hb g w wr)) (fun i _ => n - (intOf i).toNat)
  case atStart => exact ⟨0, L, rfl, .inl rfl, rfl, List.Perm.refl _, HD.out, fun _ _ => rfl, H.out, Fr.refl _ _ _⟩
  case round =>
   obtain ⟨i, l, rfl, hi, HR⟩ := hrel
   clear H HD
   have HLn := hideP HR.out.1
   by_cases hA : n ≤ 2 * i + 1
   · have HN : Hid (Sunk base w hb g cap n L wr) := ⟨l, HR.out.1, HR.out.2.1, down_done HR.out.2.2.1 (fun k k0 hk e => by have := kids k0 e; omega), HR.out.2.2.2.1, HR.out.2.2.2.2.1, HR.out.2.2.2.2.2⟩
     have hA' : (n : Int) ≤ 2 * (i : Int) + 1 := by omega
     go_wp2_with fail
     go_ret
     exact ⟨_, rfl, HN.out⟩
   have hin : i < n := by omega
   have hA' : ¬ ((n : Int) ≤ 2 * (i : Int) + 1) := by omega
   have S0 := hideP HR.out.2.2.2.2.1
   have B0 := hideP HR.out.2.2.2.2.2
   have hc : wr.cell? ⟨hb, 0, none⟩ = some (.slice (some ⟨g, 0, none⟩) L.length cap) := by rw [← HLn.out]; exact S0.out.box.cell 0 rfl
   obtain ⟨j1, hj1⟩ : ∃ j1 : Nat, j1 = 2 * i + 1 := ⟨_, rfl⟩
   have E1 : Hid (2 * (i : Int) + 1 = (j1 : Int)) := by unfold Hid; omega
   have E2 : Hid (2 * (i : Int) + 1 + 1 = ((j1 + 1 : Nat) : Int)) := by unfold Hid; omega
   have HJ1 := hideP hj1
   clear hj1
   by_cases hB : j1 + 1 < n
   · have hB' : 2 * (i : Int) + 1 + 1 < (n : Int) := by have := HJ1.out; omega
     have hm1 := meth_less hc
     have hj1 := HJ1.out
     have K0 := heapLess g L.length cap (j1 + 1) j1 (psA l (j1 + 1)) (psA l j1) wr S0.out.row.lt (by omega) (by omega) (S0.out.row.at (by rw [HLn.out]; omega)) (S0.out.row.at (by rw [HLn.out]; omega))
     rw [← E2.out, ← E1.out] at K0
     have KL0 := hideP K0
     clear K0 hj1
     go_wp2_with fail
     refine KL0.out.mono ?_
     rintro e w4 ⟨rfl, hb4⟩
     have S4 := hideP (S0.out.next hb4)
     have B4 : Hid (Fr hb g w w4) := B0.out.trans (Fr.of hb4)
     have hc4 : w4.cell? ⟨hb, 0, none⟩ = some (.slice (some ⟨g, 0, none⟩) L.length cap) := by rw [← HLn.out]; exact S4.out.box.cell 0 rfl
     clear hb4 hm1 hc
     cases hq0 : ltP (psA l (j1 + 1)) (psA l j1)
     · have HM : Hid (∀ k, 0 < k → k < n → (k - 1) / 2 = i → leP (psA l j1) (psA l k)) := fun k k0 hk e => by
        rcases kids k0 e with e | e
        · rw [e, ← HJ1.out]; exact leP_refl _
        · rw [e, show 2 * i + 2 = j1 + 1 by have := HJ1.out; omega]; exact hq0
       have hj1 := HJ1.out
       have K0 := heapLess g L.length cap j1 i (psA l j1) (psA l i) w4 S4.out.row.lt (by omega) (by omega) (S4.out.row.at (by rw [HLn.out]; omega)) (S4.out.row.at (by rw [HLn.out]; omega))
       rw [← E1.out] at K0
       have KL := hideP K0
       clear K0
       have hjn : j1 < n := by omega
       have HJP : Hid ((j1 - 1) / 2 = i) := by unfold Hid; omega
       have hj0 : 0 < j1 := by omega
       clear hj1
       have hm3 := meth_less hc4
       go_wp2_with fail
       refine KL.out.mono ?_
       rintro e w5 ⟨rfl, hb5⟩
       have S5 := hideP (S4.out.next hb5)
       have B5 : Hid (Fr hb g w w5) := B4.out.trans (Fr.of hb5)
       clear hb5 hm3
       cases hq : ltP (psA l j1) (psA l i)
       · have HN : Hid (Sunk base w hb g cap n L w5) := ⟨l, HR.out.1, HR.out.2.1, down_done HR.out.2.2.1 (fun k k0 hk e => leP_trans hq (HM.out k k0 hk e)), HR.out.2.2.2.1, S5.out, B5.out⟩
         go_wp2_with fail
         go_ret
         exact ⟨_, rfl, HN.out⟩
       · have HN := hideP (down_next (j := j1) (by rw [HLn.out]; omega) HR.out.2.2.1 hjn hj0 HJP.out HM.out hq)
         have HPm := hideP ((swP_perm (l := l) (i := i) (j := j1) (by rw [HLn.out]; omega) (by rw [HLn.out]; omega)).trans HR.out.2.1)
         have HF : Hid (∀ k, n ≤ k → psA (swP l i (j1)) k = psA L k) := fun k hk => (sw_far hin (by omega) (by rw [HLn.out]; omega) hk).trans (HR.out.2.2.2.1 k hk)
         have hc5 : w5.cell? ⟨hb, 0, none⟩ = some (.slice (some ⟨g, 0, none⟩) L.length cap) := by rw [← HLn.out]; exact S5.out.box.cell 0 rfl
         have hm4 := meth_swap hc5
         have KS0 := heapSwap g cap i (j1) l w5 S5.out.row (by rw [HLn.out]; omega) (by rw [HLn.out]; omega)
         rw [HLn.out, ← E1.out] at KS0
         have KS := hideP KS0
         clear KS0
         go_wp2_with fail
         refine KS.out.mono ?_
         rintro e w6 ⟨rfl, hr6, hg6⟩
         have S6 := hideP (S5.out.swap (swP_len l i (j1)) hr6 hg6)
         have B6 : Hid (Fr hb g w w6) := B5.out.trans (Fr.grown hg6)
         clear hr6 hg6 hm4 hc5
         go_wp2_with fail
         exact ⟨⟨j1, swP l i (j1), by rw [E1.out], .inr hjn, by rw [swP_len]; exact HLn.out, HPm.out, HN.out, HF.out, S6.out, B6.out⟩, by simp [intOf]; have := HJ1.out; omega⟩
     · have HM : Hid (∀ k, 0 < k → k < n → (k - 1) / 2 = i → leP (psA l (j1 + 1)) (psA l k)) := fun k k0 hk e => by
        rcases kids k0 e with e | e
        · rw [e, ← HJ1.out]; exact leP_of_lt hq0
        · rw [e, show 2 * i + 2 = j1 + 1 by have := HJ1.out; omega]; exact leP_refl _
       have hj1 := HJ1.out
       have K0 := heapLess g L.length cap (j1 + 1) i (psA l (j1 + 1)) (psA l i) w4 S4.out.row.lt (by omega) (by omega) (S4.out.row.at (by rw [HLn.out]; omega)) (S4.out.row.at (by rw [HLn.out]; omega))
       rw [← E2.out] at K0
       have KL := hideP K0
       clear K0
       have hjn : (j1 + 1) < n := by omega
       have HJP : Hid (((j1 + 1) - 1) / 2 = i) := by unfold Hid; omega
       have hj0 : 0 < (j1 + 1) := by omega
       clear hj1
       have hm3 := meth_less hc4
       go_wp2_with fail
       refine KL.out.mono ?_
       rintro e w5 ⟨rfl, hb5⟩
       have S5 := hideP (S4.out.next hb5)
       have B5 : Hid (Fr hb g w w5) := B4.out.trans (Fr.of hb5)
       clear hb5 hm3
       cases hq : ltP (psA l (j1 + 1)) (psA l i)
       · have HN : Hid (Sunk base w hb g cap n L w5) := ⟨l, HR.out.1, HR.out.2.1, down_done HR.out.2.2.1 (fun k k0 hk e => leP_trans hq (HM.out k k0 hk e)), HR.out.2.2.2.1, S5.out, B5.out⟩
         go_wp2_with fail
         go_ret
         exact ⟨_, rfl, HN.out⟩
       · have HN := hideP (down_next (j := (j1 + 1)) (by rw [HLn.out]; omega) HR.out.2.2.1 hjn hj0 HJP.out HM.out hq)
         have HPm := hideP ((swP_perm (l := l) (i := i) (j := (j1 + 1)) (by rw [HLn.out]; omega) (by rw [HLn.out]; omega)).trans HR.out.2.1)
         have HF : Hid (∀ k, n ≤ k → psA (swP l i ((j1 + 1))) k = psA L k) := fun k hk => (sw_far hin (by omega) (by rw [HLn.out]; omega) hk).trans (HR.out.2.2.2.1 k hk)
         have hc5 : w5.cell? ⟨hb, 0, none⟩ = some (.slice (some ⟨g, 0, none⟩) L.length cap) := by rw [← HLn.out]; exact S5.out.box.cell 0 rfl
         have hm4 := meth_swap hc5
         have KS0 := heapSwap g cap i ((j1 + 1)) l w5 S5.out.row (by rw [HLn.out]; omega) (by rw [HLn.out]; omega)
         rw [HLn.out, ← E2.out] at KS0
         have KS := hideP KS0
         clear KS0
         go_wp2_with fail
         refine KS.out.mono ?_
         rintro e w6 ⟨rfl, hr6, hg6⟩
         have S6 := hideP (S5.out.swap (swP_len l i ((j1 + 1))) hr6 hg6)
         have B6 : Hid (Fr hb g w w6) := B5.out.trans (Fr.grown hg6)
         clear hr6 hg6 hm4 hc5
         go_wp2_with fail
         exact ⟨⟨(j1 + 1), swP l i ((j1 + 1)), by rw [E2.out], .inr hjn, by rw [swP_len]; exact HLn.out, HPm.out, HN.out, HF.out, S6.out, B6.out⟩, by simp [intOf]; have := HJ1.out; omega⟩
   · have hB' : ¬ (2 * (i : Int) + 1 + 1 < (n : Int)) := by have := HJ1.out; omega
     have HM : Hid (∀ k, 0 < k → k < n → (k - 1) / 2 = i → leP (psA l j1) (psA l k)) := fun k k0 hk e => by
      rcases kids k0 e with e | e
      · rw [e, ← HJ1.out]; exact leP_refl _
      · have := HJ1.out; omega
     have hj1 := HJ1.out
     have K0 := heapLess g L.length cap j1 i (psA l j1) (psA l i) wr S0.out.row.lt (by omega) (by omega) (S0.out.row.at (by rw [HLn.out]; omega)) (S0.out.row.at (by rw [HLn.out]; omega))
     rw [← E1.out] at K0
     have KL := hideP K0
     clear K0
     have hjn : j1 < n := by omega
     have HJP : Hid ((j1 - 1) / 2 = i) := by unfold Hid; omega
     have hj0 : 0 < j1 := by omega
     clear hj1
     have hm3 := meth_less hc
     go_wp2_with fail
     refine KL.out.mono ?_
     rintro e w5 ⟨rfl, hb5⟩
     have S5 := hideP (S0.out.next hb5)
     have B5 : Hid (Fr hb g w w5) := B0.out.trans (Fr.of hb5)
     clear hb5 hm3
     cases hq : ltP (psA l j1) (psA l i)
     · have HN : Hid (Sunk base w hb g cap n L w5) := ⟨l, HR.out.1, HR.out.2.1, down_done HR.out.2.2.1 (fun k k0 hk e => leP_trans hq (HM.out k k0 hk e)), HR.out.2.2.2.1, S5.out, B5.out⟩
       go_wp2_with fail
       go_ret
       exact ⟨_, rfl, HN.out⟩
     · have HN := hideP (down_next (j := j1) (by rw [HLn.out]; omega) HR.out.2.2.1 hjn hj0 HJP.out HM.out hq)
       have HPm := hideP ((swP_perm (l := l) (i := i) (j := j1) (by rw [HLn.out]; omega) (by rw [HLn.out]; omega)).trans HR.out.2.1)
       have HF : Hid (∀ k, n ≤ k → psA (swP l i (j1)) k = psA L k) := fun k hk => (sw_far hin (by omega) (by rw [HLn.out]; omega) hk).trans (HR.out.2.2.2.1 k hk)
       have hc5 : w5.cell? ⟨hb, 0, none⟩ = some (.slice (some ⟨g, 0, none⟩) L.length cap) := by rw [← HLn.out]; exact S5.out.box.cell 0 rfl
       have hm4 := meth_swap hc5
       have KS0 := heapSwap g cap i (j1) l w5 S5.out.row (by rw [HLn.out]; omega) (by rw [HLn.out]; omega)
       rw [HLn.out, ← E1.out] at KS0
       have KS := hideP KS0
       clear KS0
       go_wp2_with fail
       refine KS.out.mono ?_
       rintro e w6 ⟨rfl, hr6, hg6⟩
       have S6 := hideP (S5.out.swap (swP_len l i (j1)) hr6 hg6)
       have B6 : Hid (Fr hb g w w6) := B5.out.trans (Fr.grown hg6)
       clear hr6 hg6 hm4 hc5
       go_wp2_with fail
       exact ⟨⟨j1, swP l i (j1), by rw [E1.out], .inr hjn, by rw [swP_len]; exact HLn.out, HPm.out, HN.out, HF.out, S6.out, B6.out⟩, by simp [intOf]; have := HJ1.out; omega⟩
theorem heapPopM (base hb g cap n : Nat) (L : List PSeg) (w : World) (h : HS base w hb g cap L) (hn : L.length = n + 1) (hl : n < 1048576) :
    Calls Tryz.prog 402 #[.pointer (some ⟨hb, 0, none⟩)] w fun e w' => e = .returned (.iface 312 (.agg #[.int .i64 (psA L n).s.fr, .int .i64 (psA L n).s.to, .int .i64 (psA L n).s.cal, .int .i64 (psA L n).s.sty, .int .i64 (psA L n).s.off, .int .i64 (psA L n).at'])) ∧ HS base w' hb g cap (L.take n) ∧ Fr hb g w w' := by
  have hc : w.cell? ⟨hb, 0, none⟩ = some (.slice (some ⟨g, 0, none⟩) (n + 1) cap) := by rw [← hn]; exact h.box.cell 0 rfl
  have hf := h.box.thaw 0
  have hlb := h.box.lt
  have hlg := h.row.lt
  obtain ⟨c0, c1, c2, c3, c4, c5⟩ := (h.row.at (k := n) (by omega)).ps
  have hcap : n + 1 ≤ cap := by obtain ⟨_, _, _, q, _⟩ := h.row; omega
  have hcm : cap ≤ maxLen := by obtain ⟨_, _, _, _, q, _⟩ := h.row; exact q
  have H := hideP h
  have HN := hideP hn
  have ht : Hid ((L.take n).length = n) := by unfold Hid; simp; omega
  unfold maxLen at hcm
  rw [atK_ps] at c0 c1 c2 c3 c4 c5
  clear h hn
  generalize psA L n = x at *
  go_enter Tryz.func402, Tryz.ntmps402
  go_wp2_with fail
  go_ret
  refine ⟨rfl, ⟨?_, ?_, H.out.ne, H.out.lo, H.out.lg⟩, ?_⟩
  · rw [ht.out]
    exact (H.out.box.set 0 _).alloc _
  · obtain ⟨cur, q1, q2⟩ := H.out.row.shorter n
    exact ⟨cur, (q1.other (Ne.symm H.out.ne)).alloc _, q2⟩
  · have q : Below hb w ((w.setCell ⟨hb, 0, none⟩ (.slice (some ⟨g, 0, none⟩) n cap)).alloc (.cells #[.int .i64 x.s.fr, .int .i64 x.s.to, .int .i64 x.s.cal, .int .i64 x.s.sty, .int .i64 x.s.off, .int .i64 x.at'] 312)) := ((Below.refl hb w).setCell (p := ⟨hb, 0, none⟩) (Nat.le_refl _) _).alloc (by rw [World.size_setCell]; exact Nat.le_of_lt hlb) _
    refine ⟨q.os, q.tape, q.output, q.size, fun k hk h1 _ => ?_⟩
    rw [Below.heap_alloc _ _ k (by rw [World.size_setCell]; exact hk)]
    exact Below.heap_setCell w _ _ k h1
theorem heapPop (base hb g cap n : Nat) (L : List PSeg) (w : World) (h : HS base w hb g cap L) (hn : L.length = n + 1) (hl : n < 1048576) (hH : HeapOn L L.length) :
    Calls Tryz.prog 313 #[.iface 307 (.pointer (some ⟨hb, 0, none⟩))] w fun e w' => e = .returned (.iface 312 (.agg #[.int .i64 (psA L 0).s.fr, .int .i64 (psA L 0).s.to, .int .i64 (psA L 0).s.cal, .int .i64 (psA L 0).s.sty, .int .i64 (psA L 0).s.off, .int .i64 (psA L 0).at'])) ∧ ∃ L', (psA L 0 :: L').Perm L ∧ HeapOn L' L'.length ∧ HS base w' hb g cap L' ∧ Fr hb g w w' := by
  have hc : w.cell? ⟨hb, 0, none⟩ = some (.slice (some ⟨g, 0, none⟩) (n + 1) cap) := by rw [← hn]; exact h.box.cell 0 rfl
  have hm1 := meth_len hc
  have hm2 := meth_swap hc
  have KL := hideP (heapLen (some ⟨g, 0, none⟩) (n + 1) cap w)
  have KS0 := heapSwap g cap 0 n L w h.row (by omega) (by omega)
  rw [hn] at KS0
  have KS := hideP KS0
  have HD := hideP (down_start (l := L) (n := n) (by rw [← hn]; exact hH) hn)
  have hlast : Hid (psA (swP L 0 n) n = psA L 0) := by
   unfold Hid
   rw [psA_sw (by omega) (by omega), if_pos rfl]
  have HP := hideP (swP_perm (l := L) (i := 0) (j := n) (by omega) (by omega))
  have hlen : Hid ((swP L 0 n).length = n + 1) := by unfold Hid; rw [swP_len, hn]
  have H := hideP h
  have HN := hideP hn
  clear h hn hH KS0
  go_enter Tryz.func313, Tryz.ntmps313
  go_wp2_with fail
  refine KL.out.mono ?_
  rintro e w1 ⟨rfl, rfl⟩
  go_wp2_with fail
  refine KS.out.mono ?_
  rintro e w2 ⟨rfl, hr2, hg2⟩
  have S2 := hideP (H.out.swap (swP_len L 0 n) hr2 hg2)
  have B2 : Hid (Fr hb g w1 w2) := Fr.grown hg2
  clear hr2 hg2 hm1 hm2 hc
  have KD := hideP (heapDown base hb g cap n (swP L 0 n) w2 S2.out (by rw [hlen.out]; omega) (by rw [hlen.out]; omega) HD.out)
  go_wp2_with fail
  refine KD.out.mono ?_
  rintro e w3 ⟨b, rfl, L3, q1, q2, q3, q4, S3, B3⟩
  have hm3 := meth_pop ⟨hb, 0, none⟩
  have KP0 := heapPopM base hb g cap n L3 w3 S3 (by rw [q1, hlen.out]) hl
  rw [q4 n (Nat.le_refl _), hlast.out] at KP0
  have KP := hideP KP0
  have HR : Hid ((psA L 0 :: L3.take n).Perm L) := by
   have e : L3 = L3.take n ++ [psA L 0] := by
    have := take_last (l := L3) (n := n) (by rw [q1, hlen.out])
    rw [q4 n (Nat.le_refl _), hlast.out] at this
    exact this
   have p1 : (psA L 0 :: L3.take n).Perm L3 := by
    rw (occs := .pos [2]) [e]
    exact (List.perm_append_singleton _ _).symm
   exact p1.trans (q2.trans HP.out)
  have HH : Hid (HeapOn (L3.take n) (L3.take n).length) := by
   unfold Hid
   rw [show (L3.take n).length = n by simp; rw [q1, hlen.out]; omega]
   exact heap_init q3
  have B3' : Hid (Fr hb g w1 w3) := B2.out.trans B3
  clear KP0 q1 q2 q3 q4 S3 B3
  go_wp2_with fail
  refine KP.out.mono ?_
  rintro e w4 ⟨rfl, S4, B4⟩
  have HF : Hid (∃ L', (psA L 0 :: L').Perm L ∧ HeapOn L' L'.length ∧ HS base w4 hb g cap L' ∧ Fr hb g w1 w4) := ⟨_, HR.out, HH.out, S4, B3'.out.trans B4⟩
  clear S4 B4
  go_wp2_with fail
  go_ret
  exact ⟨rfl, HF.out⟩
theorem field_ps (a b c d e f : Int) (w : World) : (Instr.field 312 (.agg #[.int .i64 a, .int .i64 b, .int .i64 c, .int .i64 d, .int .i64 e, .int .i64 f]) 0).run Tryz.prog w = .ok (.agg #[.int .i64 a, .int .i64 b, .int .i64 c, .int .i64 d, .int .i64 e]) w := by kernel_rfl
theorem HS.far {base : Nat} {w : World} {hb g cap b i : Nat} {L : List PSeg} (h : HS base w hb g cap L) (h1 : b ≠ hb) (h2 : b ≠ g) (v : Value) : HS base (w.setCell ⟨b, i, none⟩ v) hb g cap L := by
 obtain ⟨cur, q1, q2⟩ := h.row
 exact ⟨h.box.other h1, ⟨cur, q1.other h2, q2⟩, h.ne, h.lo, h.lg⟩
theorem Fr.far {hb g i : Nat} {w w1 : World} (h : Fr hb g w w1) (v : Value) : Fr hb g w (w1.setCell ⟨w.heap.size, i, none⟩ v) :=
 ⟨h.os, h.tape, h.output, by rw [World.size_setCell]; exact h.size, fun k hk h1 h2 => (Below.heap_setCell w1 _ _ k (by show k ≠ w.heap.size; omega)).trans (h.block k hk h1 h2)⟩
theorem takeFirst (base hb g cap n : Nat) (L : List PSeg) (w : World) (h : HS base w hb g cap L) (hn : L.length = n + 1) (hl : n < 1048576) (hH : HeapOn L L.length) :
    Calls Tryz.prog 290 #[.pointer (some ⟨hb, 0, none⟩)] w fun e w' => e = .returned (.agg #[.int .i64 (psA L 0).s.fr, .int .i64 (psA L 0).s.to, .int .i64 (psA L 0).s.cal, .int .i64 (psA L 0).s.sty, .int .i64 (psA L 0).s.off]) ∧ ∃ L', (psA L 0 :: L').Perm L ∧ HeapOn L' L'.length ∧ HS base w' hb g cap L' ∧ Fr hb g w w' := by
  have hta := is_ps
  have hfd := field_ps
  obtain ⟨W0, hW0⟩ : ∃ W0, W0 = w.alloc (.cells #[.int .i64 0, .int .i64 0, .int .i64 0, .int .i64 0, .int .i64 0] 91) := ⟨_, rfl⟩
  have h0 : Blk W0 w.heap.size #[.int .i64 0, .int .i64 0, .int .i64 0, .int .i64 0, .int .i64 0] 91 := by rw [hW0]; exact Blk.new _ _ _
  have hb0 : Below w.heap.size w W0 := by rw [hW0]; exact (Below.refl _ _).alloc (Nat.le_refl _) _
  have hz0 : W0.heap.size = w.heap.size + 1 := by rw [hW0, World.size_alloc]
  have S0 := h.next hb0
  have hg : g < w.heap.size := h.row.lt
  have hhb : hb < w.heap.size := h.box.lt
  have KP := hideP (heapPop base hb g cap n L W0 S0 hn hl hH)
  have HB0 : Hid (Fr hb g w W0) := Fr.of hb0
  have HW0 := hideP hW0
  have HK0 := hideP h0
  have H := hideP h
  clear h hn hH hW0 h0 hb0 hz0 S0
  generalize psA L 0 = x at *
  go_enter Tryz.func290, Tryz.ntmps290
  go_wp2_with fail
  rw [← HW0.out]
  refine KP.out.mono ?_
  rintro e w1 ⟨rfl, L', p, q, S1, F1⟩
  have K1 := F1.blk HK0.out (by omega) (by omega)
  have q0 := K1.cell 0 rfl
  have q1 := K1.cell 1 rfl
  have q2 := K1.cell 2 rfl
  have q3 := K1.cell 3 rfl
  have q4 := K1.cell 4 rfl
  have f0 := K1.thaw 0
  have f1 := K1.thaw 1
  have f2 := K1.thaw 2
  have f3 := K1.thaw 3
  have f4 := K1.thaw 4
  have HK1 := hideP K1
  have HS1 := hideP S1
  have HF1 : Hid (Fr hb g w w1) := HB0.out.trans F1
  have HP := hideP p
  have HQ := hideP q
  clear K1 S1 F1 p q
  go_wp2_with fail
  obtain ⟨W9, e9⟩ : ∃ W9, W9 = ((((w1.setCell ⟨w.heap.size, 0, none⟩ (.int .i64 x.s.fr)).setCell ⟨w.heap.size, 1, none⟩ (.int .i64 x.s.to)).setCell ⟨w.heap.size, 2, none⟩ (.int .i64 x.s.cal)).setCell ⟨w.heap.size, 3, none⟩ (.int .i64 x.s.sty)).setCell ⟨w.heap.size, 4, none⟩ (.int .i64 x.s.off) := ⟨_, rfl⟩
  have Z9 : Blk W9 w.heap.size #[.int .i64 x.s.fr, .int .i64 x.s.to, .int .i64 x.s.cal, .int .i64 x.s.sty, .int .i64 x.s.off] 91 := by rw [e9]; exact ((((HK1.out.set 0 _).set 1 _).set 2 _).set 3 _).set 4 _
  have S9 : HS base W9 hb g cap L' := by
   rw [e9]
   exact HS.far (HS.far (HS.far (HS.far (HS.far HS1.out (by omega) (by omega) _) (by omega) (by omega) _) (by omega) (by omega) _) (by omega) (by omega) _) (by omega) (by omega) _
  have B9 : Fr hb g w W9 := by
   rw [e9]
   exact Fr.far (Fr.far (Fr.far (Fr.far (Fr.far HF1.out _) _) _) _) _
  rw [← e9]
  clear e9
  obtain ⟨z0, z1, z2, z3, z4⟩ := Z9.cells5
  exact bodyPost_ret (by simp [results, Tryz.results290, go_sem, z0, z1, z2, z3, z4]; try rfl) rfl ⟨rfl, L', HP.out, HQ.out, S9, B9⟩
def SNew (w w' : World) (o : Value) (l : List Seg) : Prop := ∃ g cap, o = .slice (some ⟨g, 0, none⟩) l.length cap ∧ w.heap.size ≤ g ∧ PRow segK 91 w' g cap l
theorem SNew.row {w w' : World} {o : Value} {l : List Seg} (h : SNew w w' o l) : IRow segK w' o l := by
 obtain ⟨g, cap, rfl, _, h⟩ := h
 exact h.row
theorem SNew.below {w w' w'' : World} {o : Value} {l : List Seg} (h : SNew w w' o l) (hb : Below w'.heap.size w' w'') : SNew w w'' o l := by
 obtain ⟨g, cap, rfl, hg, h⟩ := h
 exact ⟨g, cap, rfl, hg, h.below hb h.lt⟩
theorem make_seg0 (n : Nat) (hn : n ≤ 1048576) (W : World) : (Instr.makeSlice 31 (.int .i64 0) (.int .i64 (n : Int))).run Tryz.prog W = .ok (.slice (some ⟨W.heap.size, 0, none⟩) 0 n) (W.alloc (.cells (madeCells segzero (n * 5)) 91)) := by
 obtain ⟨i0, hi, e⟩ := Option.map_eq_some_iff.1 info_seg
 simp only [Prod.mk.injEq] at e
 obtain ⟨hz, hs, hb⟩ := e
 have h := run_make (P := Tryz.prog) W 31 91 i0 _ Tryz.underlying31 hi hz .i64 .i64 0 (n : Int) (by omega) (by omega) (by rw [hb]; omega) (by omega)
 rw [hs] at h
 simp only [Int.toNat_natCast] at h
 exact h
theorem news_seg (w : World) (x : Seg) (t : TypeId) : ∀ j u, (icell segK x)[j]? = some u → (w.alloc (.cells (icell segK x).toArray t)).cell? ((⟨w.heap.size, 0, none⟩ : Addr).add j) = some u := by
 intro j u h
 have := (Blk.new w (icell segK x).toArray t).cell j (v := u) (by simpa using h)
 rw [show ((⟨w.heap.size, 0, none⟩ : Addr).add j) = ⟨w.heap.size, j, none⟩ from by unfold Addr.add; split <;> simp_all]
 exact this
theorem HS.grown {base : Nat} {w w' : World} {hb g cap q : Nat} {L : List PSeg} (h : HS base w hb g cap L) (hg : w.grownBy w' (some q)) (h1 : q ≠ hb) (h2 : q ≠ g) : HS base w' hb g cap L :=
 ⟨(hg.block hb h.box.lt (fun e => h1 (by simpa using e.symm))).trans h.box, h.row.grown hg (fun e => h2 (by simpa using e.symm)), h.ne, h.lo, h.lg⟩
structure In1 (w : World) (l : List Seg) (k : Nat) (g cap : Nat) (L : List PSeg) (wr : World) : Prop where
 hs : HS w.heap.size wr (w.heap.size + 1) g cap L
 heap : HeapOn L L.length
 perm : L.Perm (tagS (l.take k) 0)
 below : Below w.heap.size w wr
structure Off1 (w : World) (l : List Seg) (q c g cap : Nat) (out rest : List PSeg) (wr : World) : Prop where
 hs : HS w.heap.size wr (w.heap.size + 1) g cap rest
 off : OffTo l out rest
 row : PRow segK 91 wr q c (out.map PSeg.s)
 ne1 : q ≠ w.heap.size + 1
 ne2 : q ≠ g
 lo : w.heap.size ≤ q
 below : Below w.heap.size w wr
theorem In1.len {w : World} {l : List Seg} {k g cap : Nat} {L : List PSeg} {wr : World} (h : In1 w l k g cap L wr) (hk : k ≤ l.length) : L.length = k := by
 rw [h.perm.length_eq, tagS_len]; simp; omega
theorem In1.next {w : World} {l : List Seg} {k g cap g' cap' : Nat} {L L' : List PSeg} {wr w' w'' : World} (h : In1 w l k g cap L wr) (hk : k < l.length) (hp : L'.Perm (L ++ [⟨sgA l k, (k : Int)⟩])) (hh : HeapOn L' L'.length) (hs : HS w.heap.size w'' (w.heap.size + 1) g' cap' L') (h1 : Below wr.heap.size wr w') (h2 : Below w.heap.size w' w'') : In1 w l (k + 1) g' cap' L' w'' := by
 refine ⟨hs, hh, ?_, h.below.trans ((h1.mono h.below.size).trans h2)⟩
 rw [tagS_take hk]
 exact hp.trans (h.perm.append_right _)
theorem Off1.len {w : World} {l : List Seg} {q c g cap : Nat} {out rest : List PSeg} {wr : World} (h : Off1 w l q c g cap out rest wr) : out.length + rest.length = l.length := by
 have := h.off.2.2.2.length_eq
 rw [List.length_append, tagS_len] at this
 exact this
theorem heap_first {L : List PSeg} (h : HeapOn L L.length) : ∀ y ∈ L, leP (psA L 0) y := by
 intro y hy
 obtain ⟨k, hk, rfl⟩ := List.mem_iff_getElem.1 hy
 rw [← psA_eq hk]
 exact heap_min h k hk
theorem PRow.fr {α : Type} {K : IK α} {T : TypeId} {w w' : World} {hb g q c : Nat} {L : List α} (h : PRow K T w q c L) (hf : Fr hb g w w') (h1 : q ≠ hb) (h2 : q ≠ g) : PRow K T w' q c L := by
 obtain ⟨cur, hB, r⟩ := h
 exact ⟨cur, hf.blk hB h1 h2, r⟩
theorem Off1.next {w : World} {l : List Seg} {q c g cap q' c' : Nat} {out rest rest' : List PSeg} {wr w1 w2 : World} {o : Obj} (h : Off1 w l q c g cap out rest wr) (hp : (psA rest 0 :: rest').Perm rest) (hh : HeapOn rest' rest'.length) (hs : HS w.heap.size w1 (w.heap.size + 1) g cap rest') (hf : Fr (w.heap.size + 1) g wr w1)
    (hown : w2.ownsRow w.heap.size 91 5 (.slice (some ⟨q', 0, none⟩) (out.length + 1) c') (out.length + 1) (icells segK (out.map PSeg.s) ++ icell segK (psA rest 0).s)) (hgrow : (w1.alloc o).grownBy w2 (Value.slice (some ⟨q, 0, none⟩) out.length c).ownBlock) (hat : (Value.slice (some ⟨q, 0, none⟩) out.length c).ownBlock = some q' ∨ q' = w1.heap.size + 1) : Off1 w l q' c' g cap (out ++ [psA rest 0]) rest' w2 := by
  have hg : (w1.alloc o).grownBy w2 (some q) := hgrow
  have hs' := (hs.next (w' := w1.alloc o) ((Below.refl _ _).alloc (Nat.le_refl _) _)).grown hg h.ne1 h.ne2
  have l1 := hs.box.lt
  have l2 := hs.row.lt
  have hq : (q = q' ∨ q' = w1.heap.size + 1) := by
   rcases hat with e | e
   · exact .inl (by simpa [Value.ownBlock] using e)
   · exact .inr e
  have hsz : w.heap.size ≤ wr.heap.size := h.below.size
  have hb1 : Below w.heap.size w w1 := h.below.trans (hf.bel hsz (by omega) h.hs.lg)
  have hlen : ((out ++ [psA rest 0]).map PSeg.s).length = out.length + 1 := by simp
  obtain ⟨g2, c2, e2, _, hP⟩ := PRow.of_owns (K := segK) (T := 91) (w := w2) (base := w.heap.size) (L := (out ++ [psA rest 0]).map PSeg.s) (v := .slice (some ⟨q', 0, none⟩) (out.length + 1) c') (by
   rw [hlen, List.map_append, icells_app, show icells segK ([psA rest 0].map PSeg.s) = icell segK (psA rest 0).s by simp [icells]]
   exact hown) (by simp)
  have e3 : q' = g2 ∧ c' = c2 := by simpa using e2
  obtain ⟨rfl, rfl⟩ := e3
  refine ⟨hs', off_next h.off (heap_first h.off.2.2.1) hp hh, hP, ?_, ?_, ?_, ?_⟩
  · rcases hq with e | e
    · rw [← e]; exact h.ne1
    · omega
  · rcases hq with e | e
    · rw [← e]; exact h.ne2
    · omega
  · rcases hq with e | e
    · rw [← e]; exact h.lo
    · have := hb1.size; omega
  · exact (hb1.alloc hb1.size o).trans (below_grown2 hg (by rw [World.size_alloc]; have := hb1.size; omega) (fun k e => by cases e; exact h.lo))
theorem implSorted (v : Value) (l : List Seg) (w : World) (h : IRow segK w v l) (hl : l.length ≤ 1048576) : Calls Tryz.prog 247 #[v] w fun e w' => ∃ o, e = .returned o ∧ SNew w w' o (sortS l) ∧ Below w.heap.size w w' := by
 obtain ⟨ad, ca, rfl, hca, hcm, HRow⟩ := h
 have HR := hideP HRow
 have hmk := make_seg0 l.length hl
 obtain ⟨i0, hi, he⟩ := Option.map_eq_some_iff.1 info_seg
 simp only [Prod.mk.injEq] at he
 obtain ⟨hz0, hz1, hz2⟩ := he
 unfold maxLen at hcm
 clear HRow
 have S0 : Hid (In1 w l 0 w.heap.size 0 [] ((w.alloc (.cells #[] 312)).alloc (.cells #[.slice (some ⟨w.heap.size, 0, none⟩) 0 0] 309))) := by
  refine ⟨⟨?_, ⟨#[], (Blk.new w _ _).alloc _, rfl, by simp, by unfold maxLen; omega, fun k hk => by simp at hk⟩, by omega, by omega, Nat.le_refl _⟩, fun k h0 hk => by simp at hk, by simp [tagS], ((Below.refl _ _).alloc (Nat.le_refl _) _).alloc (by rw [World.size_alloc]; omega) _⟩
  have := Blk.new (w.alloc (.cells #[] 312)) #[.slice (some ⟨w.heap.size, 0, none⟩) 0 0] 309
  rw [World.size_alloc] at this
  exact this
 go_enter Tryz.func247, Tryz.ntmps247
 go_wp2
 go_loopw [11] (fun i wr => ∃ (k g cap : Nat) (L : List PSeg), k ≤ l.length ∧ i = .int .i64 (k : Int) ∧ In1 w l k g cap L wr) (fun i _ => l.length - (intOf i).toNat)
 case atStart => exact ⟨0, _, _, [], Nat.zero_le _, rfl, S0.out⟩
 case round =>
  obtain ⟨k, g, cap, L, hk, rfl, hI⟩ := hrel
  have HI := hideP hI
  clear hI S0
  by_cases hlt : k < l.length
  · obtain ⟨gv, rfl, hgv, x⟩ := HR.out k hlt
    obtain ⟨c0, c1, c2, c3, c4⟩ := (x.below HI.out.below hgv).seg
    have hgl : gv < wr.heap.size := Nat.lt_of_lt_of_le hgv HI.out.below.size
    clear x
    have KP0 : ∀ W, Below wr.heap.size wr W → Calls Tryz.prog 289 #[.iface 307 (.pointer (some ⟨w.heap.size + 1, 0, none⟩)), .iface 312 (.agg #[.int .i64 (sgA l k).fr, .int .i64 (sgA l k).to, .int .i64 (sgA l k).cal, .int .i64 (sgA l k).sty, .int .i64 (sgA l k).off, .int .i64 (k : Int)])] W fun e w' => e = .returned (.tuple #[]) ∧ ∃ g' cap' L', In1 w l (k + 1) g' cap' L' w' := fun W hb =>
     (heapPush w.heap.size (w.heap.size + 1) g cap L ⟨sgA l k, (k : Int)⟩ W (HI.out.hs.next hb) (by rw [HI.out.len hk]; omega) HI.out.heap).mono fun e w' ⟨e1, g', cap', L', p, q, s, b⟩ => ⟨e1, g', cap', L', HI.out.next hlt p q s hb b⟩
    have KP := hideP KP0
    rw [show atK segK l k = sgA l k from rfl] at c0 c1 c2 c3 c4
    generalize sgA l k = r at *
    clear KP0
    go_wp2_with fail
    refine (KP.out _ ((Below.refl _ _).alloc (Nat.le_refl _) _)).mono ?_
    rintro e w1 ⟨rfl, g', cap', L', hI'⟩
    have HI' := hideP hI'
    clear hI' c0 c1 c2 c3 c4
    go_wp2_with fail
    exact ⟨⟨k + 1, g', cap', L', by omega, by go_num, HI'.out⟩, by simp [intOf]; omega⟩
  · obtain rfl : k = l.length := by omega
    have O0 : Hid (Off1 w l wr.heap.size l.length g cap [] L (wr.alloc (.cells (madeCells segzero (l.length * 5)) 91))) := by
     have hs := HI.out.hs.next (w' := wr.alloc (.cells (madeCells segzero (l.length * 5)) 91)) ((Below.refl _ _).alloc (Nat.le_refl _) _)
     refine ⟨hs, ⟨List.Pairwise.nil, fun x hx => by simp at hx, HI.out.heap, by have := HI.out.perm; rw [List.take_length] at this; simpa using this⟩, ⟨_, Blk.new _ _ _, by rw [size_madeCells]; rfl, Nat.zero_le _, by unfold maxLen; omega, fun k hk => by simp at hk⟩, ?_, ?_, HI.out.below.size, HI.out.below.alloc HI.out.below.size _⟩
     · have := HI.out.hs.box.lt; omega
     · have := HI.out.hs.row.lt; omega
    clear HI
    go_wp2
    go_loopw [6, 29] (fun o i wr => ∃ (k q c g cap : Nat) (out rest : List PSeg), k ≤ l.length ∧ i = .int .i64 (k : Int) ∧ out.length = k ∧ o = .slice (some ⟨q, 0, none⟩) k c ∧ Off1 w l q c g cap out rest wr) (fun _ i _ => l.length - (intOf i).toNat)
    case atStart => exact ⟨0, _, _, _, _, [], L, Nat.zero_le _, rfl, rfl, rfl, O0.out⟩
    case round =>
     obtain ⟨k, q, c, g, cap, out, rest, hk, rfl, ho, rfl, hO⟩ := hrel
     have HO := hideP hO
     have HLo := hideP ho
     clear hO O0 ho
     by_cases hlt : k < l.length
     · obtain ⟨m, hm⟩ : ∃ m, rest.length = m + 1 := ⟨rest.length - 1, by have := HO.out.len; have := HLo.out; omega⟩
       have hm' : m < 1048576 := by have := HO.out.len; omega
       have KT := hideP (takeFirst w.heap.size (w.heap.size + 1) g cap m rest wr HO.out.hs hm hm' HO.out.off.2.2.1)
       have HX : Hid (∀ rest' w1 w2 (o : Obj) q' c', (psA rest 0 :: rest').Perm rest → HeapOn rest' rest'.length → HS w.heap.size w1 (w.heap.size + 1) g cap rest' → Fr (w.heap.size + 1) g wr w1 → w2.ownsRow w.heap.size 91 5 (.slice (some ⟨q', 0, none⟩) (k + 1) c') (k + 1) (icells segK (out.map PSeg.s) ++ icell segK (psA rest 0).s) → (w1.alloc o).grownBy w2 (Value.slice (some ⟨q, 0, none⟩) k c).ownBlock → ((Value.slice (some ⟨q, 0, none⟩) k c).ownBlock = some q' ∨ q' = w1.heap.size + 1) → Off1 w l q' c' g cap (out ++ [psA rest 0]) rest' w2) := fun rest' w1 w2 o q' c' a1 a2 a3 a4 a5 a6 a7 => by
        rw [← HLo.out] at a5 a6 a7
        exact HO.out.next a1 a2 a3 a4 a5 a6 a7
       have HW : Hid (∀ w1, Fr (w.heap.size + 1) g wr w1 → ∀ o : Obj, (w1.alloc o).ownsRow w.heap.size 91 5 (.slice (some ⟨q, 0, none⟩) k c) k (icells segK (out.map PSeg.s))) := fun w1 hf o => by
        have := ((HO.out.row.fr hf HO.out.ne1 HO.out.ne2).owns (base := w.heap.size) (by decide) HO.out.lo).alloc o
        rw [List.length_map, HLo.out] at this
        exact this
       have hsz : Hid (w.heap.size ≤ wr.heap.size) := HO.out.below.size
       clear hm
       generalize psA rest 0 = x at *
       go_wp2_with fail
       refine KT.out.mono ?_
       rintro e w1 ⟨rfl, L', p, pq, S1, F1⟩
       have P1 := hideP p
       have P2 := hideP pq
       have P3 := hideP S1
       have P4 := hideP F1
       have hown := hideP (HW.out w1 F1 (.cells (icell segK x.s).toArray 91))
       have hnews := hideP (news_seg w1 x.s 91)
       have hbase : Hid (w.heap.size ≤ (w1.alloc (.cells (icell segK x.s).toArray 91)).heap.size) := by
        unfold Hid
        rw [World.size_alloc]
        have := hsz.out
        have := F1.size
        omega
       clear p pq S1 F1
       go_wp2_with (at_builtin; refine wpList_append_lies _ rfl _ _ 31 rfl w.heap.size 91 i0 (.agg #[.int .i64 0, .int .i64 0, .int .i64 0, .int .i64 0, .int .i64 0]) 5 40 Tryz.underlying31 hi hz0 hz1 hz2 rfl (by decide) _ k (icells segK (out.map PSeg.s)) rfl hown.out ⟨w1.heap.size, 0, none⟩ 1 1 (icell segK x.s) rfl rfl hnews.out (by simp [icell, Value.oneCell']) (by omega) (by unfold maxLen; omega) (by omega) hbase.out (w1.heap.size + 1) (by rw [World.size_alloc]) ?_; intro q' c' w2 hown2 hgrow hat hlt2; have O2 := hideP (HX.out L' w1 w2 _ q' c' P1.out P2.out P3.out P4.out hown2 hgrow hat); clear hown2 hgrow hat hlt2)
       exact ⟨⟨k + 1, q', c', g, cap, out ++ [x], L', by omega, by go_num, by rw [List.length_append, HLo.out]; rfl, rfl, O2.out⟩, by simp [intOf]; omega⟩
     · have HF : Hid (SNew w wr (.slice (some ⟨q, 0, none⟩) k c) (sortS l)) := by
        have hr : rest = [] := List.length_eq_zero_iff.1 (by have := HO.out.len; have := HLo.out; omega)
        have hp := HO.out.off.2.2.2
        rw [hr, List.append_nil] at hp
        have hs := sorted_same HO.out.off.1 hp
        refine ⟨q, c, ?_, HO.out.lo, by rw [← hs]; exact HO.out.row⟩
        rw [sortS_len, show k = l.length by omega]
       have HB := hideP HO.out.below
       go_wp2
       go_ret
       exact ⟨_, rfl, HF.out, HB.out⟩
theorem setCells_blk : ∀ (vs : List Value) (w : World) (b o : Nat) (cur : Array Value) (T : TypeId), Blk w b cur T → ∃ cur', Blk (w.setCells b o vs) b cur' T ∧ cur'.size = cur.size ∧ ∀ q, q < o → cur'[q]? = cur[q]?
  | [], _, _, _, cur, _, h => ⟨cur, h, rfl, fun _ _ => rfl⟩
  | v :: r, w, b, o, cur, T, h => by
   obtain ⟨cur', h1, h2, h3⟩ := setCells_blk r (w.setCell ⟨b, o, none⟩ v) b (o + 1) _ T (h.set o v)
   refine ⟨cur', h1, by rw [h2]; simp, fun q hq => ?_⟩
   rw [h3 q (by omega), Array.getElem?_setIfInBounds_ne (by omega)]
theorem setCells_grown : ∀ (vs : List Value) (w : World) (b o : Nat), w.grownBy (w.setCells b o vs) (some b)
  | [], _, _, _ => ⟨rfl, rfl, rfl, Nat.le_refl _, fun _ _ _ => rfl⟩
  | v :: r, w, b, o => by
   have h1 : w.grownBy (w.setCell ⟨b, o, none⟩ v) (some b) := ⟨rfl, rfl, rfl, by rw [World.size_setCell]; exact Nat.le_refl _, fun k _ hk => Below.heap_setCell w _ _ k (by intro e; apply hk; rw [e])⟩
   exact grown_two h1 (setCells_grown r _ b (o + 1))
theorem clear_segs (w : World) (b o n c : Nat) (ty : TypeId) (hn : 0 < n) (hc : ∀ j, j < n * 5 → (w.cell? ⟨b, o + j, none⟩).isSome = true) (hf : ∀ j, j < n * 5 → w.frozen? ⟨b, o + j, none⟩ = false) :
    (Builtin.clear_ #[31] ty #[.slice (some ⟨b, o, none⟩) n c]).run Tryz.prog w = .ok (.tuple #[]) (w.setCells b o (Builtin.zeroCells #[.int .i64 0, .int .i64 0, .int .i64 0, .int .i64 0, .int .i64 0] n).toList) := by
  have hl : (Builtin.zeroCells #[.int .i64 0, .int .i64 0, .int .i64 0, .int .i64 0, .int .i64 0] n).toList.length = n * 5 := by simp [Builtin.zeroCells]
  have hone : ∀ v ∈ (Builtin.zeroCells #[.int .i64 0, .int .i64 0, .int .i64 0, .int .i64 0, .int .i64 0] n).toList, v.oneCell' = true := by
   intro v hv
   simp only [Builtin.zeroCells, Array.toList_map, List.mem_map] at hv
   obtain ⟨i, _, rfl⟩ := hv
   have h5 : i % 5 < 5 := Nat.mod_lt _ (by omega)
   show (#[Value.int .i64 0, .int .i64 0, .int .i64 0, .int .i64 0, .int .i64 0][i % 5]!).oneCell' = true
   rcases (show i % 5 = 0 ∨ i % 5 = 1 ∨ i % 5 = 2 ∨ i % 5 = 3 ∨ i % 5 = 4 by omega) with e | e | e | e | e <;> rw [e] <;> rfl
  have hst := run_storeCells_cells (P := Tryz.prog) b o (Builtin.zeroCells #[.int .i64 0, .int .i64 0, .int .i64 0, .int .i64 0, .int .i64 0] n).toList 0 w (by rw [hl]; simpa using hc) (by rw [hl]; simpa using hf) hone
  simp only [Nat.add_zero] at hst
  obtain ⟨m, rfl⟩ : ∃ m, n = m + 1 := ⟨n - 1, by omega⟩
  simp [Builtin.clear_, run_underlying Tryz.underlying31, Value.cells, hst]
theorem implNoDay (s : Seg) (w : World) : CR 248 #[.agg #[.int .i64 s.fr, .int .i64 s.to, .int .i64 s.cal, .int .i64 s.sty, .int .i64 s.off]] w (.bool (!hasDayB s)) := by
 unfold hasDayB
 by_cases h : s.fr ≤ s.to
 · have hd : decide (s.to < s.fr) = false := by simp; omega
   rw [decide_eq_true h]
   go_enter Tryz.func248, Tryz.ntmps248
   go_wp2
   go_ret
   exact ⟨rfl, (Below.refl _ _).alloc (Nat.le_refl _) _⟩
 · have hd : decide (s.to < s.fr) = true := by simp; omega
   rw [decide_eq_false h]
   go_enter Tryz.func248, Tryz.ntmps248
   go_wp2
   go_ret
   exact ⟨rfl, (Below.refl _ _).alloc (Nat.le_refl _) _⟩
theorem indexDel (v : Value) (l : List Seg) (w : World) (h : IRow segK w v l) : CR 288 #[v, .func (.func 248) #[] #[]] w (.int .i64 (ifind (fun s => !hasDayB s) l)) := by
 obtain ⟨a, c, rfl, hl, hm, H⟩ := h
 have HK := hideP H
 unfold maxLen at hm
 clear H
 go_enter Tryz.func288, Tryz.ntmps288
 go_wp2
 go_loopw [8] (fun i wr => ∃ k : Nat, k ≤ l.length ∧ i = .int .i64 (k : Int) ∧ Hid (ifFrom (fun s => !hasDayB s) (l.drop k) k = ifind (fun s => !hasDayB s) l) ∧ Below w.heap.size w wr) (fun i _ => l.length - (intOf i).toNat)
 case atStart => exact ⟨0, Nat.zero_le _, rfl, rfl, Below.refl _ _⟩
 case round =>
  obtain ⟨k, hk, rfl, HF, hB⟩ := hrel
  have HB := hideP hB
  clear hB
  by_cases hlt : k < l.length
  · obtain ⟨g, rfl, hg, x⟩ := HK.out k hlt
    obtain ⟨c0, c1, c2, c3, c4⟩ := (x.below HB.out hg).seg
    have K1 := hideP (fun h => if_hit (K := segK) (p := fun s => !hasDayB s) hlt h HF.out)
    have K2 := hideP (fun h => if_miss (K := segK) (p := fun s => !hasDayB s) hlt h HF.out)
    have KD := hideP (implNoDay (atK segK l k) wr)
    clear x
    generalize atK segK l k = r at *
    go_wp2_with fail
    refine KD.out.mono ?_
    rintro e w1 ⟨rfl, hb⟩
    have HB1 : Hid (Below w.heap.size w w1) := HB.out.trans (hb.mono HB.out.size)
    clear hb c0 c1 c2 c3 c4
    cases hq : hasDayB r
    · have HN := hideP (K1.out (by simp [hq]))
      go_wp2
      go_ret
      exact ⟨ret_int HN.out.symm, HB1.out⟩
    · have HN := hideP (K2.out (by simp [hq]))
      go_wp2
      exact ⟨⟨k + 1, by omega, by go_num, HN.out, HB1.out⟩, by simp [intOf]; omega⟩
  · have HN := hideP (if_end (by omega) HF.out)
    go_wp2
    go_ret
    exact ⟨ret_int HN.out.symm, HB.out⟩
theorem if_cases (p : Seg → Bool) (l : List Seg) : (ifind p l = -1 ∧ ∀ k, k < l.length → p (sgA l k) = false) ∨ ∃ k, k < l.length ∧ ifind p l = (k : Int) ∧ p (sgA l k) = true ∧ ∀ j, j < k → p (sgA l j) = false := by
 have go : ∀ n k, n + k = l.length → (∀ j, j < k → p (sgA l j) = false) → (ifFrom p (l.drop k) k = -1 ∧ ∀ j, j < l.length → p (sgA l j) = false) ∨ ∃ q, q < l.length ∧ ifFrom p (l.drop k) k = (q : Int) ∧ p (sgA l q) = true ∧ ∀ j, j < q → p (sgA l j) = false := by
  intro n
  induction n with
  | zero => intro k hk hj; exact .inl ⟨by rw [List.drop_of_length_le (by omega)]; rfl, fun j h => hj j (by omega)⟩
  | succ n ih =>
   intro k hk hj
   have hlt : k < l.length := by omega
   cases hp : p (sgA l k)
   · have e := if_miss (K := segK) hlt hp (R := _) rfl
     rw [← e]
     exact ih (k + 1) (by omega) (fun j h => by
      by_cases q : j = k
      · subst q; exact hp
      · exact hj j (by omega))
   · exact .inr ⟨k, hlt, if_hit (K := segK) hlt hp rfl, hp, hj⟩
 exact go l.length 0 (by omega) (fun j h => by omega)
theorem filter_all {p : Seg → Bool} {L : List Seg} : ∀ k, k ≤ L.length → (∀ j, j < k → p (sgA L j) = true) → (L.take k).filter p = L.take k
  | 0, _, _ => by simp
  | k + 1, hk, h => by
   rw [filter_snoc (by omega), filter_all k (by omega) (fun j hj => h j (by omega)), if_pos (h k (by omega)), sgA_eq (show k < L.length by omega), ← List.take_succ_eq_append_getElem (show k < L.length by omega)]
structure Del1 (w : World) (g cap : Nat) (L : List Seg) (i j : Nat) (M : List Seg) (wr : World) : Prop where
 row : PRow segK 91 wr g cap M
 len : M.length = L.length
 pre : M.take i = (L.take j).filter hasDayB
 suf : M.drop j = L.drop j
 ij : i < j
 grown : w.grownBy wr (some g)
theorem Del1.at {w : World} {g cap : Nat} {L : List Seg} {i j : Nat} {M : List Seg} {wr : World} (h : Del1 w g cap L i j M wr) (hj : j < L.length) : sgA M j = sgA L j := by
 have := congrArg (fun l => l.head?) h.suf
 simp only [List.head?_drop] at this
 rw [sgA_eq hj, sgA_eq (by rw [h.len]; exact hj)]
 rw [List.getElem?_eq_getElem hj, List.getElem?_eq_getElem (by rw [h.len]; exact hj)] at this
 exact Option.some.inj this
theorem drop_next {M L : List Seg} {j : Nat} (h : M.drop j = L.drop j) : M.drop (j + 1) = L.drop (j + 1) := by
 have := congrArg (List.drop 1) h
 simpa [List.drop_drop, Nat.add_comm] using this
theorem grown_below {w wr w1 : World} {g : Nat} (h : w.grownBy wr (some g)) (hb : Below wr.heap.size wr w1) : w.grownBy w1 (some g) := ⟨hb.os.trans h.os, hb.tape.trans h.tape, hb.output.trans h.output, Nat.le_trans h.size hb.size, fun k hk hn => (hb.block k (Nat.lt_of_lt_of_le hk h.size)).trans (h.block k hk hn)⟩
theorem Del1.skip {w : World} {g cap : Nat} {L : List Seg} {i j : Nat} {M : List Seg} {wr w1 : World} (h : Del1 w g cap L i j M wr) (hj : j < L.length) (hd : hasDayB (sgA L j) = false) (hb : Below wr.heap.size wr w1) : Del1 w g cap L i (j + 1) M w1 := by
 refine ⟨h.row.below hb h.row.lt, h.len, ?_, drop_next h.suf, by have := h.ij; omega, grown_below h.grown hb⟩
 rw [filter_snoc hj, hd, h.pre]
 simp
theorem Del1.keep {w : World} {g cap : Nat} {L : List Seg} {i j : Nat} {M : List Seg} {wr w1 : World} (h : Del1 w g cap L i j M wr) (hj : j < L.length) (hd : hasDayB (sgA L j) = true) (hb : Below wr.heap.size wr w1) : Del1 w g cap L (i + 1) (j + 1) (M.set i (sgA L j)) (putI w1 g (i * 5) 0 (segK.iv (sgA L j))) := by
 have hij := h.ij
 have hlen := h.len
 refine ⟨(h.row.below hb h.row.lt).put (by omega) (sgA L j), by simpa using h.len, ?_, ?_, by omega, grown_two (grown_below h.grown hb) (putI_grown _ _ _ _ _)⟩
 · rw [filter_snoc hj, hd, ← h.pre, if_pos rfl, List.take_succ_eq_append_getElem (by simp; omega)]
   rw [List.take_set, List.set_eq_of_length_le (by simp; omega)]
   simp
 · rw [List.drop_set, if_pos (by omega)]
   exact drop_next h.suf
theorem put_seg (w : World) (g i : Nat) (s : Seg) : ((((w.setCell ⟨g, i * 5, none⟩ (.int .i64 s.fr)).setCell ⟨g, i * 5 + 1, none⟩ (.int .i64 s.to)).setCell ⟨g, i * 5 + 2, none⟩ (.int .i64 s.cal)).setCell ⟨g, i * 5 + 3, none⟩ (.int .i64 s.sty)).setCell ⟨g, i * 5 + 4, none⟩ (.int .i64 s.off) = putI w g (i * 5) 0 (segK.iv s) := rfl
def DelOut (w : World) (g cap : Nat) (L : List Seg) (o : Value) (w' : World) : Prop := o = .slice (some ⟨g, 0, none⟩) (L.filter hasDayB).length cap ∧ PRow segK 91 w' g cap (L.filter hasDayB) ∧ w.grownBy w' (some g)
theorem Del1.done {w : World} {g cap : Nat} {L : List Seg} {i : Nat} {M : List Seg} {wr : World} (h : Del1 w g cap L i L.length M wr) (vs : List Value) : DelOut w g cap L (.slice (some ⟨g, 0, none⟩) i cap) (wr.setCells g (i * 5) vs) := by
 have hp := h.pre
 rw [List.take_length] at hp
 have hij := h.ij
 have hlen := h.len
 have hl : (L.filter hasDayB).length = i := by rw [← hp]; simp; omega
 obtain ⟨cur, hB, hs, h1, h2, hC⟩ := h.row
 obtain ⟨cur', b1, b2, b3⟩ := setCells_blk vs wr g (i * 5) cur _ hB
 refine ⟨by rw [hl], ⟨cur', b1, by rw [b2, hs], by omega, h2, fun k hk j z e => ?_⟩, grown_two h.grown (setCells_grown _ _ _ _)⟩
 rw [hl] at hk
 have hj : j < 5 := by have := (List.getElem?_eq_some_iff.1 e).1; rw [segK.len] at this; exact this
 rw [show k * segK.m + j = k * 5 + j from rfl, b3 _ (by omega)]
 refine hC k (by omega) j z ?_
 have : atK segK (L.filter hasDayB) k = atK segK M k := by rw [← hp]; simp [atK, List.getD, hk]
 rw [← this]
 exact e
theorem deleteDel (g cap : Nat) (L : List Seg) (w : World) (hP : PRow segK 91 w g cap L) : Calls Tryz.prog 246 #[.slice (some ⟨g, 0, none⟩) L.length cap, .func (.func 248) #[] #[]] w fun e w' => ∃ o, e = .returned o ∧ DelOut w g cap L o w' := by
 have KI := indexDel _ L w hP.row
 have hcap : L.length ≤ cap := by obtain ⟨_, _, _, q, _⟩ := hP; exact q
 have hcm : cap ≤ maxLen := by obtain ⟨_, _, _, _, q, _⟩ := hP; exact q
 unfold maxLen at hcm
 have HP := hideP hP
 clear hP
 rcases if_cases (fun s => !hasDayB s) L with ⟨e, hall⟩ | ⟨k, hk, e, hk1, hk2⟩
 · rw [e] at KI
   have HK := hideP KI
   have HF : Hid (L.filter hasDayB = L) := by
    have := filter_all (p := hasDayB) (L := L) L.length (Nat.le_refl _) (fun j hj => by have := hall j hj; simpa using this)
    rw [List.take_length] at this
    exact this
   clear KI e hall
   go_enter Tryz.func246, Tryz.ntmps246
   go_wp2_with fail
   refine HK.out.mono ?_
   rintro e w1 ⟨rfl, hb⟩
   have HO : Hid (DelOut w g cap L (.slice (some ⟨g, 0, none⟩) L.length cap) w1) := ⟨by rw [HF.out], by rw [HF.out]; exact HP.out.below hb HP.out.lt, grown_below ⟨rfl, rfl, rfl, Nat.le_refl _, fun _ _ _ => rfl⟩ hb⟩
   clear hb
   go_wp2
   go_ret
   exact ⟨_, rfl, HO.out⟩
 · rw [e] at KI
   have HK := hideP KI
   have HD : Hid (∀ w1, Below w.heap.size w w1 → Del1 w g cap L k (k + 1) L w1) := fun w1 hb => by
    refine ⟨HP.out.below hb HP.out.lt, rfl, ?_, rfl, by omega, grown_below ⟨rfl, rfl, rfl, Nat.le_refl _, fun _ _ _ => rfl⟩ hb⟩
    rw [filter_snoc hk, show hasDayB (sgA L k) = false by simpa using hk1, filter_all k (by omega) (fun j hj => by have := hk2 j hj; simpa using this)]
    simp
   clear KI e hk1 hk2
   go_enter Tryz.func246, Tryz.ntmps246
   go_wp2_with fail
   refine HK.out.mono ?_
   rintro e w1 ⟨rfl, hb⟩
   have D1 := hideP (HD.out w1 hb)
   clear hb HD
   go_wp2
   go_loopw [5, 6] (fun p q wr => ∃ (i j : Nat) (M : List Seg), i < j ∧ j ≤ L.length ∧ p = .int .i64 (i : Int) ∧ q = .int .i64 (j : Int) ∧ Del1 w g cap L i j M wr) (fun _ q _ => L.length - (intOf q).toNat)
   case atStart => exact ⟨k, k + 1, L, by omega, by omega, rfl, by go_num, D1.out⟩
   case round =>
    obtain ⟨i, j, M, hij, hj, rfl, rfl, hD⟩ := hrel
    have H := hideP hD
    clear hD D1
    by_cases hlt : j < L.length
    · have hrow := H.out.row.at (k := j) (by rw [H.out.len]; exact hlt)
      rw [show atK segK M j = sgA L j from H.out.at hlt] at hrow
      obtain ⟨c0, c1, c2, c3, c4⟩ := hrow.seg
      have hgl := H.out.row.lt
      have HK1 := hideP (implNoDay (sgA L j))
      have HSk : Hid (∀ w1, Below wr.heap.size wr w1 → hasDayB (sgA L j) = false → Del1 w g cap L i (j + 1) M w1) := fun w1 hb hd => H.out.skip hlt hd hb
      have HKp : Hid (∀ w1, Below wr.heap.size wr w1 → hasDayB (sgA L j) = true → Del1 w g cap L (i + 1) (j + 1) (M.set i (sgA L j)) (putI w1 g (i * 5) 0 (segK.iv (sgA L j)))) := fun w1 hb hd => H.out.keep hlt hd hb
      have HO : Hid (∀ w1, Below wr.heap.size wr w1 → ∀ q, q < 5 → (∃ u, w1.cell? ⟨g, i * 5 + q, none⟩ = some u) ∧ w1.frozen? ⟨g, i * 5 + q, none⟩ = false) := fun w1 hb q hq => by
       obtain ⟨cur, hB, hs, h1, _⟩ := H.out.row
       have hB' := hB.below hb hB.lt
       have h5 : (i + 1) * 5 ≤ cap * 5 := Nat.mul_le_mul_right _ (by rw [H.out.len] at h1; omega)
       have h6 : cur.size = cap * 5 := hs
       exact ⟨⟨cur[i * 5 + q]'(by omega), hB'.cell _ (by simp)⟩, hB'.thaw _⟩
      clear hrow
      generalize sgA L j = r at *
      obtain ⟨W1, hW1⟩ : ∃ W1, W1 = wr.alloc (.cells #[.int .i64 r.fr, .int .i64 r.to, .int .i64 r.cal, .int .i64 r.sty, .int .i64 r.off] 91) := ⟨_, rfl⟩
      have HB1 : Hid (Below wr.heap.size wr W1) := by unfold Hid; rw [hW1]; exact (Below.refl _ _).alloc (Nat.le_refl _) _
      have q0 : ∀ x : Later W1, x.w.cell? ⟨wr.heap.size, 0, none⟩ = some (.int .i64 r.fr) := Later.new hW1 0 rfl
      have q1 : ∀ x : Later W1, x.w.cell? ⟨wr.heap.size, 1, none⟩ = some (.int .i64 r.to) := Later.new hW1 1 rfl
      have q2 : ∀ x : Later W1, x.w.cell? ⟨wr.heap.size, 2, none⟩ = some (.int .i64 r.cal) := Later.new hW1 2 rfl
      have q3 : ∀ x : Later W1, x.w.cell? ⟨wr.heap.size, 3, none⟩ = some (.int .i64 r.sty) := Later.new hW1 3 rfl
      have q4 : ∀ x : Later W1, x.w.cell? ⟨wr.heap.size, 4, none⟩ = some (.int .i64 r.off) := Later.new hW1 4 rfl
      have HW1 := hideP hW1
      clear hW1
      go_wp2_with fail
      rw [← HW1.out]
      refine (HK1.out _).mono ?_
      rintro e w2 ⟨rfl, hb⟩
      obtain ⟨x2, rfl⟩ := Later.of hb
      have HB2 : Hid (Below wr.heap.size wr x2.w) := HB1.out.trans (hb.mono HB1.out.size)
      clear hb c0 c1 c2 c3 c4
      cases hd : hasDayB r
      · have HN := hideP (HSk.out x2.w HB2.out hd)
        go_wp2
        exact ⟨⟨_, _, _, _, _, _, _, _, _, _, _, _, _, _, _, _, _, _, _, _, _, _, _, ⟨i, j + 1, M, by omega, by omega, rfl, rfl, HN.out⟩, rfl⟩, by simp [intOf]; omega⟩
      · have HN := hideP (HKp.out x2.w HB2.out hd)
        obtain ⟨⟨u0, p0⟩, f0⟩ := HO.out x2.w HB2.out 0 (by omega)
        obtain ⟨⟨u1, p1⟩, f1⟩ := HO.out x2.w HB2.out 1 (by omega)
        obtain ⟨⟨u2, p2⟩, f2⟩ := HO.out x2.w HB2.out 2 (by omega)
        obtain ⟨⟨u3, p3⟩, f3⟩ := HO.out x2.w HB2.out 3 (by omega)
        obtain ⟨⟨u4, p4⟩, f4⟩ := HO.out x2.w HB2.out 4 (by omega)
        rw [Nat.add_zero] at p0 f0
        go_wp2
        rw [put_seg]
        exact ⟨⟨_, _, _, _, _, _, _, _, _, _, _, _, _, _, _, _, _, _, _, _, _, _, _, ⟨i + 1, j + 1, M.set i r, by omega, by omega, rfl, rfl, HN.out⟩, rfl⟩, by simp [intOf]; omega⟩
    · obtain rfl : j = L.length := by omega
      have hci : ¬ cap = i := by omega
      have hcl := fun ty => clear_segs wr g (i * 5) (L.length - i) (cap - i) ty (by omega) (fun q hq => by
       obtain ⟨cur, hB, hs, h1, _⟩ := H.out.row
       have h5 : L.length * 5 ≤ cap * 5 := Nat.mul_le_mul_right _ (by rw [H.out.len] at h1; omega)
       have h6 : cur.size = cap * 5 := hs
       rw [hB.cell (i * 5 + q) (v := cur[i * 5 + q]'(by omega)) (by simp)]
       rfl) (fun q hq => by obtain ⟨cur, hB, _⟩ := H.out.row; exact hB.thaw _)
      have HN := hideP (H.out.done (Builtin.zeroCells #[.int .i64 0, .int .i64 0, .int .i64 0, .int .i64 0, .int .i64 0] (L.length - i)).toList)
      generalize (Builtin.zeroCells #[.int .i64 0, .int .i64 0, .int .i64 0, .int .i64 0, .int .i64 0] (L.length - i)).toList = vs at *
      go_wp2
      go_ret
      exact ⟨_, rfl, HN.out⟩
end Go.Proofs.YtpclaceefapppaaGreatDoor.ctr
