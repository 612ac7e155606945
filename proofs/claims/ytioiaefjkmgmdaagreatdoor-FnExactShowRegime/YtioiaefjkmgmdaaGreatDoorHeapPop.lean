/- Contracts of the heap's Pop, of container/heap's Pop and of takeFirst: the segment that is ahead of all others is taken off. -/
import Derived.Test.YtioiaefjkmgmdaaGreatDoorHeapDown
namespace Go.Proofs.YtioiaefjkmgmdaaGreatDoor.ctr
open Go.RowKit

set_option maxRecDepth 100000 in
set_option maxHeartbeats 2000000 in
theorem heapPopM (base hb g cap n : Nat) (L : List PSeg) (w : World) (h : HS base w hb g cap L) (hn : L.length = n + 1) (hl : n < 1048576) :
    Calls Tryz.prog 299 #[.pointer (some ⟨hb, 0, none⟩)] w fun e w' => e = .returned (.iface 202 (.agg #[.int .i64 (psA L n).s.fr, .int .i64 (psA L n).s.to, .int .i64 (psA L n).s.cal, .int .i64 (psA L n).s.sty, .int .i64 (psA L n).s.off, .int .i64 (psA L n).at'])) ∧ HS base w' hb g cap (L.take n) ∧ Fr hb g w w' := by
  have hc : w.cell? ⟨hb, 0, none⟩ = some (.slice (some ⟨g, 0, none⟩) (n + 1) cap) := by rw [← hn]; exact h.box.cell 0 rfl
  have hf := h.box.thaw 0
  have hlb := h.box.lt
  have hlg := h.row.lt
  obtain ⟨c0, c1, c2, c3, c4, c5⟩ := (h.row.at (k := n) (by omega)).ps
  have hcap : n + 1 ≤ cap := by obtain ⟨_, _, _, q, _⟩ := h.row; omega
  have hcm : cap ≤ maxLen := by obtain ⟨_, _, _, _, q, _⟩ := h.row; exact q
  have H := hideP h
  have HN := hideP hn
  have ht : Hid ((L.take n).length = n) := by unfold Hid; simp; omega
  unfold maxLen at hcm
  rw [atK_ps] at c0 c1 c2 c3 c4 c5
  clear h hn
  generalize psA L n = x at *
  go_enter Tryz.func299, Tryz.ntmps299
  go_wp2_with fail
  go_ret
  refine ⟨rfl, ⟨?_, ?_, H.out.ne, H.out.lo, H.out.lg⟩, ?_⟩
  · rw [ht.out]
    exact (H.out.box.set 0 _).alloc _
  · obtain ⟨cur, q1, q2⟩ := H.out.row.shorter n
    exact ⟨cur, (q1.other (Ne.symm H.out.ne)).alloc _, q2⟩
  · have q : Below hb w ((w.setCell ⟨hb, 0, none⟩ (.slice (some ⟨g, 0, none⟩) n cap)).alloc (.cells #[.int .i64 x.s.fr, .int .i64 x.s.to, .int .i64 x.s.cal, .int .i64 x.s.sty, .int .i64 x.s.off, .int .i64 x.at'] 202)) := ((Below.refl hb w).setCell (p := ⟨hb, 0, none⟩) (Nat.le_refl _) _).alloc (by rw [World.size_setCell]; exact Nat.le_of_lt hlb) _
    refine ⟨q.os, q.tape, q.output, q.size, fun k hk h1 _ => ?_⟩
    rw [Below.heap_alloc _ _ k (by rw [World.size_setCell]; exact hk)]
    exact Below.heap_setCell w _ _ k h1
set_option maxRecDepth 100000 in
set_option maxHeartbeats 2000000 in
theorem heapPop (base hb g cap n : Nat) (L : List PSeg) (w : World) (h : HS base w hb g cap L) (hn : L.length = n + 1) (hl : n < 1048576) (hH : HeapOn L L.length) :
    Calls Tryz.prog 237 #[.iface 197 (.pointer (some ⟨hb, 0, none⟩))] w fun e w' => e = .returned (.iface 202 (.agg #[.int .i64 (psA L 0).s.fr, .int .i64 (psA L 0).s.to, .int .i64 (psA L 0).s.cal, .int .i64 (psA L 0).s.sty, .int .i64 (psA L 0).s.off, .int .i64 (psA L 0).at'])) ∧ ∃ L', (psA L 0 :: L').Perm L ∧ HeapOn L' L'.length ∧ HS base w' hb g cap L' ∧ Fr hb g w w' := by
  have hc : w.cell? ⟨hb, 0, none⟩ = some (.slice (some ⟨g, 0, none⟩) (n + 1) cap) := by rw [← hn]; exact h.box.cell 0 rfl
  have hm1 := meth_len hc
  have hm2 := meth_swap hc
  have KL := hideP (heapLen (some ⟨g, 0, none⟩) (n + 1) cap w)
  have KS0 := heapSwap g cap 0 n L w h.row (by omega) (by omega)
  rw [hn] at KS0
  have KS := hideP KS0
  have HD := hideP (down_start (l := L) (n := n) (by rw [← hn]; exact hH) hn)
  have hlast : Hid (psA (swP L 0 n) n = psA L 0) := by
    unfold Hid
    rw [psA_sw (by omega) (by omega), if_pos rfl]
  have HP := hideP (swP_perm (l := L) (i := 0) (j := n) (by omega) (by omega))
  have hlen : Hid ((swP L 0 n).length = n + 1) := by unfold Hid; rw [swP_len, hn]
  have H := hideP h
  have HN := hideP hn
  clear h hn hH KS0
  go_enter Tryz.func237, Tryz.ntmps237
  go_wp2_with fail
  refine KL.out.mono ?_
  rintro e w1 ⟨rfl, rfl⟩
  go_wp2_with fail
  refine KS.out.mono ?_
  rintro e w2 ⟨rfl, hr2, hg2⟩
  have S2 := hideP (H.out.swap (swP_len L 0 n) hr2 hg2)
  have B2 : Hid (Fr hb g w1 w2) := Fr.grown hg2
  clear hr2 hg2 hm1 hm2 hc
  have KD := hideP (heapDown base hb g cap n (swP L 0 n) w2 S2.out (by rw [hlen.out]; omega) (by rw [hlen.out]; omega) HD.out)
  go_wp2_with fail
  refine KD.out.mono ?_
  rintro e w3 ⟨b, rfl, L3, q1, q2, q3, q4, S3, B3⟩
  have hm3 := meth_pop ⟨hb, 0, none⟩
  have KP0 := heapPopM base hb g cap n L3 w3 S3 (by rw [q1, hlen.out]) hl
  rw [q4 n (Nat.le_refl _), hlast.out] at KP0
  have KP := hideP KP0
  have HR : Hid ((psA L 0 :: L3.take n).Perm L) := by
    have e : L3 = L3.take n ++ [psA L 0] := by
      have := take_last (l := L3) (n := n) (by rw [q1, hlen.out])
      rw [q4 n (Nat.le_refl _), hlast.out] at this
      exact this
    have p1 : (psA L 0 :: L3.take n).Perm L3 := by
      rw (occs := .pos [2]) [e]
      exact (List.perm_append_singleton _ _).symm
    exact p1.trans (q2.trans HP.out)
  have HH : Hid (HeapOn (L3.take n) (L3.take n).length) := by
    unfold Hid
    rw [show (L3.take n).length = n by simp; rw [q1, hlen.out]; omega]
    exact heap_init q3
  have B3' : Hid (Fr hb g w1 w3) := B2.out.trans B3
  clear KP0 q1 q2 q3 q4 S3 B3
  go_wp2_with fail
  refine KP.out.mono ?_
  rintro e w4 ⟨rfl, S4, B4⟩
  have HF : Hid (∃ L', (psA L 0 :: L').Perm L ∧ HeapOn L' L'.length ∧ HS base w4 hb g cap L' ∧ Fr hb g w1 w4) := ⟨_, HR.out, HH.out, S4, B3'.out.trans B4⟩
  clear S4 B4
  go_wp2_with fail
  go_ret
  exact ⟨rfl, HF.out⟩
theorem field_ps (a b c d e f : Int) (w : World) : (Instr.field 202 (.agg #[.int .i64 a, .int .i64 b, .int .i64 c, .int .i64 d, .int .i64 e, .int .i64 f]) 0).run Tryz.prog w = .ok (.agg #[.int .i64 a, .int .i64 b, .int .i64 c, .int .i64 d, .int .i64 e]) w := by kernel_rfl
theorem HS.far {base : Nat} {w : World} {hb g cap b i : Nat} {L : List PSeg} (h : HS base w hb g cap L) (h1 : b ≠ hb) (h2 : b ≠ g) (v : Value) : HS base (w.setCell ⟨b, i, none⟩ v) hb g cap L := by
  obtain ⟨cur, q1, q2⟩ := h.row
  exact ⟨h.box.other h1, ⟨cur, q1.other h2, q2⟩, h.ne, h.lo, h.lg⟩
theorem Fr.far {hb g i : Nat} {w w1 : World} (h : Fr hb g w w1) (v : Value) : Fr hb g w (w1.setCell ⟨w.heap.size, i, none⟩ v) :=
  ⟨h.os, h.tape, h.output, by rw [World.size_setCell]; exact h.size, fun k hk h1 h2 => (Below.heap_setCell w1 _ _ k (by show k ≠ w.heap.size; omega)).trans (h.block k hk h1 h2)⟩
set_option maxRecDepth 100000 in
set_option maxHeartbeats 2000000 in
theorem takeFirst (base hb g cap n : Nat) (L : List PSeg) (w : World) (h : HS base w hb g cap L) (hn : L.length = n + 1) (hl : n < 1048576) (hH : HeapOn L L.length) :
    Calls Tryz.prog 208 #[.pointer (some ⟨hb, 0, none⟩)] w fun e w' => e = .returned (.agg #[.int .i64 (psA L 0).s.fr, .int .i64 (psA L 0).s.to, .int .i64 (psA L 0).s.cal, .int .i64 (psA L 0).s.sty, .int .i64 (psA L 0).s.off]) ∧ ∃ L', (psA L 0 :: L').Perm L ∧ HeapOn L' L'.length ∧ HS base w' hb g cap L' ∧ Fr hb g w w' := by
  have hta := is_ps
  have hfd := field_ps
  obtain ⟨W0, hW0⟩ : ∃ W0, W0 = w.alloc (.cells #[.int .i64 0, .int .i64 0, .int .i64 0, .int .i64 0, .int .i64 0] 56) := ⟨_, rfl⟩
  have h0 : Blk W0 w.heap.size #[.int .i64 0, .int .i64 0, .int .i64 0, .int .i64 0, .int .i64 0] 56 := by rw [hW0]; exact Blk.new _ _ _
  have hb0 : Below w.heap.size w W0 := by rw [hW0]; exact (Below.refl _ _).alloc (Nat.le_refl _) _
  have hz0 : W0.heap.size = w.heap.size + 1 := by rw [hW0, World.size_alloc]
  have S0 := h.next hb0
  have hg : g < w.heap.size := h.row.lt
  have hhb : hb < w.heap.size := h.box.lt
  have KP := hideP (heapPop base hb g cap n L W0 S0 hn hl hH)
  have HB0 : Hid (Fr hb g w W0) := Fr.of hb0
  have HW0 := hideP hW0
  have HK0 := hideP h0
  have H := hideP h
  clear h hn hH hW0 h0 hb0 hz0 S0
  generalize psA L 0 = x at *
  go_enter Tryz.func208, Tryz.ntmps208
  go_wp2_with fail
  rw [← HW0.out]
  refine KP.out.mono ?_
  rintro e w1 ⟨rfl, L', p, q, S1, F1⟩
  have K1 := F1.blk HK0.out (by omega) (by omega)
  have q0 := K1.cell 0 rfl
  have q1 := K1.cell 1 rfl
  have q2 := K1.cell 2 rfl
  have q3 := K1.cell 3 rfl
  have q4 := K1.cell 4 rfl
  have f0 := K1.thaw 0
  have f1 := K1.thaw 1
  have f2 := K1.thaw 2
  have f3 := K1.thaw 3
  have f4 := K1.thaw 4
  have HK1 := hideP K1
  have HS1 := hideP S1
  have HF1 : Hid (Fr hb g w w1) := HB0.out.trans F1
  have HP := hideP p
  have HQ := hideP q
  clear K1 S1 F1 p q
  go_wp2_with fail
  obtain ⟨W9, e9⟩ : ∃ W9, W9 = ((((w1.setCell ⟨w.heap.size, 0, none⟩ (.int .i64 x.s.fr)).setCell ⟨w.heap.size, 1, none⟩ (.int .i64 x.s.to)).setCell ⟨w.heap.size, 2, none⟩ (.int .i64 x.s.cal)).setCell ⟨w.heap.size, 3, none⟩ (.int .i64 x.s.sty)).setCell ⟨w.heap.size, 4, none⟩ (.int .i64 x.s.off) := ⟨_, rfl⟩
  have Z9 : Blk W9 w.heap.size #[.int .i64 x.s.fr, .int .i64 x.s.to, .int .i64 x.s.cal, .int .i64 x.s.sty, .int .i64 x.s.off] 56 := by rw [e9]; exact ((((HK1.out.set 0 _).set 1 _).set 2 _).set 3 _).set 4 _
  have S9 : HS base W9 hb g cap L' := by
    rw [e9]
    exact HS.far (HS.far (HS.far (HS.far (HS.far HS1.out (by omega) (by omega) _) (by omega) (by omega) _) (by omega) (by omega) _) (by omega) (by omega) _) (by omega) (by omega) _
  have B9 : Fr hb g w W9 := by
    rw [e9]
    exact Fr.far (Fr.far (Fr.far (Fr.far (Fr.far HF1.out _) _) _) _) _
  rw [← e9]
  clear e9
  have z0 := Z9.cell 0 rfl
  have z1 := Z9.cell 1 rfl
  have z2 := Z9.cell 2 rfl
  have z3 := Z9.cell 3 rfl
  have z4 := Z9.cell 4 rfl
  exact bodyPost_ret (by simp [results, Tryz.results208, go_sem, z0, z1, z2, z3, z4]; try rfl) rfl ⟨rfl, L', HP.out, HQ.out, S9, B9⟩
end Go.Proofs.YtioiaefjkmgmdaaGreatDoor.ctr
