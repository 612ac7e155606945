/- Contract of the program's Sorted: a new list that holds the segments as the model puts them. -/
import Derived.Test.YtioiaefjkmgmdaaGreatDoorHeapPop
namespace Go.Proofs.YtioiaefjkmgmdaaGreatDoor.ctr
open Go.RowKit

/-- A list in a block of its own that was not there in w, with room behind it. -/
def SNew (w w' : World) (o : Value) (l : List Seg) : Prop := ∃ g cap, o = .slice (some ⟨g, 0, none⟩) l.length cap ∧ w.heap.size ≤ g ∧ PRow segK 56 w' g cap l
theorem SNew.row {w w' : World} {o : Value} {l : List Seg} (h : SNew w w' o l) : IRow segK w' o l := by
  obtain ⟨g, cap, rfl, _, h⟩ := h
  exact h.row
theorem SNew.below {w w' w'' : World} {o : Value} {l : List Seg} (h : SNew w w' o l) (hb : Below w'.heap.size w' w'') : SNew w w'' o l := by
  obtain ⟨g, cap, rfl, hg, h⟩ := h
  exact ⟨g, cap, rfl, hg, h.below hb h.lt⟩
theorem make_seg0 (n : Nat) (hn : n ≤ 1048576) (W : World) : (Instr.makeSlice 25 (.int .i64 0) (.int .i64 (n : Int))).run Tryz.prog W = .ok (.slice (some ⟨W.heap.size, 0, none⟩) 0 n) (W.alloc (.cells (madeCells segzero (n * 5)) 56)) := by
  obtain ⟨i0, hi, e⟩ := Option.map_eq_some_iff.1 info_seg
  simp only [Prod.mk.injEq] at e
  obtain ⟨hz, hs, hb⟩ := e
  have h := run_make (P := Tryz.prog) W 25 56 i0 _ Tryz.underlying25 hi hz .i64 .i64 0 (n : Int) (by omega) (by omega) (by rw [hb]; omega) (by omega)
  rw [hs] at h
  simp only [Int.toNat_natCast] at h
  exact h
theorem news_seg (w : World) (x : Seg) (t : TypeId) : ∀ j u, (icell segK x)[j]? = some u → (w.alloc (.cells (icell segK x).toArray t)).cell? ((⟨w.heap.size, 0, none⟩ : Addr).add j) = some u := by
  intro j u h
  have := (Blk.new w (icell segK x).toArray t).cell j (v := u) (by simpa using h)
  rw [show ((⟨w.heap.size, 0, none⟩ : Addr).add j) = ⟨w.heap.size, j, none⟩ from by unfold Addr.add; split <;> simp_all]
  exact this
theorem HS.grown {base : Nat} {w w' : World} {hb g cap q : Nat} {L : List PSeg} (h : HS base w hb g cap L) (hg : w.grownBy w' (some q)) (h1 : q ≠ hb) (h2 : q ≠ g) : HS base w' hb g cap L :=
  ⟨(hg.block hb h.box.lt (fun e => h1 (by simpa using e.symm))).trans h.box, h.row.grown hg (fun e => h2 (by simpa using e.symm)), h.ne, h.lo, h.lg⟩
/-- Putting in, under way. -/
structure In1 (w : World) (l : List Seg) (k : Nat) (g cap : Nat) (L : List PSeg) (wr : World) : Prop where
  hs : HS w.heap.size wr (w.heap.size + 1) g cap L
  heap : HeapOn L L.length
  perm : L.Perm (tagS (l.take k) 0)
  below : Below w.heap.size w wr
/-- Taking off, under way. -/
structure Off1 (w : World) (l : List Seg) (q c g cap : Nat) (out rest : List PSeg) (wr : World) : Prop where
  hs : HS w.heap.size wr (w.heap.size + 1) g cap rest
  off : OffTo l out rest
  row : PRow segK 56 wr q c (out.map PSeg.s)
  ne1 : q ≠ w.heap.size + 1
  ne2 : q ≠ g
  lo : w.heap.size ≤ q
  below : Below w.heap.size w wr
theorem In1.len {w : World} {l : List Seg} {k g cap : Nat} {L : List PSeg} {wr : World} (h : In1 w l k g cap L wr) (hk : k ≤ l.length) : L.length = k := by
  rw [h.perm.length_eq, tagS_len]; simp; omega
theorem In1.next {w : World} {l : List Seg} {k g cap g' cap' : Nat} {L L' : List PSeg} {wr w' w'' : World} (h : In1 w l k g cap L wr) (hk : k < l.length) (hp : L'.Perm (L ++ [⟨sgA l k, (k : Int)⟩])) (hh : HeapOn L' L'.length) (hs : HS w.heap.size w'' (w.heap.size + 1) g' cap' L') (h1 : Below wr.heap.size wr w') (h2 : Below w.heap.size w' w'') : In1 w l (k + 1) g' cap' L' w'' := by
  refine ⟨hs, hh, ?_, h.below.trans ((h1.mono h.below.size).trans h2)⟩
  rw [tagS_take hk]
  exact hp.trans (h.perm.append_right _)
theorem Off1.len {w : World} {l : List Seg} {q c g cap : Nat} {out rest : List PSeg} {wr : World} (h : Off1 w l q c g cap out rest wr) : out.length + rest.length = l.length := by
  have := h.off.2.2.2.length_eq
  rw [List.length_append, tagS_len] at this
  exact this
theorem heap_first {L : List PSeg} (h : HeapOn L L.length) : ∀ y ∈ L, leP (psA L 0) y := by
  intro y hy
  obtain ⟨k, hk, rfl⟩ := List.mem_iff_getElem.1 hy
  rw [← psA_eq hk]
  exact heap_min h k hk
theorem PRow.fr {α : Type} {K : IK α} {T : TypeId} {w w' : World} {hb g q c : Nat} {L : List α} (h : PRow K T w q c L) (hf : Fr hb g w w') (h1 : q ≠ hb) (h2 : q ≠ g) : PRow K T w' q c L := by
  obtain ⟨cur, hB, r⟩ := h
  exact ⟨cur, hf.blk hB h1 h2, r⟩
theorem Off1.next {w : World} {l : List Seg} {q c g cap q' c' : Nat} {out rest rest' : List PSeg} {wr w1 w2 : World} {o : Obj} (h : Off1 w l q c g cap out rest wr) (hp : (psA rest 0 :: rest').Perm rest) (hh : HeapOn rest' rest'.length) (hs : HS w.heap.size w1 (w.heap.size + 1) g cap rest') (hf : Fr (w.heap.size + 1) g wr w1)
    (hown : w2.ownsRow w.heap.size 56 5 (.slice (some ⟨q', 0, none⟩) (out.length + 1) c') (out.length + 1) (icells segK (out.map PSeg.s) ++ icell segK (psA rest 0).s)) (hgrow : (w1.alloc o).grownBy w2 (Value.slice (some ⟨q, 0, none⟩) out.length c).ownBlock) (hat : (Value.slice (some ⟨q, 0, none⟩) out.length c).ownBlock = some q' ∨ q' = w1.heap.size + 1) : Off1 w l q' c' g cap (out ++ [psA rest 0]) rest' w2 := by
  have hg : (w1.alloc o).grownBy w2 (some q) := hgrow
  have hs' := (hs.next (w' := w1.alloc o) ((Below.refl _ _).alloc (Nat.le_refl _) _)).grown hg h.ne1 h.ne2
  have l1 := hs.box.lt
  have l2 := hs.row.lt
  have hq : (q = q' ∨ q' = w1.heap.size + 1) := by
    rcases hat with e | e
    · exact .inl (by simpa [Value.ownBlock] using e)
    · exact .inr e
  have hsz : w.heap.size ≤ wr.heap.size := h.below.size
  have hb1 : Below w.heap.size w w1 := h.below.trans (hf.bel hsz (by omega) h.hs.lg)
  have hlen : ((out ++ [psA rest 0]).map PSeg.s).length = out.length + 1 := by simp
  obtain ⟨g2, c2, e2, _, hP⟩ := PRow.of_owns (K := segK) (T := 56) (w := w2) (base := w.heap.size) (L := (out ++ [psA rest 0]).map PSeg.s) (v := .slice (some ⟨q', 0, none⟩) (out.length + 1) c') (by
    rw [hlen, List.map_append, icells_app, show icells segK ([psA rest 0].map PSeg.s) = icell segK (psA rest 0).s by simp [icells]]
    exact hown) (by simp)
  have e3 : q' = g2 ∧ c' = c2 := by simpa using e2
  obtain ⟨rfl, rfl⟩ := e3
  refine ⟨hs', off_next h.off (heap_first h.off.2.2.1) hp hh, hP, ?_, ?_, ?_, ?_⟩
  · rcases hq with e | e
    · rw [← e]; exact h.ne1
    · omega
  · rcases hq with e | e
    · rw [← e]; exact h.ne2
    · omega
  · rcases hq with e | e
    · rw [← e]; exact h.lo
    · have := hb1.size; omega
  · exact (hb1.alloc hb1.size o).trans (below_grown2 hg (by rw [World.size_alloc]; have := hb1.size; omega) (fun k e => by cases e; exact h.lo))
set_option maxRecDepth 100000 in
set_option maxHeartbeats 4000000 in
theorem implSorted (v : Value) (l : List Seg) (w : World) (h : IRow segK w v l) (hl : l.length ≤ 1048576) : Calls Tryz.prog 172 #[v] w fun e w' => ∃ o, e = .returned o ∧ SNew w w' o (sortS l) ∧ Below w.heap.size w w' := by
  obtain ⟨ad, ca, rfl, hca, hcm, HRow⟩ := h
  have HR := hideP HRow
  have hmk := make_seg0 l.length hl
  obtain ⟨i0, hi, he⟩ := Option.map_eq_some_iff.1 info_seg
  simp only [Prod.mk.injEq] at he
  obtain ⟨hz0, hz1, hz2⟩ := he
  unfold maxLen at hcm
  clear HRow
  have S0 : Hid (In1 w l 0 w.heap.size 0 [] ((w.alloc (.cells #[] 202)).alloc (.cells #[.slice (some ⟨w.heap.size, 0, none⟩) 0 0] 199))) := by
    refine ⟨⟨?_, ⟨#[], (Blk.new w _ _).alloc _, rfl, by simp, by unfold maxLen; omega, fun k hk => by simp at hk⟩, by omega, by omega, Nat.le_refl _⟩, fun k h0 hk => by simp at hk, by simp [tagS], ((Below.refl _ _).alloc (Nat.le_refl _) _).alloc (by rw [World.size_alloc]; omega) _⟩
    have := Blk.new (w.alloc (.cells #[] 202)) #[.slice (some ⟨w.heap.size, 0, none⟩) 0 0] 199
    rw [World.size_alloc] at this
    exact this
  go_enter Tryz.func172, Tryz.ntmps172
  go_wp2
  go_loopw [11] (fun i wr => ∃ (k g cap : Nat) (L : List PSeg), k ≤ l.length ∧ i = .int .i64 (k : Int) ∧ In1 w l k g cap L wr) (fun i _ => l.length - (intOf i).toNat)
  case atStart => exact ⟨0, _, _, [], Nat.zero_le _, rfl, S0.out⟩
  case round =>
    obtain ⟨k, g, cap, L, hk, rfl, hI⟩ := hrel
    have HI := hideP hI
    clear hI S0
    by_cases hlt : k < l.length
    · obtain ⟨gv, rfl, hgv, x⟩ := HR.out k hlt
      obtain ⟨c0, c1, c2, c3, c4⟩ := (x.below HI.out.below hgv).seg
      have hgl : gv < wr.heap.size := Nat.lt_of_lt_of_le hgv HI.out.below.size
      clear x
      have KP0 : ∀ W, Below wr.heap.size wr W → Calls Tryz.prog 207 #[.iface 197 (.pointer (some ⟨w.heap.size + 1, 0, none⟩)), .iface 202 (.agg #[.int .i64 (sgA l k).fr, .int .i64 (sgA l k).to, .int .i64 (sgA l k).cal, .int .i64 (sgA l k).sty, .int .i64 (sgA l k).off, .int .i64 (k : Int)])] W fun e w' => e = .returned (.tuple #[]) ∧ ∃ g' cap' L', In1 w l (k + 1) g' cap' L' w' := fun W hb =>
        (heapPush w.heap.size (w.heap.size + 1) g cap L ⟨sgA l k, (k : Int)⟩ W (HI.out.hs.next hb) (by rw [HI.out.len hk]; omega) HI.out.heap).mono fun e w' ⟨e1, g', cap', L', p, q, s, b⟩ => ⟨e1, g', cap', L', HI.out.next hlt p q s hb b⟩
      have KP := hideP KP0
      rw [show atK segK l k = sgA l k from rfl] at c0 c1 c2 c3 c4
      generalize sgA l k = r at *
      clear KP0
      go_wp2_with fail
      refine (KP.out _ ((Below.refl _ _).alloc (Nat.le_refl _) _)).mono ?_
      rintro e w1 ⟨rfl, g', cap', L', hI'⟩
      have HI' := hideP hI'
      clear hI' c0 c1 c2 c3 c4
      go_wp2_with fail
      exact ⟨⟨k + 1, g', cap', L', by omega, by go_num, HI'.out⟩, by simp [intOf]; omega⟩
    · obtain rfl : k = l.length := by omega
      have O0 : Hid (Off1 w l wr.heap.size l.length g cap [] L (wr.alloc (.cells (madeCells segzero (l.length * 5)) 56))) := by
        have hs := HI.out.hs.next (w' := wr.alloc (.cells (madeCells segzero (l.length * 5)) 56)) ((Below.refl _ _).alloc (Nat.le_refl _) _)
        refine ⟨hs, ⟨List.Pairwise.nil, fun x hx => by simp at hx, HI.out.heap, by have := HI.out.perm; rw [List.take_length] at this; simpa using this⟩, ⟨_, Blk.new _ _ _, by rw [size_madeCells]; rfl, Nat.zero_le _, by unfold maxLen; omega, fun k hk => by simp at hk⟩, ?_, ?_, HI.out.below.size, HI.out.below.alloc HI.out.below.size _⟩
        · have := HI.out.hs.box.lt; omega
        · have := HI.out.hs.row.lt; omega
      clear HI
      go_wp2
      go_loopw [6, 29] (fun o i wr => ∃ (k q c g cap : Nat) (out rest : List PSeg), k ≤ l.length ∧ i = .int .i64 (k : Int) ∧ out.length = k ∧ o = .slice (some ⟨q, 0, none⟩) k c ∧ Off1 w l q c g cap out rest wr) (fun _ i _ => l.length - (intOf i).toNat)
      case atStart => exact ⟨0, _, _, _, _, [], L, Nat.zero_le _, rfl, rfl, rfl, O0.out⟩
      case round =>
        obtain ⟨k, q, c, g, cap, out, rest, hk, rfl, ho, rfl, hO⟩ := hrel
        have HO := hideP hO
        have HLo := hideP ho
        clear hO O0 ho
        by_cases hlt : k < l.length
        · obtain ⟨m, hm⟩ : ∃ m, rest.length = m + 1 := ⟨rest.length - 1, by have := HO.out.len; have := HLo.out; omega⟩
          have hm' : m < 1048576 := by have := HO.out.len; omega
          have KT := hideP (takeFirst w.heap.size (w.heap.size + 1) g cap m rest wr HO.out.hs hm hm' HO.out.off.2.2.1)
          have HX : Hid (∀ rest' w1 w2 (o : Obj) q' c', (psA rest 0 :: rest').Perm rest → HeapOn rest' rest'.length → HS w.heap.size w1 (w.heap.size + 1) g cap rest' → Fr (w.heap.size + 1) g wr w1 → w2.ownsRow w.heap.size 56 5 (.slice (some ⟨q', 0, none⟩) (k + 1) c') (k + 1) (icells segK (out.map PSeg.s) ++ icell segK (psA rest 0).s) → (w1.alloc o).grownBy w2 (Value.slice (some ⟨q, 0, none⟩) k c).ownBlock → ((Value.slice (some ⟨q, 0, none⟩) k c).ownBlock = some q' ∨ q' = w1.heap.size + 1) → Off1 w l q' c' g cap (out ++ [psA rest 0]) rest' w2) := fun rest' w1 w2 o q' c' a1 a2 a3 a4 a5 a6 a7 => by
            rw [← HLo.out] at a5 a6 a7
            exact HO.out.next a1 a2 a3 a4 a5 a6 a7
          have HW : Hid (∀ w1, Fr (w.heap.size + 1) g wr w1 → ∀ o : Obj, (w1.alloc o).ownsRow w.heap.size 56 5 (.slice (some ⟨q, 0, none⟩) k c) k (icells segK (out.map PSeg.s))) := fun w1 hf o => by
            have := ((HO.out.row.fr hf HO.out.ne1 HO.out.ne2).owns (base := w.heap.size) (by decide) HO.out.lo).alloc o
            rw [List.length_map, HLo.out] at this
            exact this
          have hsz : Hid (w.heap.size ≤ wr.heap.size) := HO.out.below.size
          clear hm
          generalize psA rest 0 = x at *
          go_wp2_with fail
          refine KT.out.mono ?_
          rintro e w1 ⟨rfl, L', p, pq, S1, F1⟩
          have P1 := hideP p
          have P2 := hideP pq
          have P3 := hideP S1
          have P4 := hideP F1
          have hown := hideP (HW.out w1 F1 (.cells (icell segK x.s).toArray 56))
          have hnews := hideP (news_seg w1 x.s 56)
          have hbase : Hid (w.heap.size ≤ (w1.alloc (.cells (icell segK x.s).toArray 56)).heap.size) := by
            unfold Hid
            rw [World.size_alloc]
            have := hsz.out
            have := F1.size
            omega
          clear p pq S1 F1
          go_wp2_with (at_builtin; refine wpList_append_lies _ rfl _ _ 25 rfl w.heap.size 56 i0 (.agg #[.int .i64 0, .int .i64 0, .int .i64 0, .int .i64 0, .int .i64 0]) 5 40 Tryz.underlying25 hi hz0 hz1 hz2 rfl (by decide) _ k (icells segK (out.map PSeg.s)) rfl hown.out ⟨w1.heap.size, 0, none⟩ 1 1 (icell segK x.s) rfl rfl hnews.out (by simp [icell, Value.oneCell']) (by omega) (by unfold maxLen; omega) (by omega) hbase.out (w1.heap.size + 1) (by rw [World.size_alloc]) ?_; intro q' c' w2 hown2 hgrow hat hlt2; have O2 := hideP (HX.out L' w1 w2 _ q' c' P1.out P2.out P3.out P4.out hown2 hgrow hat); clear hown2 hgrow hat hlt2)
          exact ⟨⟨k + 1, q', c', g, cap, out ++ [x], L', by omega, by go_num, by rw [List.length_append, HLo.out]; rfl, rfl, O2.out⟩, by simp [intOf]; omega⟩
        · have HF : Hid (SNew w wr (.slice (some ⟨q, 0, none⟩) k c) (sortS l)) := by
            have hr : rest = [] := List.length_eq_zero_iff.1 (by have := HO.out.len; have := HLo.out; omega)
            have hp := HO.out.off.2.2.2
            rw [hr, List.append_nil] at hp
            have hs := sorted_same HO.out.off.1 hp
            refine ⟨q, c, ?_, HO.out.lo, by rw [← hs]; exact HO.out.row⟩
            rw [sortS_len, show k = l.length by omega]
          have HB := hideP HO.out.below
          go_wp2
          go_ret
          exact ⟨_, rfl, HF.out, HB.out⟩
end Go.Proofs.YtioiaefjkmgmdaaGreatDoor.ctr
