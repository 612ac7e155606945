/- Contracts of the program's checkTiles and Tiles. Contracts of the model's l09Full and Tiles. What a tied card's proof wants of the listed handle errors.errorType. What a tied card's proof wants of listed variables: two or three of them are so many data; the one row of the type that errors.New makes; the listed sentinel. A regime's plain check: which segments, which patches, which rules are right. Contracts of the code's segsOk, patchesOk, patchOk, ruleOk. Contracts of the model's l09Segs and l09Patches. Contracts of both RegimeOk: they answer one plain function. -/
import Derived.Test.YtkinapfoigibcaaGreatDoorTilImpl
import Derived.Test.YtkinapfoigibcaaGreatDoorAsHit
import Derived.Test.YtkinapfoigibcaaGreatDoorSrtSpec
import Derived.Test.YtkinapfoigibcaaGreatDoorTilPlain
import Derived.LaidLaws
import Derived.LaidHandle
import Derived.Test.YtkinapfoigibcaaGreatDoorVarsKit
import Derived.Test.YtkinapfoigibcaaGreatDoorRgnIs
import Derived.Stop.LaidErr
import Derived.Test.YtkinapfoigibcaaGreatDoorSegOk
import Derived.Test.YtkinapfoigibcaaGreatDoorRgmHelp
import Derived.Test.YtkinapfoigibcaaGreatDoorRgnOkS
namespace Go.Proofs.YtkinapfoigibcaaGreatDoor.ctr
open Go.RowKit

theorem ins_mem {l : List Seg} {s x : Seg} (h : x ∈ insS l s) : x ∈ l ∨ x = s := by
  unfold insS at h
  rcases List.mem_append.1 h with h | h
  · exact .inl (List.mem_of_mem_take h)
  · rcases List.mem_cons.1 h with h | h
    · exact .inr h
    · exact .inl (List.mem_of_mem_drop h)
theorem fold_mem : ∀ (l a : List Seg) {x : Seg}, x ∈ l.foldl insS a → x ∈ a ∨ x ∈ l
  | [], _, _, h => .inl h
  | s :: l, a, x, h => by
    rcases fold_mem l (insS a s) h with h | h
    · rcases ins_mem h with h | h
      · exact .inl h
      · exact .inr (h ▸ List.mem_cons_self)
    · exact .inr (List.mem_cons_of_mem _ h)
theorem full_mem {l : List Seg} {x : Seg} (h : x ∈ fullS l) : x ∈ l := by
  rcases fold_mem l [] (List.mem_filter.1 h).1 with h | h
  · simp at h
  · exact h
/-- What is wrong, as an error. -/
def errOf (c d : Int) : Value := if c = 0 then .nilIface else .iface 113 (.agg #[.int .i64 c, .int .i64 d])
theorem tilesZ_eq (f t : Int) (l : List Seg) : tilesZ f t l = if sharedB (fullS l) = true then 1 else if bareB f t (fullS l) = true then 2 else 0 := by
  unfold tilesZ tileC
  rw [bareB_same]
set_option maxRecDepth 100000 in
set_option maxHeartbeats 2000000 in
theorem implCheckT (f t : Int) (v : Value) (l : List Seg) (w : World) (h : IRow segK w v l) (hl : l.length ≤ 1048576) (ht : t ≤ 9223372036854775807) (hw : ∀ s ∈ l, -9223372036854775808 ≤ s.to) : Calls Tryz.prog 92 #[.int .i64 f, .int .i64 t, v] w fun e w' => ∃ d : Int, e = .returned (errOf (tilesZ f t l) d) ∧ Below w.heap.size w w' := by
  have KS := hideP (implSorted v l w h hl)
  have hfl := full_len l
  have hw' : ∀ s ∈ fullS l, -9223372036854775808 ≤ s.to := fun s hs => hw s (full_mem hs)
  have HF : Hid ((sortS l).filter hasDayB = fullS l) := rfl
  obtain ⟨Z, hZ⟩ : ∃ Z : Int, Z = tilesZ f t l := ⟨_, rfl⟩
  have HZ0 := hideP hZ
  rw [tilesZ_eq] at HZ0
  rw [← hZ]
  clear hZ
  obtain ⟨ad, ca, rfl, _⟩ := h
  have HZ := HZ0
  clear HZ0
  go_enter Tryz.func92, Tryz.ntmps92
  go_wp2_with fail
  refine KS.out.mono ?_
  rintro e w1 ⟨o, rfl, ⟨g, c, rfl, hg, hP⟩, hB⟩
  have KD := hideP (deleteDel g c (sortS l) w1 hP)
  have HB := hideP hB
  have Hg := hideP hg
  clear hP hB hg
  go_wp2_with fail
  refine KD.out.mono ?_
  rintro e w2 ⟨o, rfl, rfl, hP2, hG2⟩
  rw [HF.out] at hP2
  rw [HF.out]
  have HB2 : Hid (Below w.heap.size w w2) := HB.out.trans (below_grown2 hG2 HB.out.size (fun k e => by cases e; exact Hg.out))
  have KSh := hideP (implShared _ _ w2 hP2.row (by omega))
  have KBa : Hid (∀ W, Below w2.heap.size w2 W → Calls Tryz.prog 112 #[.int .i64 f, .int .i64 t, .slice (some ⟨g, 0, none⟩) (fullS l).length c] W fun e w' => ∃ d : Int, e = .returned (.tuple #[.int .i64 d, .bool (bareB f t (fullS l))]) ∧ Below W.heap.size W w') := fun W hb => implBare f t _ _ W (hP2.row.below hb) (by omega) ht hw'
  clear hP2 hG2 hw hw' HF
  generalize sharedB (fullS l) = sb at *
  generalize bareB f t (fullS l) = bb at *
  go_wp2_with fail
  refine KSh.out.mono ?_
  rintro e w3 ⟨d, rfl, hb⟩
  have HB3 : Hid (Below w.heap.size w w3) := HB2.out.trans (hb.mono HB2.out.size)
  have HB23 := hideP hb
  clear hb
  cases sb
  case true =>
    have HQ : Hid (Z = 1) := HZ.out
    clear HZ
    go_wp2_with fail
    go_ret
    exact ⟨d, (by rw [HQ.out]; rfl), HB3.out⟩
  go_wp2_with fail
  refine (KBa.out w3 HB23.out).mono ?_
  rintro e w4 ⟨d', rfl, hb⟩
  have HB4 : Hid (Below w.heap.size w w4) := HB3.out.trans (hb.mono HB3.out.size)
  clear hb
  cases bb
  · have HQ : Hid (Z = 0) := HZ.out
    clear HZ
    go_wp2_with fail
    go_ret
    exact ⟨0, (by rw [HQ.out]; rfl), HB4.out⟩
  · have HQ : Hid (Z = 2) := HZ.out
    clear HZ
    go_wp2_with fail
    go_ret
    exact ⟨d', (by rw [HQ.out]; rfl), HB4.out⟩
/-- The listed type that errors.As asks for. -/
def ErrT (w : World) : Prop := w.cell? ⟨1, 0, none⟩ = some (.iface 150 (.agg #[.pointer (some ⟨3, 89, none⟩)]))
theorem ErrT.below {w w' : World} (h : ErrT w) (hb : Below w.heap.size w w') : ErrT w' := Later.at h ⟨w', hb⟩
theorem tilesZ_cases (f t : Int) (l : List Seg) : tilesZ f t l = 0 ∨ tilesZ f t l = 1 ∨ tilesZ f t l = 2 := by
  unfold tilesZ tileC
  split
  · exact .inr (.inl rfl)
  · split
    · exact .inr (.inr rfl)
    · exact .inl rfl
set_option maxRecDepth 100000 in
set_option maxHeartbeats 2000000 in
theorem implTiles (f t : Int) (v : Value) (l : List Seg) (w : World) (h : IRow segK w v l) (hl : l.length ≤ 1048576) (ht : t ≤ 9223372036854775807) (hw : ∀ s ∈ l, -9223372036854775808 ≤ s.to) (hE : ErrT w) : Calls Tryz.prog 71 #[.int .i64 f, .int .i64 t, v] w fun e w' => e = .returned (.int .i64 (tilesZ f t l)) ∧ Below w.heap.size w w' := by
  obtain ⟨W0, hW0⟩ : ∃ W0, W0 = w.alloc (.cells #[.int .i64 0, .int .i64 0] 113) := ⟨_, rfl⟩
  have hb0 : Below w.heap.size w W0 := by rw [hW0]; exact (Below.refl _ _).alloc (Nat.le_refl _) _
  have hK0 : Blk W0 w.heap.size #[.int .i64 0, .int .i64 0] 113 := by rw [hW0]; exact Blk.new _ _ _
  have KC := hideP (implCheckT f t v l W0 (h.below hb0) hl ht hw)
  have hz := tilesZ_cases f t l
  have HE := hideP (hE.below hb0)
  have HB0 := hideP hb0
  have HK0 := hideP hK0
  have HW0 := hideP hW0
  obtain ⟨ad, ca, rfl, _⟩ := h
  generalize tilesZ f t l = z at *
  clear hb0 hK0 hW0 hE hw
  go_enter Tryz.func71, Tryz.ntmps71
  go_wp2_with fail
  rw [← HW0.out]
  refine KC.out.mono ?_
  rintro e w1 ⟨d, rfl, hb⟩
  have HB1 : Hid (Below w.heap.size w w1) := HB0.out.trans (hb.mono HB0.out.size)
  have HE1 := hideP (HE.out.below hb)
  have HK1 := hideP (HK0.out.below hb HK0.out.lt)
  clear hb
  by_cases h0 : z = 0
  · subst h0
    have KN := hideP (as_nil (.iface 116 (.pointer (some ⟨w.heap.size, 0, none⟩))) w1)
    rw [errOf, if_pos rfl]
    go_wp2_with fail
    refine KN.out.mono ?_
    rintro e w2 ⟨rfl, rfl⟩
    go_wp2_with fail
    go_ret
    exact ⟨rfl, HB1.out⟩
  · rw [errOf, if_neg h0]
    have KN := hideP (as_hit z d w.heap.size _ _ w1 HE1.out HK1.out)
    go_wp2_with fail
    refine KN.out.mono ?_
    rintro e w2 ⟨rfl, hw2⟩
    have HB2 : Hid (Below w.heap.size w w2) := by
      unfold Hid
      rw [hw2]
      have s1 := HB1.out.size
      exact below_store (below_store ((((HB1.out.alloc s1 _).alloc (by rw [World.size_alloc]; omega) _).alloc (by rw [World.size_alloc, World.size_alloc]; omega) _).alloc (by rw [World.size_alloc, World.size_alloc, World.size_alloc]; omega) _) _ (Nat.le_refl _)) _ (Nat.le_refl _)
    have c0 : w2.cell? ⟨w.heap.size, 0, none⟩ = some (.int .i64 z) := by
      rw [hw2]
      exact ((((((HK1.out.alloc _).alloc _).alloc _).alloc _).set 0 _).set 1 _).cell 0 rfl
    clear hw2
    go_wp2_with fail
    go_ret
    exact ⟨rfl, HB2.out⟩
end Go.Proofs.YtkinapfoigibcaaGreatDoor.ctr

namespace Go.Proofs.YtkinapfoigibcaaGreatDoor.ctr
open Go.RowKit

structure Ful1 (w : World) (L : List Seg) (k q c : Nat) (wr : World) : Prop where
  row : PRow segK 42 wr q c ((L.take k).filter hasDayB)
  lo : w.heap.size ≤ q
  below : Below w.heap.size w wr
theorem Ful1.len {w : World} {L : List Seg} {k q c : Nat} {wr : World} (_ : Ful1 w L k q c wr) : ((L.take k).filter hasDayB).length ≤ k := by
  have := List.length_filter_le hasDayB (L.take k)
  have h2 : (L.take k).length ≤ k := by simp; omega
  omega
theorem Ful1.skip {w : World} {L : List Seg} {k q c : Nat} {wr x : World} (h : Ful1 w L k q c wr) (hx : Below wr.heap.size wr x) (hk : k < L.length) (hd : hasDayB (sgA L k) = false) : Ful1 w L (k + 1) q c x ∧ (L.take (k + 1)).filter hasDayB = (L.take k).filter hasDayB := by
  have e := filter_snoc (p := hasDayB) hk
  rw [hd] at e
  simp only [Bool.false_eq_true, if_false, List.append_nil] at e
  exact ⟨⟨by rw [e]; exact h.row.below hx h.row.lt, h.lo, h.below.trans (hx.mono h.below.size)⟩, e⟩
theorem Ful1.take {w : World} {L : List Seg} {k q c q' c' : Nat} {wr x w2 : World} {o : Obj} (h : Ful1 w L k q c wr) (hx : Below wr.heap.size wr x) (hk : k < L.length) (hd : hasDayB (sgA L k) = true)
    (hown : w2.ownsRow w.heap.size 42 5 (.slice (some ⟨q', 0, none⟩) (((L.take k).filter hasDayB).length + 1) c') (((L.take k).filter hasDayB).length + 1) (icells segK ((L.take k).filter hasDayB) ++ icell segK (sgA L k))) (hgrow : (x.alloc o).grownBy w2 (some q)) (hat : q = q' ∨ q' = x.heap.size + 1) : Ful1 w L (k + 1) q' c' w2 ∧ ((L.take (k + 1)).filter hasDayB).length = ((L.take k).filter hasDayB).length + 1 := by
  have e := filter_snoc (p := hasDayB) hk
  rw [hd] at e
  simp only [if_true] at e
  have hb : Below w.heap.size w x := h.below.trans (hx.mono h.below.size)
  have hlen : ((L.take (k + 1)).filter hasDayB).length = ((L.take k).filter hasDayB).length + 1 := by rw [e]; simp
  obtain ⟨g2, c2, e2, _, hP⟩ := PRow.of_owns (K := segK) (T := 42) (w := w2) (base := w.heap.size) (L := (L.take (k + 1)).filter hasDayB) (v := .slice (some ⟨q', 0, none⟩) (((L.take k).filter hasDayB).length + 1) c') (by
    rw [hlen, e, icells_app, show icells segK [sgA L k] = icell segK (sgA L k) by simp [icells]]
    exact hown) (by rw [hlen]; omega)
  have e3 : q' = g2 ∧ c' = c2 := by
    have := e2
    rw [hlen] at this
    simpa using this
  obtain ⟨rfl, rfl⟩ := e3
  refine ⟨⟨hP, ?_, ?_⟩, hlen⟩
  · rcases hat with q | q
    · rw [← q]; exact h.lo
    · have := hb.size; omega
  · exact (hb.alloc hb.size o).trans (below_grown2 hgrow (by rw [World.size_alloc]; have := hb.size; omega) (fun k e => by cases e; exact h.lo))
set_option maxRecDepth 100000 in
set_option maxHeartbeats 4000000 in
theorem specFull (v : Value) (l : List Seg) (w : World) (h : IRow segK w v l) (hl : l.length ≤ 1048576) : Calls Tryz.prog 100 #[v] w fun e w' => ∃ o, e = .returned o ∧ SNew w w' o (fullS l) ∧ Below w.heap.size w w' := by
  obtain ⟨i0, hi, he⟩ := Option.map_eq_some_iff.1 info_seg
  simp only [Prod.mk.injEq] at he
  obtain ⟨hz0, hz1, hz2⟩ := he
  have hb0 : Below w.heap.size w (w.alloc (.cells #[] 42)) := (Below.refl _ _).alloc (Nat.le_refl _) _
  have KS := hideP (specSorted v l _ (h.below hb0) hl)
  have HB0 := hideP hb0
  obtain ⟨ad, ca, rfl, hca, hcm, _⟩ := h
  have hsl := sortS_len l
  have HF : Hid (fullS l = (sortS l).filter hasDayB) := rfl
  obtain ⟨N, hN⟩ : ∃ N, N = (sortS l).length := ⟨_, rfl⟩
  have hNl : N ≤ 1048576 := by omega
  have HNl := hideP hN
  clear hb0 hsl hN
  go_enter Tryz.func100, Tryz.ntmps100
  go_wp2_with fail
  refine KS.out.mono ?_
  rintro e w1 ⟨o, rfl, ⟨gs, cs, rfl, hgs, hP⟩, hB⟩
  have HP := hideP hP
  have HB := hideP hB
  have hcs : N ≤ cs := by obtain ⟨_, _, _, q, _⟩ := hP; rw [HNl.out]; exact q
  have hcsm : cs ≤ 2 ^ 63 - 1 := by obtain ⟨_, _, _, _, q, _⟩ := hP; exact q
  have hgs1 := hideP hP.lt
  have S0 : Hid (Ful1 w (sortS l) 0 w.heap.size 0 w1) := by
    refine ⟨⟨#[], ?_, rfl, by simp, by unfold maxLen; omega, fun k hk => by simp at hk⟩, Nat.le_refl _, HB0.out.trans (hB.mono HB0.out.size)⟩
    exact (Blk.new w _ _).below hB (by rw [World.size_alloc]; omega)
  have hne : gs ≠ w.heap.size := by rw [World.size_alloc] at hgs; omega
  rw [← HNl.out]
  have HRow : Hid (∀ k, k < N → IAt segK w1 gs k (sgA (sortS l) k)) := fun k hk => hP.at (by rw [← HNl.out]; exact hk)
  have HLo : Hid (w.heap.size + 1 ≤ gs) := by rw [World.size_alloc] at hgs; exact hgs
  clear hP hB hgs
  go_wp2
  go_loopw [3, 5] (fun o i wr => ∃ (k q c : Nat), k ≤ N ∧ i = .int .i64 (k : Int) ∧ o = .slice (some ⟨q, 0, none⟩) ((((sortS l).take k).filter hasDayB).length) c ∧ q ≠ gs ∧ Ful1 w (sortS l) k q c wr ∧ (∀ k, k < N → IAt segK wr gs k (sgA (sortS l) k)) ∧ gs < wr.heap.size) (fun _ i _ => N - (intOf i).toNat)
  case atStart => exact ⟨0, _, _, Nat.zero_le _, rfl, by simp, Ne.symm hne, S0.out, HRow.out, hgs1.out⟩
  case round =>
    obtain ⟨k, q, c, hk, rfl, rfl, hq, hF, hR, hgl⟩ := hrel
    have HF1 := hideP hF
    have HR1 := hideP hR
    clear hF hR S0
    by_cases hlt : k < N
    · have hkL : Hid (k < (sortS l).length) := by unfold Hid; rw [← HNl.out]; exact hlt
      have HC : Hid (∀ y : Later wr, IAt segK y.w gs k (sgA (sortS l) k)) := fun y => (HR1.out k hlt).below y.below hgl
      have e0 : ∀ y : Later wr, y.w.cell? ⟨gs, k * 5, none⟩ = some (.int .i64 (sgA (sortS l) k).fr) := fun y => (HC.out y).seg.1
      have e1 : ∀ y : Later wr, y.w.cell? ⟨gs, k * 5 + 1, none⟩ = some (.int .i64 (sgA (sortS l) k).to) := fun y => (HC.out y).seg.2.1
      have e2 : ∀ y : Later wr, y.w.cell? ⟨gs, k * 5 + 2, none⟩ = some (.int .i64 (sgA (sortS l) k).cal) := fun y => (HC.out y).seg.2.2.1
      have e3 : ∀ y : Later wr, y.w.cell? ⟨gs, k * 5 + 3, none⟩ = some (.int .i64 (sgA (sortS l) k).sty) := fun y => (HC.out y).seg.2.2.2.1
      have e4 : ∀ y : Later wr, y.w.cell? ⟨gs, k * 5 + 4, none⟩ = some (.int .i64 (sgA (sortS l) k).off) := fun y => (HC.out y).seg.2.2.2.2
      have hm := HF1.out.len
      have HT : Hid (∀ (x : Later wr) w2 (o : Obj) q' c', hasDayB (sgA (sortS l) k) = true → w2.ownsRow w.heap.size 42 5 (.slice (some ⟨q', 0, none⟩) ((((sortS l).take k).filter hasDayB).length + 1) c') ((((sortS l).take k).filter hasDayB).length + 1) (icells segK (((sortS l).take k).filter hasDayB) ++ icell segK (sgA (sortS l) k)) → (x.w.alloc o).grownBy w2 (some q) → (q = q' ∨ q' = x.w.heap.size + 1) → (Ful1 w (sortS l) (k + 1) q' c' w2 ∧ (((sortS l).take (k + 1)).filter hasDayB).length = (((sortS l).take k).filter hasDayB).length + 1) ∧ (∀ k, k < N → IAt segK w2 gs k (sgA (sortS l) k)) ∧ gs < w2.heap.size ∧ q' ≠ gs) := fun x w2 o q' c' hd h1 h2 h3 => by
        refine ⟨HF1.out.take x.below hkL.out hd h1 h2 h3, fun k' hk' j z hz => ?_, ?_, ?_⟩
        · have h4 := ((HR1.out k' hk').below x.below hgl) j z hz
          have hgx : gs < x.w.heap.size := Nat.lt_of_lt_of_le hgl x.below.size
          refine h2.cell (a := ⟨gs, k' * segK.m + j, none⟩) ?_ (fun e => hq (by simpa using e.symm))
          exact Later.at h4 ⟨x.w.alloc o, (Below.refl _ _).alloc (Nat.le_refl _) _⟩
        · have := h2.size; rw [World.size_alloc] at this; have := x.below.size; omega
        · rcases h3 with h3 | h3
          · rw [← h3]; exact hq
          · have := x.below.size; omega
      have HSk : Hid (∀ x : Later wr, hasDayB (sgA (sortS l) k) = false → (Ful1 w (sortS l) (k + 1) q c x.w ∧ ((sortS l).take (k + 1)).filter hasDayB = ((sortS l).take k).filter hasDayB) ∧ (∀ k, k < N → IAt segK x.w gs k (sgA (sortS l) k)) ∧ gs < x.w.heap.size) := fun x hd => ⟨HF1.out.skip x.below hkL.out hd, fun k' hk' => (HR1.out k' hk').below x.below hgl, Nat.lt_of_lt_of_le hgl x.below.size⟩
      have HOw : Hid (∀ (x : Later wr) (o : Obj), (x.w.alloc o).ownsRow w.heap.size 42 5 (.slice (some ⟨q, 0, none⟩) ((((sortS l).take k).filter hasDayB).length) c) ((((sortS l).take k).filter hasDayB).length) (icells segK (((sortS l).take k).filter hasDayB))) := fun x o => ((HF1.out.row.below x.below HF1.out.row.lt).owns (by decide) HF1.out.lo).alloc o
      have hsz : Hid (w.heap.size ≤ wr.heap.size) := HF1.out.below.size
      obtain ⟨m, hmE⟩ : ∃ m, m = (((sortS l).take k).filter hasDayB).length := ⟨_, rfl⟩
      rw [← hmE] at HT hm HOw ⊢
      have HmE := hideP hmE
      clear hmE HC
      obtain ⟨s, hs⟩ : ∃ s, s = sgA (sortS l) k := ⟨_, rfl⟩
      rw [← hs] at e0 e1 e2 e3 e4 HT HSk
      have Hs := hideP hs
      clear hs
      by_cases hd : s.fr ≤ s.to
      · have hd' : decide (s.fr ≤ s.to) = true := decide_eq_true hd
        go_wp2_with fail
        refine wp_region_later (W := wr) (Below.refl _ _) (by kernel_rfl) (by kernel_rfl) ?_
        repeat (go_big_quiet_step (fail))
        refine wpQuiet_nil ?_
        intro _ hw'
        obtain ⟨x, rfl⟩ := hw'
        have hown := hideP (HOw.out x (.cells (icell segK s).toArray 42))
        have hnews := hideP (news_seg x.w s 42)
        have hbase : Hid (w.heap.size ≤ (x.w.alloc (.cells (icell segK s).toArray 42)).heap.size) := by
          unfold Hid
          rw [World.size_alloc]
          have := hsz.out
          have := x.below.size
          omega
        go_wp2_with (at_builtin; refine wpList_append_lies _ rfl _ _ 24 rfl w.heap.size 42 i0 (.agg #[.int .i64 0, .int .i64 0, .int .i64 0, .int .i64 0, .int .i64 0]) 5 40 Tryz.underlying24 hi hz0 hz1 hz2 rfl (by decide) _ m _ rfl hown.out ⟨x.w.heap.size, 0, none⟩ 1 1 (icell segK s) rfl rfl hnews.out (by simp [icell, Value.oneCell']) (by omega) (by unfold maxLen; omega) (by omega) hbase.out (x.w.heap.size + 1) (by rw [World.size_alloc]) ?_; intro q' c' w2 hown2 hgrow hat hlt2; have hown3 := hideP hown2; have hgrow3 := hideP hgrow; have hat3 := hideP hat; clear hown2 hgrow hat hlt2)
        have hat4 : q = q' ∨ q' = x.w.heap.size + 1 := by
          rcases hat3.out with e | e
          · exact .inl (Option.some.inj e)
          · exact .inr e
        have O2 := hideP (HT.out x w2 _ q' c' (decide_eq_true hd) hown3.out hgrow3.out hat4)
        exact ⟨⟨k + 1, q', c', by omega, by go_num, by rw [O2.out.1.2], O2.out.2.2.2, O2.out.1.1, O2.out.2.1, O2.out.2.2.1⟩, by simp [intOf]; omega⟩
      · have hd' : decide (s.fr ≤ s.to) = false := decide_eq_false hd
        go_wp2_with fail
        refine wp_region_later (W := wr) (Below.refl _ _) (by kernel_rfl) (by kernel_rfl) ?_
        repeat (go_big_quiet_step (fail))
        refine wpQuiet_nil ?_
        intro _ hw'
        obtain ⟨x, rfl⟩ := hw'
        have O2 := hideP (HSk.out x hd')
        go_wp2_with fail
        exact ⟨⟨k + 1, q, c, by omega, by go_num, by rw [O2.out.1.2, HmE.out], hq, O2.out.1.1, O2.out.2.1, O2.out.2.2⟩, by simp [intOf]; omega⟩
    · have HE : Hid (SNew w wr (.slice (some ⟨q, 0, none⟩) ((((sortS l).take k).filter hasDayB).length) c) (fullS l)) := by
        have hkl : (sortS l).take k = sortS l := List.take_of_length_le (by rw [← HNl.out]; omega)
        have hr := HF1.out.row
        rw [hkl] at hr ⊢
        exact ⟨q, c, rfl, HF1.out.lo, hr⟩
      have HB2 := hideP HF1.out.below
      go_wp2
      go_ret
      exact ⟨_, rfl, HE.out, HB2.out⟩
theorem tile_one {f t : Int} {L : List Seg} (h : sharedP L) : tileC f t L = 1 := by unfold tileC; rw [if_pos (shared_yes h)]
theorem tile_two {f t : Int} {L : List Seg} (h : ¬ sharedP L) (hb : bareS t L f = true) : tileC f t L = 2 := by unfold tileC; rw [shared_no h, if_neg (by simp), if_pos hb]
theorem tile_no {f t : Int} {L : List Seg} (h : ¬ sharedP L) (hb : bareS t L f = false) : tileC f t L = 0 := by unfold tileC; rw [shared_no h, if_neg (by simp), hb, if_neg (by simp)]
set_option maxRecDepth 100000 in
set_option maxHeartbeats 4000000 in
theorem specTiles (f t : Int) (v : Value) (l : List Seg) (w : World) (h : IRow segK w v l) (hl : l.length ≤ 1048576) (hf : -9223372036854775808 ≤ f) (ht : t ≤ 9223372036854775807) : Calls Tryz.prog 76 #[.int .i64 f, .int .i64 t, v] w fun e w' => e = .returned (.int .i64 (tilesZ f t l)) ∧ Below w.heap.size w w' := by
  have KF := hideP (specFull v l w h hl)
  have hfl := full_len l
  unfold tilesZ
  obtain ⟨ad, ca, rfl, _⟩ := h
  generalize fullS l = L at *
  obtain ⟨R, hR⟩ : ∃ R, R = tileC f t L := ⟨_, rfl⟩
  have HR := hideP hR
  rw [← hR]
  obtain ⟨N, hN⟩ : ∃ N, N = L.length := ⟨_, rfl⟩
  have HN := hideP hN
  have hNl : N ≤ 1048576 := by omega
  clear hR hN hfl
  go_enter Tryz.func76, Tryz.ntmps76
  go_wp2_with fail
  refine KF.out.mono ?_
  rintro e w1 ⟨o, rfl, ⟨g, c, rfl, hg, hP⟩, hB⟩
  have HP := hideP hP
  have HB := hideP hB
  have HC : Hid (∀ (y : Later w1) k, k < N → y.w.cell? ⟨g, k * 5, none⟩ = some (.int .i64 (sgA L k).fr) ∧ y.w.cell? ⟨g, k * 5 + 1, none⟩ = some (.int .i64 (sgA L k).to)) := fun y k hk => by
    have := ((hP.at (k := k) (by rw [← HN.out]; exact hk)).below y.below hP.lt).seg
    exact ⟨this.1, this.2.1⟩
  have hcs : N ≤ c := by obtain ⟨_, _, _, q, _⟩ := hP; rw [HN.out]; exact q
  have hcsm : c ≤ 2 ^ 63 - 1 := by obtain ⟨_, _, _, _, q, _⟩ := hP; exact q
  rw [← HN.out]
  clear hP hB hg
  go_wp2
  go_loopw [8] (fun i wr => ∃ k : Nat, i = .int .i64 ((k : Int) + 1) ∧ k ≤ N ∧ Hid (NoSh L N k) ∧ ∃ y : Later w1, wr = y.w) (fun i _ => N + 1 - (intOf i).toNat)
  case atStart => exact ⟨0, rfl, Nat.zero_le _, fun j h1 h2 => by omega, ⟨w1, Below.refl _ _⟩, rfl⟩
  case round =>
    obtain ⟨k, rfl, hk, HJ, y, rfl⟩ := hrel
    by_cases hlt : k + 1 < N
    · have hlt' : (k : Int) + 1 < (N : Int) := by omega
      have e1 : (k : Int) + 1 - 1 = (k : Int) := by omega
      have a0 : ∀ y : Later w1, y.w.cell? ⟨g, (k + 1) * 5, none⟩ = some (.int .i64 (sgA L (k + 1)).fr) := fun y => (HC.out y (k + 1) hlt).1
      have a1 : ∀ y : Later w1, y.w.cell? ⟨g, k * 5 + 1, none⟩ = some (.int .i64 (sgA L k).to) := fun y => (HC.out y k (by omega)).2
      have HY : Hid ((sgA L (k + 1)).fr ≤ (sgA L k).to → R = 1) := fun q => by rw [HR.out]; exact tile_one ⟨k + 1, by omega, by rw [← HN.out]; exact hlt, q⟩
      have HX : Hid (¬ (sgA L (k + 1)).fr ≤ (sgA L k).to → NoSh L N (k + 1)) := fun q j h1 h2 h3 => by
        by_cases e : j = k + 1
        · subst e; exact q
        · exact HJ.out j h1 (by omega) h3
      clear HJ
      generalize (sgA L (k + 1)).fr = p at *
      generalize (sgA L k).to = q at *
      by_cases hpq : p ≤ q
      · have hd : decide (p ≤ q) = true := decide_eq_true hpq
        have HE := hideP (HY.out hpq)
        go_wp2_with fail
        refine wp_region_later (W := w1) y.below (by kernel_rfl) (by kernel_rfl) ?_
        repeat (go_big_quiet_step (fail))
        refine wpQuiet_nil ?_
        intro _ hw'
        obtain ⟨x, rfl⟩ := hw'
        go_wp2_with fail
        go_ret
        exact ⟨ret_int HE.out.symm, HB.out.trans (x.below.mono HB.out.size)⟩
      · have hd : decide (p ≤ q) = false := decide_eq_false hpq
        have HE := hideP (HX.out hpq)
        go_wp2_with fail
        refine wp_region_later (W := w1) y.below (by kernel_rfl) (by kernel_rfl) ?_
        repeat (go_big_quiet_step (fail))
        refine wpQuiet_nil ?_
        intro _ hw'
        obtain ⟨x, rfl⟩ := hw'
        go_wp2
        exact ⟨⟨k + 1, by go_num, by omega, HE.out, x, rfl⟩, by simp [intOf]; omega⟩
    · have hlt' : ¬ ((k : Int) + 1 < (N : Int)) := by omega
      have HS : Hid (¬ sharedP L) := fun ⟨i, h1, h2, h3⟩ => HJ.out i h1 (by rw [← HN.out] at h2; omega) (by rw [HN.out]; exact h2) h3
      clear HJ
      go_wp2
      go_loopw [9, 10] (fun n i wr => ∃ (k : Nat) (z : Int), k ≤ N ∧ i = .int .i64 (k : Int) ∧ n = .int .i64 z ∧ -9223372036854775808 ≤ z ∧ Hid (bareS t (L.drop k) z = bareS t L f) ∧ ∃ y : Later w1, wr = y.w) (fun _ i _ => N - (intOf i).toNat)
      case atStart => exact ⟨0, f, Nat.zero_le _, rfl, rfl, hf, by simp [Hid], y, rfl⟩
      case round =>
        obtain ⟨k, z, hk, rfl, rfl, hz, HF, y, rfl⟩ := hrel
        by_cases hkN : k < N
        case neg =>
          have hkN' : ¬ ((k : Int) < (N : Int)) := by omega
          have HE := hideP (bareS_end (to := t) (n := z) (L := L) (k := k) (by rw [← HN.out]; omega))
          by_cases hzt : z ≤ t
          · have HQ : Hid (R = 2) := by unfold Hid; rw [HR.out]; exact tile_two HS.out (by rw [← HF.out, HE.out]; exact decide_eq_true hzt)
            have hd : decide (z ≤ t) = true := decide_eq_true hzt
            go_wp2
            go_ret
            exact ⟨ret_int HQ.out.symm, HB.out.trans (y.below.mono HB.out.size)⟩
          · have HQ : Hid (R = 0) := by unfold Hid; rw [HR.out]; exact tile_no HS.out (by rw [← HF.out, HE.out]; exact decide_eq_false hzt)
            have hd : decide (z ≤ t) = false := decide_eq_false hzt
            go_wp2
            go_ret
            exact ⟨ret_int HQ.out.symm, HB.out.trans (y.below.mono HB.out.size)⟩
        have hkN' : (k : Int) < (N : Int) := by omega
        have HA := hideP (bareS_at (to := t) (n := z) (L := L) (k := k) (by rw [← HN.out]; exact hkN))
        have a0 : y.w.cell? ⟨g, k * 5, none⟩ = some (.int .i64 (sgA L k).fr) := (HC.out y k hkN).1
        have a1 : y.w.cell? ⟨g, k * 5 + 1, none⟩ = some (.int .i64 (sgA L k).to) := (HC.out y k hkN).2
        generalize sgA L k = s at *
        by_cases hzt : z ≤ t
        case neg =>
          have HQ : Hid (R = 0) := by unfold Hid; rw [HR.out]; exact tile_no HS.out (by rw [← HF.out, HA.out, if_neg hzt])
          have hd : decide (z ≤ t) = false := decide_eq_false hzt
          go_wp2
          go_ret
          exact ⟨ret_int HQ.out.symm, HB.out.trans (y.below.mono HB.out.size)⟩
        have hd : decide (z ≤ t) = true := decide_eq_true hzt
        by_cases h1 : s.to < z
        · have HQ : Hid (bareS t (L.drop (k + 1)) z = bareS t L f) := by unfold Hid; rw [← HF.out, HA.out, if_pos hzt, if_pos h1]
          have hd1 : decide (s.to < z) = true := decide_eq_true h1
          go_wp2
          exact ⟨⟨k + 1, z, by omega, by go_num, rfl, hz, HQ.out, y, rfl⟩, by simp [intOf]; omega⟩
        have hd1 : decide (s.to < z) = false := decide_eq_false h1
        by_cases h2 : z < s.fr
        · have HQ : Hid (R = 2) := by unfold Hid; rw [HR.out]; exact tile_two HS.out (by rw [← HF.out, HA.out, if_pos hzt, if_neg h1, if_pos h2])
          have hd2 : decide (z < s.fr) = true := decide_eq_true h2
          go_wp2
          go_ret
          exact ⟨ret_int HQ.out.symm, HB.out.trans (y.below.mono HB.out.size)⟩
        have hd2 : decide (z < s.fr) = false := decide_eq_false h2
        by_cases h3 : t ≤ s.to
        · have HQ : Hid (R = 0) := by unfold Hid; rw [HR.out]; exact tile_no HS.out (by rw [← HF.out, HA.out, if_pos hzt, if_neg h1, if_neg h2, if_pos h3])
          have hd3 : decide (t ≤ s.to) = true := decide_eq_true h3
          go_wp2
          go_ret
          exact ⟨ret_int HQ.out.symm, HB.out.trans (y.below.mono HB.out.size)⟩
        · have HQ : Hid (bareS t (L.drop (k + 1)) (s.to + 1) = bareS t L f) := by unfold Hid; rw [← HF.out, HA.out, if_pos hzt, if_neg h1, if_neg h2, if_neg h3]
          have hd3 : decide (t ≤ s.to) = false := decide_eq_false h3
          go_wp2
          exact ⟨⟨k + 1, s.to + 1, by omega, by go_num, by go_num, by omega, HQ.out, y, rfl⟩, by simp [intOf]; omega⟩
end Go.Proofs.YtkinapfoigibcaaGreatDoor.ctr

namespace Go.Proofs.YtkinapfoigibcaaGreatDoor.kit
open Go.RowKit

theorem a_et : Tryz.prog.globalNamed "errors.errorType" = some 1 := by kernel_rfl
theorem a_rt : (Tryz.prog.cutTypes.find? (·.1 == "internal/reflectlite.rtype")).map (·.2) = some 150 := by kernel_rfl
theorem a_row : ((List.range 222).filter fun t => Tryz.prog.rowNamed t [101, 114, 114, 111, 114]) = [89] := by kernel_rfl
theorem a_size : Tryz.prog.types.size = 222 := by kernel_rfl
theorem err_of {W : World} (h : handlesMet Tryz.prog [("errors.errorType", .iface "internal/reflectlite.rtype" (.agg [.ptr (.lit (.string [101, 114, 114, 111, 114]))]))] W) : ctr.ErrT W := by
  obtain ⟨name, u, ty, e1, e2, e3, e4, e5⟩ := h _ (List.mem_singleton.2 rfl)
  have en : name = [101, 114, 114, 111, 114] := (Option.some.inj e1).symm
  subst en
  obtain rfl := Option.some.inj (a_rt.symm.trans e2)
  have hm : ty ∈ (List.range 222).filter fun t => Tryz.prog.rowNamed t [101, 114, 114, 111, 114] := List.mem_filter.2 ⟨List.mem_range.2 (by rw [← a_size]; exact e3), e4⟩
  rw [a_row] at hm
  obtain rfl := List.mem_singleton.1 hm
  have hh : typeHandle Tryz.prog 89 = .pointer (some ⟨3, 89, none⟩) := by kernel_rfl
  rw [hh] at e5
  unfold ctr.ErrT
  simpa using World.var?_cell a_et e5 0
end Go.Proofs.YtkinapfoigibcaaGreatDoor.kit

namespace Go.Proofs.YtkinapfoigibcaaGreatDoor.kit
open Go.RowKit

theorem gs_two {H : Type} {enc : TypeId × Value → H} {P : Program} {W : World} {sp : Nat → Bool} {a b : String} {gs : List (DataW H)} {q : List MemPlace} (h : DataW.TrodVars enc P W sp [a, b] gs q) : ∃ g1 g2, gs = [g1, g2] := by
  match gs, h with
  | [], h => exact h.elim
  | [g1], h =>
    obtain ⟨_, _, _, _, _, _, _, _, _, _, h5, _⟩ := h
    exact h5.elim
  | [g1, g2], _ => exact ⟨g1, g2, rfl⟩
  | g1 :: g2 :: g3 :: r, h =>
    obtain ⟨_, _, _, _, _, _, _, _, _, _, h5, _⟩ := h
    obtain ⟨_, _, _, _, _, _, _, _, _, _, h6, _⟩ := h5
    exact h6.elim
theorem gs_three {H : Type} {enc : TypeId × Value → H} {P : Program} {W : World} {sp : Nat → Bool} {a b c : String} {gs : List (DataW H)} {q : List MemPlace} (h : DataW.TrodVars enc P W sp [a, b, c] gs q) : ∃ g1 g2 g3, gs = [g1, g2, g3] := by
  match gs, h with
  | [], h => exact h.elim
  | g :: r, h =>
    obtain ⟨_, _, _, _, _, _, _, _, _, _, h5, _⟩ := h
    obtain ⟨g2, g3, rfl⟩ := gs_two h5
    exact ⟨g, g2, g3, rfl⟩
theorem star : "*" ++ "errors.errorString" = "*errors.errorString" := by decide
theorem rowErr (u : TypeId) (h : Tryz.prog.typeName? 3 u = some "*errors.errorString") : u = 187 :=
  typeName_ptr_named (nm := "errors.errorString") (by rw [star]; kernel_rfl) (by kernel_rfl) (by decide) u (by rw [star]; exact h)
theorem cellsErr : Tryz.prog.cellsOf 210 = 1 := by kernel_rfl
theorem cellsStr : Tryz.prog.cellsOf 9 = 1 := by kernel_rfl
theorem gErr : Tryz.prog.globalNamed "loop.example/g00638/impl.errNoTable" = some 0 := by kernel_rfl
theorem gErrType : (Tryz.prog.globals[0]?).map (·.type) = some 89 := by kernel_rfl
theorem sent_of {text : List UInt8} {r : List (String × DataW Unit)} {W : World} (h : laidMet Tryz.prog (("loop.example/g00638/impl.errNoTable", .iface "*errors.errorString" (.ptr (.agg [.lit (.string text)]))) :: r) W) : ∃ a, ctr.Sent W a := by
  obtain ⟨a, s, hv, _⟩ := laid_sentinel h gErr gErrType Tryz.underlying89 rowErr Tryz.underlying187 Tryz.underlying210 rfl rfl Tryz.underlying9 cellsErr cellsStr
  exact ⟨a, by unfold ctr.Sent; simpa using World.var?_cell gErr hv 0⟩
end Go.Proofs.YtkinapfoigibcaaGreatDoor.kit

namespace Go.Proofs.YtkinapfoigibcaaGreatDoor.ctr
open Go.RowKit

def allTo (p : Nat → Bool) (k : Nat) : Bool := (List.range k).all p
theorem allTo_next {p : Nat → Bool} {k : Nat} (h : allTo p k = true) (hk : p k = true) : allTo p (k + 1) = true := by
  unfold allTo at *
  rw [List.range_succ, List.all_append, h]
  simp [hk]
theorem allTo_bad {p : Nat → Bool} {k n : Nat} (hk : p k = false) (h : k < n) : allTo p n = false := by
  unfold allTo
  rw [List.all_eq_false]
  exact ⟨k, List.mem_range.2 h, by rw [hk]; simp⟩
theorem allTo_at {p : Nat → Bool} {k n : Nat} (h : allTo p n = true) (hk : k < n) : p k = true := by
  unfold allTo at h
  exact List.all_eq_true.1 h k (List.mem_range.2 hk)

def segFit (f t : Int) (l : List Seg) (k : Nat) : Bool := segOkB (atK segK l k) && (decide (f ≤ (atK segK l k).fr) && (decide ((atK segK l k).to ≤ t) && (decide (k = 0) || decide ((atK segK l (k - 1)).fr < (atK segK l k).fr))))
noncomputable def segsB (f t : Int) (l : List Seg) : Bool := inB l.length 1 20 && (allTo (segFit f t l) l.length && decide (tilesZ f t l = 0))
theorem segs_short {f t : Int} {l : List Seg} (h : inB l.length 1 20 = false) : segsB f t l = false := by unfold segsB; rw [h, Bool.false_and]
theorem segs_bad {f t : Int} {l : List Seg} {k : Nat} (h : segFit f t l k = false) (hk : k < l.length) : segsB f t l = false := by unfold segsB; rw [allTo_bad h hk, Bool.false_and, Bool.and_false]
theorem segs_end {f t : Int} {l : List Seg} (h : inB l.length 1 20 = true) (ha : allTo (segFit f t l) l.length = true) : segsB f t l = decide (tilesZ f t l = 0) := by unfold segsB; rw [h, ha, Bool.true_and, Bool.true_and]
theorem segFit_ok {f t : Int} {l : List Seg} {k : Nat} (h : segFit f t l k = true) : segOkB (atK segK l k) = true ∧ f ≤ (atK segK l k).fr ∧ (atK segK l k).to ≤ t := by
  unfold segFit at h
  simp only [Bool.and_eq_true, decide_eq_true_eq] at h
  exact ⟨h.1, h.2.1, h.2.2.1⟩
theorem segOk_days {s : Seg} (h : segOkB s = true) : s.fr ≤ s.to ∧ 400 ≤ s.to := by
  unfold segOkB at h
  simp only [Bool.and_eq_true, decide_eq_true_eq] at h
  refine ⟨h.2.2.1, ?_⟩
  by_cases hs : 400 ≤ s.to
  · exact hs
  · have := h.2.1; unfold dayB at this; rw [inB_false (.inl (by omega))] at this; cases this
theorem segs_days {f t : Int} {l : List Seg} (ha : allTo (segFit f t l) l.length = true) : ∀ s ∈ l, -9223372036854775808 ≤ s.to := by
  intro s hs
  obtain ⟨i, hi, rfl⟩ := List.mem_iff_getElem.1 hs
  have h := (segOk_days (segFit_ok (allTo_at ha hi)).1).2
  rw [atK_eq hi] at h
  omega
theorem segs_order {f t : Int} {l : List Seg} (h : ¬ f ≤ t) : segsB f t l = false := by
  cases hb : inB l.length 1 20
  · exact segs_short hb
  have hl : 0 < l.length := by
    by_cases hl : 0 < l.length
    · exact hl
    · rw [inB_false (.inl (by omega))] at hb; cases hb
  cases hs : segFit f t l 0
  · exact segs_bad hs hl
  · have := segFit_ok hs; have := segOk_days this.1; omega
theorem segFit_zero {f t : Int} {l : List Seg} : segFit f t l 0 = (segOkB (atK segK l 0) && (decide (f ≤ (atK segK l 0).fr) && (decide ((atK segK l 0).to ≤ t) && true))) := rfl
theorem segFit_succ {f t : Int} {l : List Seg} {j : Nat} : segFit f t l (j + 1) = (segOkB (atK segK l (j + 1)) && (decide (f ≤ (atK segK l (j + 1)).fr) && (decide ((atK segK l (j + 1)).to ≤ t) && decide ((atK segK l j).fr < (atK segK l (j + 1)).fr)))) := by
  unfold segFit
  rw [decide_eq_false (p := j + 1 = 0) (by omega), Bool.false_or]
  rfl

def patB (p : Pat) : Bool := inB p.mon 1 12 && inB p.dom 1 31
def patFit (f t : Int) (l : List Pat) (k : Nat) : Bool := patB (atK patK l k) && (inB (atK patK l k).day f t && (decide (k = 0) || decide ((atK patK l (k - 1)).day < (atK patK l k).day)))
def patsB (f t : Int) (l : List Pat) : Bool := decide ((l.length : Int) ≤ 8) && allTo (patFit f t l) l.length
theorem pats_bad {f t : Int} {l : List Pat} {k : Nat} (h : patFit f t l k = false) (hk : k < l.length) : patsB f t l = false := by unfold patsB; rw [allTo_bad h hk, Bool.and_false]
theorem pats_end {f t : Int} {l : List Pat} (ha : allTo (patFit f t l) l.length = true) : patsB f t l = decide ((l.length : Int) ≤ 8) := by unfold patsB; rw [ha, Bool.and_true]
theorem patFit_zero {f t : Int} {l : List Pat} : patFit f t l 0 = (patB (atK patK l 0) && (inB (atK patK l 0).day f t && true)) := rfl
theorem patFit_succ {f t : Int} {l : List Pat} {j : Nat} : patFit f t l (j + 1) = (patB (atK patK l (j + 1)) && (inB (atK patK l (j + 1)).day f t && decide ((atK patK l j).day < (atK patK l (j + 1)).day))) := by
  unfold patFit
  rw [decide_eq_false (p := j + 1 = 0) (by omega), Bool.false_or]
  rfl
theorem fit_no1 {f t : Int} {l : List Seg} {k : Nat} (h : segOkB (atK segK l k) = false) : segFit f t l k = false := by unfold segFit; rw [h, Bool.false_and]
theorem fit_no2 {f t : Int} {l : List Seg} {k : Nat} (h : (atK segK l k).fr < f) : segFit f t l k = false := by unfold segFit; rw [decide_eq_false (by omega : ¬ f ≤ (atK segK l k).fr), Bool.false_and, Bool.and_false]
theorem fit_no3 {f t : Int} {l : List Seg} {k : Nat} (h : t < (atK segK l k).to) : segFit f t l k = false := by unfold segFit; rw [decide_eq_false (by omega : ¬ (atK segK l k).to ≤ t), Bool.false_and, Bool.and_false, Bool.and_false]
theorem fit_no4 {f t : Int} {l : List Seg} {k j : Nat} (e : k = j + 1) (h : (atK segK l k).fr ≤ (atK segK l j).fr) : segFit f t l k = false := by subst e; rw [segFit_succ, decide_eq_false (by omega : ¬ (atK segK l j).fr < (atK segK l (j + 1)).fr), Bool.and_false, Bool.and_false, Bool.and_false]
theorem fit_yes {f t : Int} {l : List Seg} {k : Nat} (h1 : segOkB (atK segK l k) = true) (h2 : f ≤ (atK segK l k).fr) (h3 : (atK segK l k).to ≤ t) (h4 : ∀ j, k = j + 1 → (atK segK l j).fr < (atK segK l k).fr) : segFit f t l k = true := by
  cases k with
  | zero => rw [segFit_zero, h1, decide_eq_true h2, decide_eq_true h3]; rfl
  | succ j => rw [segFit_succ, h1, decide_eq_true h2, decide_eq_true h3, decide_eq_true (h4 j rfl)]; rfl
theorem pfit_no1 {f t : Int} {l : List Pat} {k : Nat} (h : patB (atK patK l k) = false) : patFit f t l k = false := by unfold patFit; rw [h, Bool.false_and]
theorem pfit_no2 {f t : Int} {l : List Pat} {k : Nat} (h : inB (atK patK l k).day f t = false) : patFit f t l k = false := by unfold patFit; rw [h, Bool.false_and, Bool.and_false]
theorem pfit_no4 {f t : Int} {l : List Pat} {k j : Nat} (e : k = j + 1) (h : (atK patK l k).day ≤ (atK patK l j).day) : patFit f t l k = false := by subst e; rw [patFit_succ, decide_eq_false (by omega : ¬ (atK patK l j).day < (atK patK l (j + 1)).day), Bool.and_false, Bool.and_false]
theorem pfit_yes {f t : Int} {l : List Pat} {k : Nat} (h1 : patB (atK patK l k) = true) (h2 : inB (atK patK l k).day f t = true) (h4 : ∀ j, k = j + 1 → (atK patK l j).day < (atK patK l k).day) : patFit f t l k = true := by
  cases k with
  | zero => rw [patFit_zero, h1, h2]; rfl
  | succ j => rw [patFit_succ, h1, h2, decide_eq_true (h4 j rfl)]; rfl
def ruleB (z : Int) : Bool := decide (z = 0) || decide (z = 1)
noncomputable def regimeB (r : Rgm) : Bool := nameOk r.name && (dayB r.fr && (dayB r.to && (segsB r.fr r.to r.segs && (patsB r.fr r.to r.pats && (reignsOk r.rgns && ruleB r.rule)))))
/-- A world with a patch's block at its end, and what comes behind it. -/
theorem pat_box (w : World) (a b c : Int) (t : TypeId) : ∃ W0, W0 = w.alloc (.cells #[.int .i64 a, .int .i64 b, .int .i64 c] t) ∧ (∀ x : Later W0, x.w.cell? ⟨w.heap.size, 0, none⟩ = some (.int .i64 a)) ∧ (∀ x : Later W0, x.w.cell? ⟨w.heap.size, 1, none⟩ = some (.int .i64 b)) ∧ (∀ x : Later W0, x.w.cell? ⟨w.heap.size, 2, none⟩ = some (.int .i64 c)) ∧ ∀ x : Later W0, Below w.heap.size w x.w :=
  ⟨_, rfl, Later.new rfl 0 rfl, Later.new rfl 1 rfl, Later.new rfl 2 rfl, fun x => below_alloc x.below⟩
end Go.Proofs.YtkinapfoigibcaaGreatDoor.ctr

namespace Go.Proofs.YtkinapfoigibcaaGreatDoor.ctr
open Go.RowKit

set_option maxHeartbeats 1000000 in
theorem implPatchOk (s : Pat) (w : World) : Calls Tryz.prog 72 #[.agg #[.int .i64 s.day, .int .i64 s.mon, .int .i64 s.dom]] w fun e w' => e = .returned (.bool (patB s)) ∧ Below w.heap.size w w' := by
  unfold patB
  by_cases h1 : 1 ≤ s.mon
  case neg =>
    rw [inB_false (.inl (by omega)), Bool.false_and]
    have hd : decide (1 ≤ s.mon) = false := decide_eq_false h1
    go_enter Tryz.func72, Tryz.ntmps72
    go_wp2
    go_ret
    exact ⟨rfl, (Below.refl _ _).alloc (Nat.le_refl _) _⟩
  by_cases h2 : s.mon ≤ 12
  case neg =>
    rw [inB_false (.inr (by omega)), Bool.false_and]
    have hd : decide (s.mon ≤ 12) = false := decide_eq_false h2
    go_enter Tryz.func72, Tryz.ntmps72
    go_wp2
    go_ret
    exact ⟨rfl, (Below.refl _ _).alloc (Nat.le_refl _) _⟩
  rw [inB_true h1 h2, Bool.true_and]
  by_cases h3 : 1 ≤ s.dom
  case neg =>
    rw [inB_false (.inl (by omega))]
    have hd : decide (1 ≤ s.dom) = false := decide_eq_false h3
    go_enter Tryz.func72, Tryz.ntmps72
    go_wp2
    go_ret
    exact ⟨rfl, (Below.refl _ _).alloc (Nat.le_refl _) _⟩
  by_cases h4 : s.dom ≤ 31
  case neg =>
    rw [inB_false (.inr (by omega))]
    have hd : decide (s.dom ≤ 31) = false := decide_eq_false h4
    go_enter Tryz.func72, Tryz.ntmps72
    go_wp2
    go_ret
    exact ⟨rfl, (Below.refl _ _).alloc (Nat.le_refl _) _⟩
  rw [inB_true h3 h4]
  go_enter Tryz.func72, Tryz.ntmps72
  go_wp2
  go_ret
  exact ⟨rfl, (Below.refl _ _).alloc (Nat.le_refl _) _⟩
theorem implRuleOk (z : Int) (w : World) : Calls Tryz.prog 43 #[.int .i64 z] w fun e w' => e = .returned (.bool (ruleB z)) ∧ w' = w := by
  unfold ruleB
  by_cases h0 : z = 0
  · subst h0
    go_enter Tryz.func43, Tryz.ntmps43
    go_wp2
    go_ret
    exact ⟨rfl, rfl⟩
  by_cases h1 : z = 1
  · subst h1
    go_enter Tryz.func43, Tryz.ntmps43
    go_wp2
    go_ret
    exact ⟨rfl, rfl⟩
  rw [decide_eq_false h0, decide_eq_false h1]
  have hd : (z == 0) = false := by simp [h0]
  have hd' : (z == 1) = false := by simp [h1]
  go_enter Tryz.func43, Tryz.ntmps43
  go_wp2
  go_ret
  exact ⟨rfl, rfl⟩

set_option maxRecDepth 100000 in
set_option maxHeartbeats 2000000 in
theorem implSegsOk (v : Value) (r : Rgm) (w : World) (h : GRow w v r) (ht : r.to ≤ 9223372036854775807) (hE : ErrT w) : Calls Tryz.prog 40 #[v] w fun e w' => e = .returned (.bool (segsB r.fr r.to r.segs)) ∧ Below w.heap.size w w' := by
  obtain ⟨nm, f, t, l, ps, rs, ru⟩ := r
  obtain ⟨v1, v2, v3, rfl, _, x1, x2, x3⟩ := h
  dsimp only at x1 x2 x3
  obtain ⟨W0, hW0, d0, d1, d2, d3, d4, d5, d6, hBl⟩ := seven_box w (.string nm) (.int .i64 f) (.int .i64 t) v1 v2 v3 (.int .i64 ru) 28
  have hrow := x1.below (hBl ⟨W0, Below.refl _ _⟩)
  have KT : Hid (∀ y : Later W0, l.length ≤ 1048576 → (∀ s ∈ l, -9223372036854775808 ≤ s.to) → Calls Tryz.prog 71 #[.int .i64 f, .int .i64 t, v1] y.w fun e w' => e = .returned (.int .i64 (tilesZ f t l)) ∧ Below y.w.heap.size y.w w') := fun y h1 h2 => implTiles f t v1 l y.w (hrow.below y.below) h1 ht h2 (hE.below (hBl y))
  obtain ⟨a1, c1, rfl, _⟩ := x1
  obtain ⟨a2, c2, rfl, _⟩ := x2
  obtain ⟨a3, c3, rfl, _⟩ := x3
  obtain ⟨a, c, ev, hl, hm, H⟩ := hrow
  cases ev
  have HK := hideP H
  have HW0 := hideP hW0
  have HBl := hideP hBl
  unfold maxLen at hm
  dsimp only
  clear H hW0 hBl
  clear ht hE
  by_cases n1 : l.length < 1
  · have HR := hideP (segs_short (f := f) (t := t) (inB_false (x := (l.length : Int)) (a := 1) (b := 20) (.inl (by omega))))
    have q1 : (l.length : Int) < 1 := by omega
    go_enter Tryz.func40, Tryz.ntmps40
    go_wp2
    rw [← HW0.out]
    go_ret
    exact ⟨ret_bool HR.out.symm, HBl.out ⟨W0, Below.refl _ _⟩⟩
  have q1 : decide ((l.length : Int) < 1) = false := decide_eq_false (by omega)
  by_cases n2 : 20 < l.length
  · have HR := hideP (segs_short (f := f) (t := t) (inB_false (x := (l.length : Int)) (a := 1) (b := 20) (.inr (by omega))))
    have q2 : (20 : Int) < (l.length : Int) := by omega
    go_enter Tryz.func40, Tryz.ntmps40
    go_wp2
    rw [← HW0.out]
    go_ret
    exact ⟨ret_bool HR.out.symm, HBl.out ⟨W0, Below.refl _ _⟩⟩
  have q2 : decide ((20 : Int) < (l.length : Int)) = false := decide_eq_false (by omega)
  have HI : Hid (inB l.length 1 20 = true) := inB_true (by omega) (by omega)
  have hst : Hid (Below W0.heap.size W0 W0) := Below.refl _ _
  go_enter Tryz.func40, Tryz.ntmps40
  go_wp2
  rw [← HW0.out]
  go_loopw [18] (fun i wr => ∃ k : Nat, k ≤ l.length ∧ i = .int .i64 (k : Int) ∧ Hid (allTo (segFit f t l) k = true) ∧ ∃ y : Later W0, wr = y.w) (fun i _ => l.length - (intOf i).toNat)
  case atStart => exact ⟨0, Nat.zero_le _, rfl, rfl, ⟨W0, hst.out⟩, rfl⟩
  case round =>
    obtain ⟨k, hk, rfl, HF, y, rfl⟩ := hrel
    by_cases hlt : k < l.length
    · obtain ⟨g, rfl, hg, x⟩ := HK.out k hlt
      obtain ⟨e0, e1, e2, e3, e4⟩ := (x.below y.below hg).seg
      obtain ⟨W1, hW1, c10, c11, c12, c13, c14, hBl1⟩ := seg_box y.w (atK segK l k).fr (atK segK l k).to (atK segK l k).cal (atK segK l k).sty (atK segK l k).off 42
      have hY : ∀ z : Later W1, Below W0.heap.size W0 z.w := fun z => y.on (hBl1 z)
      have D1 : ∀ z : Later W1, z.w.cell? ⟨w.heap.size, 1, none⟩ = some (.int .i64 f) := fun z => d1 ⟨z.w, hY z⟩
      have D2 : ∀ z : Later W1, z.w.cell? ⟨w.heap.size, 2, none⟩ = some (.int .i64 t) := fun z => d2 ⟨z.w, hY z⟩
      have D3 : ∀ z : Later W1, z.w.cell? ⟨w.heap.size, 3, none⟩ = some (.slice (some ⟨g, 0, none⟩) l.length c1) := fun z => d3 ⟨z.w, hY z⟩
      have HP : Hid (∀ j, k = j + 1 → ∀ z : Later W1, z.w.cell? ⟨g, j * 5, none⟩ = some (.int .i64 (atK segK l j).fr)) := fun j e z => by
        obtain ⟨g', e', hg', x'⟩ := HK.out j (by omega)
        cases e'
        exact ((x'.below (hY z) hg').seg).1
      have F1 := hideP (fun h => segs_bad (f := f) (t := t) (k := k) (fit_no1 h) hlt)
      have F2 := hideP (fun h => segs_bad (f := f) (t := t) (k := k) (fit_no2 h) hlt)
      have F3 := hideP (fun h => segs_bad (f := f) (t := t) (k := k) (fit_no3 h) hlt)
      have F4 := hideP (fun (j : Nat) (e : k = j + 1) h => segs_bad (f := f) (t := t) (k := k) (fit_no4 e h) hlt)
      have F5 := hideP (fun h1 h2 h3 h4 => allTo_next HF.out (fit_yes (f := f) (t := t) (k := k) h1 h2 h3 h4))
      have HW1 := hideP hW1
      have HY := hideP hY
      clear x hW1 hBl1 hY
      generalize atK segK l k = s at *
      have KO : Hid (∀ W, Calls Tryz.prog 70 #[.agg #[.int .i64 s.fr, .int .i64 s.to, .int .i64 s.cal, .int .i64 s.sty, .int .i64 s.off]] W fun e w' => e = .returned (.bool (segOkB s)) ∧ Below W.heap.size W w') := fun W => implSegOk s W
      generalize segOkB s = b1 at *
      go_wp2_with fail
      rw [← HW1.out]
      refine (KO.out _).mono ?_
      rintro e w2 ⟨rfl, hb⟩
      obtain ⟨z, rfl⟩ := Later.of hb
      clear hb e0 e1 e2 e3 e4
      cases b1
      · have HR := hideP (F1.out rfl)
        go_wp2
        go_ret
        exact ⟨ret_bool HR.out.symm, HBl.out ⟨z.w, HY.out z⟩⟩
      by_cases h2 : f ≤ s.fr
      case neg =>
        have HR := hideP (F2.out (by omega))
        have q3 : s.fr < f := by omega
        go_wp2
        go_ret
        exact ⟨ret_bool HR.out.symm, HBl.out ⟨z.w, HY.out z⟩⟩
      have q3 : decide (s.fr < f) = false := decide_eq_false (by omega)
      by_cases h3 : s.to ≤ t
      case neg =>
        have HR := hideP (F3.out (by omega))
        have q4 : t < s.to := by omega
        go_wp2
        go_ret
        exact ⟨ret_bool HR.out.symm, HBl.out ⟨z.w, HY.out z⟩⟩
      have q4 : decide (t < s.to) = false := decide_eq_false (by omega)
      obtain rfl | ⟨j, rfl⟩ : k = 0 ∨ ∃ j, k = j + 1 := by cases k with | zero => exact .inl rfl | succ j => exact .inr ⟨j, rfl⟩
      · have HN := hideP (F5.out rfl h2 h3 (fun j e => by omega))
        go_wp2_with fail
        refine wp_region_later (W := W1) z.below (by kernel_rfl) (by kernel_rfl) ?_
        repeat (go_big_quiet_step (fail))
        refine wpQuiet_nil ?_
        intro _ hw'
        obtain ⟨u, rfl⟩ := hw'
        go_wp2
        exact ⟨⟨0 + 1, by omega, by go_num, HN.out, ⟨u.w, HY.out u⟩, rfl⟩, by simp [intOf]; omega⟩
      · have e5 := HP.out j rfl
        have G4 := hideP (F4.out j rfl)
        have G5 := hideP (fun (h4 : (atK segK l j).fr < s.fr) => F5.out rfl h2 h3 (fun i e => (show i = j from by omega) ▸ h4))
        have hj0 : decide ((0 : Int) < (j : Int) + 1) = true := decide_eq_true (by omega)
        clear HP F1 F2 F3 F4 F5
        generalize (atK segK l j).fr = P at *
        by_cases h4 : P < s.fr
        case neg =>
          have HR := hideP (G4.out (by omega))
          have q5 : decide (s.fr ≤ P) = true := decide_eq_true (by omega)
          go_wp2_with fail
          refine wp_region_later (W := W1) z.below (by kernel_rfl) (by kernel_rfl) ?_
          repeat (go_big_quiet_step (fail))
          refine wpQuiet_nil ?_
          intro _ hw'
          obtain ⟨u, rfl⟩ := hw'
          go_wp2
          go_ret
          exact ⟨ret_bool HR.out.symm, HBl.out ⟨u.w, HY.out u⟩⟩
        have HN := hideP (G5.out h4)
        have q5 : decide (s.fr ≤ P) = false := decide_eq_false (by omega)
        go_wp2_with fail
        refine wp_region_later (W := W1) z.below (by kernel_rfl) (by kernel_rfl) ?_
        repeat (go_big_quiet_step (fail))
        refine wpQuiet_nil ?_
        intro _ hw'
        obtain ⟨u, rfl⟩ := hw'
        go_wp2
        exact ⟨⟨j + 1 + 1, by omega, by go_num, HN.out, ⟨u.w, HY.out u⟩, rfl⟩, by simp [intOf]; omega⟩
    · have hkn : k = l.length := by omega
      have HA : Hid (allTo (segFit f t l) l.length = true) := by rw [← hkn]; exact HF
      have HR := hideP (segs_end HI.out HA.out)
      have KC := hideP (KT.out y (by omega) (segs_days HA.out))
      clear KT HF
      subst hkn
      generalize tilesZ f t l = Z at *
      go_wp2_with fail
      refine KC.out.mono ?_
      rintro e w2 ⟨rfl, hb⟩
      have HB2 : Hid (Below w.heap.size w w2) := HBl.out ⟨w2, y.on hb⟩
      clear hb
      by_cases hz : Z = 0
      · subst hz
        go_wp2
        go_ret
        exact ⟨ret_bool (by rw [HR.out]; rfl), HB2.out⟩
      · have hz' : (Z == 0) = false := by simp [hz]
        have HR2 : Hid (segsB f t l = false) := by unfold Hid; rw [HR.out]; exact decide_eq_false hz
        go_wp2
        go_ret
        exact ⟨ret_bool HR2.out.symm, HB2.out⟩

set_option maxRecDepth 100000 in
set_option maxHeartbeats 2000000 in
theorem implPatchesOk (v : Value) (r : Rgm) (w : World) (h : GRow w v r) : Calls Tryz.prog 41 #[v] w fun e w' => e = .returned (.bool (patsB r.fr r.to r.pats)) ∧ Below w.heap.size w w' := by
  obtain ⟨nm, f, t, ss, l, rs, ru⟩ := r
  obtain ⟨v1, v2, v3, rfl, _, x1, x2, x3⟩ := h
  dsimp only at x1 x2 x3
  obtain ⟨W0, hW0, d0, d1, d2, d3, d4, d5, d6, hBl⟩ := seven_box w (.string nm) (.int .i64 f) (.int .i64 t) v1 v2 v3 (.int .i64 ru) 28
  have hrow := x2.below (hBl ⟨W0, Below.refl _ _⟩)
  obtain ⟨a1, c1, rfl, _⟩ := x1
  obtain ⟨a2, c2, rfl, _⟩ := x2
  obtain ⟨a3, c3, rfl, _⟩ := x3
  obtain ⟨a, c, ev, hl, hm, H⟩ := hrow
  cases ev
  have HK := hideP H
  have HW0 := hideP hW0
  have HBl := hideP hBl
  unfold maxLen at hm
  dsimp only
  clear H hW0 hBl
  by_cases n2 : 8 < l.length
  · have HR : Hid (patsB f t l = false) := by unfold Hid patsB; rw [decide_eq_false (by omega), Bool.false_and]
    have q2 : (8 : Int) < (l.length : Int) := by omega
    go_enter Tryz.func41, Tryz.ntmps41
    go_wp2
    rw [← HW0.out]
    go_ret
    exact ⟨ret_bool HR.out.symm, HBl.out ⟨W0, Below.refl _ _⟩⟩
  have q2 : decide ((8 : Int) < (l.length : Int)) = false := decide_eq_false (by omega)
  have HI : Hid (decide ((l.length : Int) ≤ 8) = true) := decide_eq_true (by omega)
  have hst : Hid (Below W0.heap.size W0 W0) := Below.refl _ _
  go_enter Tryz.func41, Tryz.ntmps41
  go_wp2
  rw [← HW0.out]
  go_loopw [12] (fun i wr => ∃ k : Nat, k ≤ l.length ∧ i = .int .i64 (k : Int) ∧ Hid (allTo (patFit f t l) k = true) ∧ ∃ y : Later W0, wr = y.w) (fun i _ => l.length - (intOf i).toNat)
  case atStart => exact ⟨0, Nat.zero_le _, rfl, rfl, ⟨W0, hst.out⟩, rfl⟩
  case round =>
    obtain ⟨k, hk, rfl, HF, y, rfl⟩ := hrel
    by_cases hlt : k < l.length
    · obtain ⟨g, rfl, hg, x⟩ := HK.out k hlt
      obtain ⟨e0, e1, e2⟩ := (x.below y.below hg).pat
      obtain ⟨W1, hW1, c10, c11, c12, hBl1⟩ := pat_box y.w (atK patK l k).day (atK patK l k).mon (atK patK l k).dom 60
      have hY : ∀ z : Later W1, Below W0.heap.size W0 z.w := fun z => y.on (hBl1 z)
      have D1 : ∀ z : Later W1, z.w.cell? ⟨w.heap.size, 1, none⟩ = some (.int .i64 f) := fun z => d1 ⟨z.w, hY z⟩
      have D2 : ∀ z : Later W1, z.w.cell? ⟨w.heap.size, 2, none⟩ = some (.int .i64 t) := fun z => d2 ⟨z.w, hY z⟩
      have D3 : ∀ z : Later W1, z.w.cell? ⟨w.heap.size, 4, none⟩ = some (.slice (some ⟨g, 0, none⟩) l.length c2) := fun z => d4 ⟨z.w, hY z⟩
      have HP : Hid (∀ j, k = j + 1 → ∀ z : Later W1, z.w.cell? ⟨g, j * 3, none⟩ = some (.int .i64 (atK patK l j).day)) := fun j e z => by
        obtain ⟨g', e', hg', x'⟩ := HK.out j (by omega)
        cases e'
        exact ((x'.below (hY z) hg').pat).1
      have F1 := hideP (fun h => pats_bad (f := f) (t := t) (k := k) (pfit_no1 h) hlt)
      have F2 := hideP (fun h => pats_bad (f := f) (t := t) (k := k) (pfit_no2 h) hlt)
      have F4 := hideP (fun (j : Nat) (e : k = j + 1) h => pats_bad (f := f) (t := t) (k := k) (pfit_no4 e h) hlt)
      have F5 := hideP (fun h1 h2 h4 => allTo_next HF.out (pfit_yes (f := f) (t := t) (k := k) h1 h2 h4))
      have HW1 := hideP hW1
      have HY := hideP hY
      clear x hW1 hBl1 hY
      generalize atK patK l k = s at *
      have KO : Hid (∀ W, Calls Tryz.prog 72 #[.agg #[.int .i64 s.day, .int .i64 s.mon, .int .i64 s.dom]] W fun e w' => e = .returned (.bool (patB s)) ∧ Below W.heap.size W w') := fun W => implPatchOk s W
      generalize patB s = b1 at *
      go_wp2_with fail
      rw [← HW1.out]
      refine (KO.out _).mono ?_
      rintro e w2 ⟨rfl, hb⟩
      obtain ⟨z, rfl⟩ := Later.of hb
      clear hb e0 e1 e2
      cases b1
      · have HR := hideP (F1.out rfl)
        go_wp2
        go_ret
        exact ⟨ret_bool HR.out.symm, HBl.out ⟨z.w, HY.out z⟩⟩
      by_cases h2 : f ≤ s.day
      case neg =>
        have HR := hideP (F2.out (inB_false (.inl (by omega))))
        have q3 : s.day < f := by omega
        go_wp2
        go_ret
        exact ⟨ret_bool HR.out.symm, HBl.out ⟨z.w, HY.out z⟩⟩
      have q3 : decide (s.day < f) = false := decide_eq_false (by omega)
      by_cases h3 : s.day ≤ t
      case neg =>
        have HR := hideP (F2.out (inB_false (.inr (by omega))))
        have q4 : t < s.day := by omega
        go_wp2
        go_ret
        exact ⟨ret_bool HR.out.symm, HBl.out ⟨z.w, HY.out z⟩⟩
      have q4 : decide (t < s.day) = false := decide_eq_false (by omega)
      obtain rfl | ⟨j, rfl⟩ : k = 0 ∨ ∃ j, k = j + 1 := by cases k with | zero => exact .inl rfl | succ j => exact .inr ⟨j, rfl⟩
      · have HN := hideP (F5.out rfl (inB_true h2 h3) (fun j e => by omega))
        go_wp2_with fail
        refine wp_region_later (W := W1) z.below (by kernel_rfl) (by kernel_rfl) ?_
        repeat (go_big_quiet_step (fail))
        refine wpQuiet_nil ?_
        intro _ hw'
        obtain ⟨u, rfl⟩ := hw'
        go_wp2
        exact ⟨⟨0 + 1, by omega, by go_num, HN.out, ⟨u.w, HY.out u⟩, rfl⟩, by simp [intOf]; omega⟩
      · have e5 := HP.out j rfl
        have G4 := hideP (F4.out j rfl)
        have G5 := hideP (fun (h4 : (atK patK l j).day < s.day) => F5.out rfl (inB_true h2 h3) (fun i e => (show i = j from by omega) ▸ h4))
        have hj0 : decide ((0 : Int) < (j : Int) + 1) = true := decide_eq_true (by omega)
        clear HP F1 F2 F4 F5
        generalize (atK patK l j).day = P at *
        by_cases h4 : P < s.day
        case neg =>
          have HR := hideP (G4.out (by omega))
          have q5 : decide (s.day ≤ P) = true := decide_eq_true (by omega)
          go_wp2_with fail
          refine wp_region_later (W := W1) z.below (by kernel_rfl) (by kernel_rfl) ?_
          repeat (go_big_quiet_step (fail))
          refine wpQuiet_nil ?_
          intro _ hw'
          obtain ⟨u, rfl⟩ := hw'
          go_wp2
          go_ret
          exact ⟨ret_bool HR.out.symm, HBl.out ⟨u.w, HY.out u⟩⟩
        have HN := hideP (G5.out h4)
        have q5 : decide (s.day ≤ P) = false := decide_eq_false (by omega)
        go_wp2_with fail
        refine wp_region_later (W := W1) z.below (by kernel_rfl) (by kernel_rfl) ?_
        repeat (go_big_quiet_step (fail))
        refine wpQuiet_nil ?_
        intro _ hw'
        obtain ⟨u, rfl⟩ := hw'
        go_wp2
        exact ⟨⟨j + 1 + 1, by omega, by go_num, HN.out, ⟨u.w, HY.out u⟩, rfl⟩, by simp [intOf]; omega⟩
    · have hkn : k = l.length := by omega
      have HA : Hid (allTo (patFit f t l) l.length = true) := by rw [← hkn]; exact HF
      have HR : Hid (patsB f t l = true) := (pats_end HA.out).trans HI.out
      clear HF
      subst hkn
      go_wp2
      go_ret
      exact ⟨ret_bool HR.out.symm, HBl.out y⟩
end Go.Proofs.YtkinapfoigibcaaGreatDoor.ctr

namespace Go.Proofs.YtkinapfoigibcaaGreatDoor.ctr
open Go.RowKit

set_option maxRecDepth 100000 in
set_option maxHeartbeats 2000000 in
theorem specSegs9 (v : Value) (r : Rgm) (w : World) (h : GRow w v r) (hf : -9223372036854775808 ≤ r.fr) (ht : r.to ≤ 9223372036854775807) : Calls Tryz.prog 46 #[v] w fun e w' => e = .returned (.bool (segsB r.fr r.to r.segs)) ∧ Below w.heap.size w w' := by
  obtain ⟨nm, f, t, l, ps, rs, ru⟩ := r
  obtain ⟨v1, v2, v3, rfl, _, x1, x2, x3⟩ := h
  dsimp only at x1 x2 x3
  obtain ⟨W0, hW0, d0, d1, d2, d3, d4, d5, d6, hBl⟩ := seven_box w (.string nm) (.int .i64 f) (.int .i64 t) v1 v2 v3 (.int .i64 ru) 28
  have hrow := x1.below (hBl ⟨W0, Below.refl _ _⟩)
  have KT : Hid (∀ y : Later W0, l.length ≤ 1048576 → Calls Tryz.prog 76 #[.int .i64 f, .int .i64 t, v1] y.w fun e w' => e = .returned (.int .i64 (tilesZ f t l)) ∧ Below y.w.heap.size y.w w') := fun y h1 => specTiles f t v1 l y.w (hrow.below y.below) h1 hf ht
  obtain ⟨a1, c1, rfl, _⟩ := x1
  obtain ⟨a2, c2, rfl, _⟩ := x2
  obtain ⟨a3, c3, rfl, _⟩ := x3
  obtain ⟨a, c, ev, hl, hm, H⟩ := hrow
  cases ev
  have HK := hideP H
  have HW0 := hideP hW0
  have HBl := hideP hBl
  unfold maxLen at hm
  dsimp only
  clear H hW0 hBl
  clear hf ht
  have KL : Hid (∀ W, Calls Tryz.prog 49 #[.int .i64 (l.length : Int), .int .i64 1, .int .i64 20] W fun e w' => e = .returned (.bool (inB (l.length : Int) 1 20)) ∧ w' = W) := fun W => l01In _ _ _ W
  have hst : Hid (Below W0.heap.size W0 W0) := Below.refl _ _
  go_enter Tryz.func46, Tryz.ntmps46
  go_wp2
  rw [← HW0.out]
  go_loopw [3] (fun i wr => ∃ k : Nat, k ≤ l.length ∧ i = .int .i64 (k : Int) ∧ Hid (allTo (segFit f t l) k = true) ∧ ∃ y : Later W0, wr = y.w) (fun i _ => l.length - (intOf i).toNat)
  case atStart => exact ⟨0, Nat.zero_le _, rfl, rfl, ⟨W0, hst.out⟩, rfl⟩
  case round =>
    obtain ⟨k, hk, rfl, HF, y, rfl⟩ := hrel
    by_cases hlt : k < l.length
    · obtain ⟨g, rfl, hg, x⟩ := HK.out k hlt
      obtain ⟨e0, e1, e2, e3, e4⟩ := (x.below y.below hg).seg
      obtain ⟨W1, hW1, c10, c11, c12, c13, c14, hBl1⟩ := seg_box y.w (atK segK l k).fr (atK segK l k).to (atK segK l k).cal (atK segK l k).sty (atK segK l k).off 42
      have hY : ∀ z : Later W1, Below W0.heap.size W0 z.w := fun z => y.on (hBl1 z)
      have D1 : ∀ z : Later W1, z.w.cell? ⟨w.heap.size, 1, none⟩ = some (.int .i64 f) := fun z => d1 ⟨z.w, hY z⟩
      have D2 : ∀ z : Later W1, z.w.cell? ⟨w.heap.size, 2, none⟩ = some (.int .i64 t) := fun z => d2 ⟨z.w, hY z⟩
      have D3 : ∀ z : Later W1, z.w.cell? ⟨w.heap.size, 3, none⟩ = some (.slice (some ⟨g, 0, none⟩) l.length c1) := fun z => d3 ⟨z.w, hY z⟩
      have HP : Hid (∀ j, k = j + 1 → ∀ z : Later W1, z.w.cell? ⟨g, j * 5, none⟩ = some (.int .i64 (atK segK l j).fr)) := fun j e z => by
        obtain ⟨g', e', hg', x'⟩ := HK.out j (by omega)
        cases e'
        exact ((x'.below (hY z) hg').seg).1
      have F1 := hideP (fun h => segs_bad (f := f) (t := t) (k := k) (fit_no1 h) hlt)
      have F2 := hideP (fun h => segs_bad (f := f) (t := t) (k := k) (fit_no2 h) hlt)
      have F3 := hideP (fun h => segs_bad (f := f) (t := t) (k := k) (fit_no3 h) hlt)
      have F4 := hideP (fun (j : Nat) (e : k = j + 1) h => segs_bad (f := f) (t := t) (k := k) (fit_no4 e h) hlt)
      have F5 := hideP (fun h1 h2 h3 h4 => allTo_next HF.out (fit_yes (f := f) (t := t) (k := k) h1 h2 h3 h4))
      have HW1 := hideP hW1
      have HY := hideP hY
      clear x hW1 hBl1 hY
      generalize atK segK l k = s at *
      have KO : ∀ y : Later W1, Calls Tryz.prog 75 #[.agg #[.int .i64 s.fr, .int .i64 s.to, .int .i64 s.cal, .int .i64 s.sty, .int .i64 s.off]] y.w fun e w' => e = .returned (.bool (segOkB s)) ∧ Below y.w.heap.size y.w w' := fun y => specSegOk s y.w
      generalize segOkB s = b1 at *
      cases b1
      · have HR := hideP (F1.out rfl)
        go_wp2_with fail
        rw [← HW1.out]
        refine wp_region_later (W := W1) (Below.refl _ _) (by kernel_rfl) (by kernel_rfl) ?_
        repeat (go_big_quiet_step (first | (go_at_call 75; exact calls_later (KO _)) | fail))
        refine wpQuiet_nil ?_
        intro _ hw'
        obtain ⟨u, rfl⟩ := hw'
        go_wp2
        go_ret
        exact ⟨ret_bool HR.out.symm, HBl.out ⟨u.w, HY.out u⟩⟩
      by_cases h2 : f ≤ s.fr
      case neg =>
        have HR := hideP (F2.out (by omega))
        have q3 : decide (s.fr < f) = true := decide_eq_true (by omega)
        go_wp2_with fail
        rw [← HW1.out]
        refine wp_region_later (W := W1) (Below.refl _ _) (by kernel_rfl) (by kernel_rfl) ?_
        repeat (go_big_quiet_step (first | (go_at_call 75; exact calls_later (KO _)) | fail))
        refine wpQuiet_nil ?_
        intro _ hw'
        obtain ⟨u, rfl⟩ := hw'
        go_wp2
        go_ret
        exact ⟨ret_bool HR.out.symm, HBl.out ⟨u.w, HY.out u⟩⟩
      have q3 : decide (s.fr < f) = false := decide_eq_false (by omega)
      by_cases h3 : s.to ≤ t
      case neg =>
        have HR := hideP (F3.out (by omega))
        have q4 : decide (t < s.to) = true := decide_eq_true (by omega)
        go_wp2_with fail
        rw [← HW1.out]
        refine wp_region_later (W := W1) (Below.refl _ _) (by kernel_rfl) (by kernel_rfl) ?_
        repeat (go_big_quiet_step (first | (go_at_call 75; exact calls_later (KO _)) | fail))
        refine wpQuiet_nil ?_
        intro _ hw'
        obtain ⟨u, rfl⟩ := hw'
        go_wp2
        go_ret
        exact ⟨ret_bool HR.out.symm, HBl.out ⟨u.w, HY.out u⟩⟩
      have q4 : decide (t < s.to) = false := decide_eq_false (by omega)
      obtain rfl | ⟨j, rfl⟩ : k = 0 ∨ ∃ j, k = j + 1 := by cases k with | zero => exact .inl rfl | succ j => exact .inr ⟨j, rfl⟩
      · have HN := hideP (F5.out rfl h2 h3 (fun j e => by omega))
        go_wp2_with fail
        rw [← HW1.out]
        refine wp_region_later (W := W1) (Below.refl _ _) (by kernel_rfl) (by kernel_rfl) ?_
        repeat (go_big_quiet_step (first | (go_at_call 75; exact calls_later (KO _)) | fail))
        refine wpQuiet_nil ?_
        intro _ hw'
        obtain ⟨u, rfl⟩ := hw'
        go_wp2
        exact ⟨⟨0 + 1, by omega, by go_num, HN.out, ⟨u.w, HY.out u⟩, rfl⟩, by simp [intOf]; omega⟩
      · have e5 := HP.out j rfl
        have G4 := hideP (F4.out j rfl)
        have G5 := hideP (fun (h4 : (atK segK l j).fr < s.fr) => F5.out rfl h2 h3 (fun i e => (show i = j from by omega) ▸ h4))
        have hj0 : decide ((0 : Int) < (j : Int) + 1) = true := decide_eq_true (by omega)
        clear HP F1 F2 F3 F4 F5
        generalize (atK segK l j).fr = P at *
        by_cases h4 : P < s.fr
        case neg =>
          have HR := hideP (G4.out (by omega))
          have q5 : decide (s.fr ≤ P) = true := decide_eq_true (by omega)
          go_wp2_with fail
          rw [← HW1.out]
          refine wp_region_later (W := W1) (Below.refl _ _) (by kernel_rfl) (by kernel_rfl) ?_
          repeat (go_big_quiet_step (first | (go_at_call 75; exact calls_later (KO _)) | fail))
          refine wpQuiet_nil ?_
          intro _ hw'
          obtain ⟨u, rfl⟩ := hw'
          go_wp2
          go_ret
          exact ⟨ret_bool HR.out.symm, HBl.out ⟨u.w, HY.out u⟩⟩
        have HN := hideP (G5.out h4)
        have q5 : decide (s.fr ≤ P) = false := decide_eq_false (by omega)
        go_wp2_with fail
        rw [← HW1.out]
        refine wp_region_later (W := W1) (Below.refl _ _) (by kernel_rfl) (by kernel_rfl) ?_
        repeat (go_big_quiet_step (first | (go_at_call 75; exact calls_later (KO _)) | fail))
        refine wpQuiet_nil ?_
        intro _ hw'
        obtain ⟨u, rfl⟩ := hw'
        go_wp2
        exact ⟨⟨j + 1 + 1, by omega, by go_num, HN.out, ⟨u.w, HY.out u⟩, rfl⟩, by simp [intOf]; omega⟩
    · have hkn : k = l.length := by omega
      have HA : Hid (allTo (segFit f t l) l.length = true) := by rw [← hkn]; exact HF
      have HR1 := hideP (fun h => segs_end (f := f) (t := t) (l := l) h HA.out)
      have HR0 := hideP (fun h => segs_short (f := f) (t := t) (l := l) h)
      have HL : Hid (inB (l.length : Int) 1 20 = true → l.length ≤ 1048576) := fun h => by
        by_cases hx : l.length ≤ 1048576
        · exact hx
        · rw [inB_false (.inr (by omega))] at h; cases h
      have KC := hideP (fun h => KT.out y (HL.out h))
      clear KT HF
      subst hkn
      generalize inB (l.length : Int) 1 20 = b at *
      generalize tilesZ f t l = Z at *
      go_wp2_with fail
      refine (KL.out _).mono ?_
      rintro e w1 ⟨rfl, rfl⟩
      cases b
      · have HR := hideP (HR0.out rfl)
        go_wp2
        go_ret
        exact ⟨ret_bool HR.out.symm, HBl.out y⟩
      have HR := hideP (HR1.out rfl)
      have KD := hideP (KC.out rfl)
      clear KC HR1 HR0 HL
      go_wp2_with fail
      refine KD.out.mono ?_
      rintro e w2 ⟨rfl, hb⟩
      have HB2 : Hid (Below w.heap.size w w2) := HBl.out ⟨w2, y.on hb⟩
      clear hb
      by_cases hz : Z = 0
      · subst hz
        go_wp2
        go_ret
        exact ⟨ret_bool (by rw [HR.out]; rfl), HB2.out⟩
      · have hz' : (Z == 0) = false := by simp [hz]
        have HR2 : Hid (segsB f t l = false) := by unfold Hid; rw [HR.out]; exact decide_eq_false hz
        go_wp2
        go_ret
        exact ⟨ret_bool HR2.out.symm, HB2.out⟩

set_option maxRecDepth 100000 in
set_option maxHeartbeats 2000000 in
theorem specPatches9 (v : Value) (r : Rgm) (w : World) (h : GRow w v r) : Calls Tryz.prog 47 #[v] w fun e w' => e = .returned (.bool (patsB r.fr r.to r.pats)) ∧ Below w.heap.size w w' := by
  obtain ⟨nm, f, t, ss, l, rs, ru⟩ := r
  obtain ⟨v1, v2, v3, rfl, _, x1, x2, x3⟩ := h
  dsimp only at x1 x2 x3
  obtain ⟨W0, hW0, d0, d1, d2, d3, d4, d5, d6, hBl⟩ := seven_box w (.string nm) (.int .i64 f) (.int .i64 t) v1 v2 v3 (.int .i64 ru) 28
  have hrow := x2.below (hBl ⟨W0, Below.refl _ _⟩)
  obtain ⟨a1, c1, rfl, _⟩ := x1
  obtain ⟨a2, c2, rfl, _⟩ := x2
  obtain ⟨a3, c3, rfl, _⟩ := x3
  obtain ⟨a, c, ev, hl, hm, H⟩ := hrow
  cases ev
  have HK := hideP H
  have HW0 := hideP hW0
  have HBl := hideP hBl
  unfold maxLen at hm
  dsimp only
  clear H hW0 hBl
  have hst : Hid (Below W0.heap.size W0 W0) := Below.refl _ _
  go_enter Tryz.func47, Tryz.ntmps47
  go_wp2
  rw [← HW0.out]
  go_loopw [3] (fun i wr => ∃ k : Nat, k ≤ l.length ∧ i = .int .i64 (k : Int) ∧ Hid (allTo (patFit f t l) k = true) ∧ ∃ y : Later W0, wr = y.w) (fun i _ => l.length - (intOf i).toNat)
  case atStart => exact ⟨0, Nat.zero_le _, rfl, rfl, ⟨W0, hst.out⟩, rfl⟩
  case round =>
    obtain ⟨k, hk, rfl, HF, y, rfl⟩ := hrel
    by_cases hlt : k < l.length
    · obtain ⟨g, rfl, hg, x⟩ := HK.out k hlt
      obtain ⟨e0, e1, e2⟩ := (x.below y.below hg).pat
      obtain ⟨W1, hW1, c10, c11, c12, hBl1⟩ := pat_box y.w (atK patK l k).day (atK patK l k).mon (atK patK l k).dom 60
      have hY : ∀ z : Later W1, Below W0.heap.size W0 z.w := fun z => y.on (hBl1 z)
      have D1 : ∀ z : Later W1, z.w.cell? ⟨w.heap.size, 1, none⟩ = some (.int .i64 f) := fun z => d1 ⟨z.w, hY z⟩
      have D2 : ∀ z : Later W1, z.w.cell? ⟨w.heap.size, 2, none⟩ = some (.int .i64 t) := fun z => d2 ⟨z.w, hY z⟩
      have D3 : ∀ z : Later W1, z.w.cell? ⟨w.heap.size, 4, none⟩ = some (.slice (some ⟨g, 0, none⟩) l.length c2) := fun z => d4 ⟨z.w, hY z⟩
      have HP : Hid (∀ j, k = j + 1 → ∀ z : Later W1, z.w.cell? ⟨g, j * 3, none⟩ = some (.int .i64 (atK patK l j).day)) := fun j e z => by
        obtain ⟨g', e', hg', x'⟩ := HK.out j (by omega)
        cases e'
        exact ((x'.below (hY z) hg').pat).1
      have F1 := hideP (fun h => pats_bad (f := f) (t := t) (k := k) (pfit_no1 h) hlt)
      have F2 := hideP (fun h => pats_bad (f := f) (t := t) (k := k) (pfit_no2 h) hlt)
      have F4 := hideP (fun (j : Nat) (e : k = j + 1) h => pats_bad (f := f) (t := t) (k := k) (pfit_no4 e h) hlt)
      have F5 := hideP (fun h1 h2 h4 => allTo_next HF.out (pfit_yes (f := f) (t := t) (k := k) h1 h2 h4))
      have HW1 := hideP hW1
      have HY := hideP hY
      clear x hW1 hBl1 hY
      generalize atK patK l k = s at *
      have KA : ∀ y : Later W1, Calls Tryz.prog 49 #[.int .i64 s.day, .int .i64 f, .int .i64 t] y.w fun e w' => e = .returned (.bool (inB s.day f t)) ∧ w' = y.w := fun y => l01In _ _ _ y.w
      have KM : ∀ y : Later W1, Calls Tryz.prog 49 #[.int .i64 s.mon, .int .i64 1, .int .i64 12] y.w fun e w' => e = .returned (.bool (inB s.mon 1 12)) ∧ w' = y.w := fun y => l01In _ _ _ y.w
      have KD : ∀ y : Later W1, Calls Tryz.prog 49 #[.int .i64 s.dom, .int .i64 1, .int .i64 31] y.w fun e w' => e = .returned (.bool (inB s.dom 1 31)) ∧ w' = y.w := fun y => l01In _ _ _ y.w
      have HPB : Hid (patB s = (inB s.mon 1 12 && inB s.dom 1 31)) := rfl
      generalize patB s = pb at *
      obtain ⟨s0, s1, s2⟩ := s
      dsimp only at *
      generalize inB s0 f t = b1 at *
      generalize inB s1 1 12 = b2 at *
      generalize inB s2 1 31 = b3 at *
      cases b1
      · have HR := hideP (F2.out rfl)
        go_wp2_with fail
        rw [← HW1.out]
        refine wp_region_later (W := W1) (Below.refl _ _) (by kernel_rfl) (by kernel_rfl) ?_
        repeat (go_big_quiet_step (first | (go_at_call_of 49 s0; exact calls_same (KA _)) | (go_at_call_of 49 s1; exact calls_same (KM _)) | (go_at_call_of 49 s2; exact calls_same (KD _)) | fail))
        refine wpQuiet_nil ?_
        intro _ hw'
        obtain ⟨u, rfl⟩ := hw'
        go_wp2
        go_ret
        exact ⟨ret_bool HR.out.symm, HBl.out ⟨u.w, HY.out u⟩⟩
      cases b2
      · have HR := hideP (F1.out (by rw [HPB.out]; rfl))
        go_wp2_with fail
        rw [← HW1.out]
        refine wp_region_later (W := W1) (Below.refl _ _) (by kernel_rfl) (by kernel_rfl) ?_
        repeat (go_big_quiet_step (first | (go_at_call_of 49 s0; exact calls_same (KA _)) | (go_at_call_of 49 s1; exact calls_same (KM _)) | (go_at_call_of 49 s2; exact calls_same (KD _)) | fail))
        refine wpQuiet_nil ?_
        intro _ hw'
        obtain ⟨u, rfl⟩ := hw'
        go_wp2
        go_ret
        exact ⟨ret_bool HR.out.symm, HBl.out ⟨u.w, HY.out u⟩⟩
      cases b3
      · have HR := hideP (F1.out (by rw [HPB.out]; rfl))
        go_wp2_with fail
        rw [← HW1.out]
        refine wp_region_later (W := W1) (Below.refl _ _) (by kernel_rfl) (by kernel_rfl) ?_
        repeat (go_big_quiet_step (first | (go_at_call_of 49 s0; exact calls_same (KA _)) | (go_at_call_of 49 s1; exact calls_same (KM _)) | (go_at_call_of 49 s2; exact calls_same (KD _)) | fail))
        refine wpQuiet_nil ?_
        intro _ hw'
        obtain ⟨u, rfl⟩ := hw'
        go_wp2
        go_ret
        exact ⟨ret_bool HR.out.symm, HBl.out ⟨u.w, HY.out u⟩⟩
      have HP1 : Hid (pb = true) := HPB.out
      obtain rfl | ⟨j, rfl⟩ : k = 0 ∨ ∃ j, k = j + 1 := by cases k with | zero => exact .inl rfl | succ j => exact .inr ⟨j, rfl⟩
      · have HN := hideP (F5.out HP1.out rfl (fun j e => by omega))
        go_wp2_with fail
        rw [← HW1.out]
        refine wp_region_later (W := W1) (Below.refl _ _) (by kernel_rfl) (by kernel_rfl) ?_
        repeat (go_big_quiet_step (first | (go_at_call_of 49 s0; exact calls_same (KA _)) | (go_at_call_of 49 s1; exact calls_same (KM _)) | (go_at_call_of 49 s2; exact calls_same (KD _)) | fail))
        refine wpQuiet_nil ?_
        intro _ hw'
        obtain ⟨u, rfl⟩ := hw'
        go_wp2
        exact ⟨⟨0 + 1, by omega, by go_num, HN.out, ⟨u.w, HY.out u⟩, rfl⟩, by simp [intOf]; omega⟩
      · have e5 := HP.out j rfl
        have G4 := hideP (F4.out j rfl)
        have G5 := hideP (fun (h4 : (atK patK l j).day < s0) => F5.out HP1.out rfl (fun i e => (show i = j from by omega) ▸ h4))
        have hj0 : decide ((0 : Int) < (j : Int) + 1) = true := decide_eq_true (by omega)
        clear HP F1 F2 F4 F5
        generalize (atK patK l j).day = P at *
        by_cases h4 : P < s0
        case neg =>
          have HR := hideP (G4.out (by omega))
          have q5 : decide (s0 ≤ P) = true := decide_eq_true (by omega)
          go_wp2_with fail
          rw [← HW1.out]
          refine wp_region_later (W := W1) (Below.refl _ _) (by kernel_rfl) (by kernel_rfl) ?_
          repeat (go_big_quiet_step (first | (go_at_call_of 49 s0; exact calls_same (KA _)) | (go_at_call_of 49 s1; exact calls_same (KM _)) | (go_at_call_of 49 s2; exact calls_same (KD _)) | fail))
          refine wpQuiet_nil ?_
          intro _ hw'
          obtain ⟨u, rfl⟩ := hw'
          go_wp2
          go_ret
          exact ⟨ret_bool HR.out.symm, HBl.out ⟨u.w, HY.out u⟩⟩
        have HN := hideP (G5.out h4)
        have q5 : decide (s0 ≤ P) = false := decide_eq_false (by omega)
        go_wp2_with fail
        rw [← HW1.out]
        refine wp_region_later (W := W1) (Below.refl _ _) (by kernel_rfl) (by kernel_rfl) ?_
        repeat (go_big_quiet_step (first | (go_at_call_of 49 s0; exact calls_same (KA _)) | (go_at_call_of 49 s1; exact calls_same (KM _)) | (go_at_call_of 49 s2; exact calls_same (KD _)) | fail))
        refine wpQuiet_nil ?_
        intro _ hw'
        obtain ⟨u, rfl⟩ := hw'
        go_wp2
        exact ⟨⟨j + 1 + 1, by omega, by go_num, HN.out, ⟨u.w, HY.out u⟩, rfl⟩, by simp [intOf]; omega⟩
    · have hkn : k = l.length := by omega
      have HA : Hid (allTo (patFit f t l) l.length = true) := by rw [← hkn]; exact HF
      have HR := hideP (pats_end HA.out)
      clear HF
      subst hkn
      by_cases h8 : (l.length : Int) ≤ 8
      · have HR2 : Hid (patsB f t l = true) := HR.out.trans (decide_eq_true h8)
        go_wp2
        go_ret
        exact ⟨ret_bool HR2.out.symm, HBl.out y⟩
      · have HR2 : Hid (patsB f t l = false) := HR.out.trans (decide_eq_false h8)
        have q8 : decide ((l.length : Int) ≤ 8) = false := decide_eq_false h8
        go_wp2
        go_ret
        exact ⟨ret_bool HR2.out.symm, HBl.out y⟩
end Go.Proofs.YtkinapfoigibcaaGreatDoor.ctr

namespace Go.Proofs.YtkinapfoigibcaaGreatDoor.ctr
open Go.RowKit
set_option linter.unusedSimpArgs false

set_option maxRecDepth 100000 in
set_option maxHeartbeats 2000000 in
theorem implRegimeOk (v : Value) (r : Rgm) (a : Addr) (w : World) (h : GRow w v r) (ht : r.to ≤ 9223372036854775807) (hE : ErrT w) (hT : Tab w) (hS : Sent w a) : Calls Tryz.prog 14 #[v] w fun e w' => e = .returned (.bool (regimeB r)) ∧ Below w.heap.size w w' := by
  have hn : r.name.size ≤ maxLen := by obtain ⟨_, _, _, _, hn, _⟩ := h; exact hn
  have KS : Hid (∀ W, Below w.heap.size w W → Calls Tryz.prog 40 #[v] W fun e w' => e = .returned (.bool (segsB r.fr r.to r.segs)) ∧ Below W.heap.size W w') := fun W hb => implSegsOk v r W (h.below hb) ht (hE.below hb)
  have KP : Hid (∀ W, Below w.heap.size w W → Calls Tryz.prog 41 #[v] W fun e w' => e = .returned (.bool (patsB r.fr r.to r.pats)) ∧ Below W.heap.size W w') := fun W hb => implPatchesOk v r W (h.below hb)
  have RB : Hid (regimeB r = (nameOk r.name && (dayB r.fr && (dayB r.to && (segsB r.fr r.to r.segs && (patsB r.fr r.to r.pats && (reignsOk r.rgns && ruleB r.rule))))))) := rfl
  have HO : Hid (r.to < r.fr → segsB r.fr r.to r.segs = false) := fun h => segs_order (by omega)
  generalize regimeB r = ans at *
  obtain ⟨nm, f, t, l, ps, rs, ru⟩ := r
  dsimp only at *
  obtain ⟨v1, v2, v3, rfl, _, x1, x2, x3⟩ := h
  dsimp only at *
  have KN : Hid (∀ W, Calls Tryz.prog 38 #[.string nm] W fun e w' => e = .returned (.bool (nameOk nm)) ∧ Below W.heap.size W w') := fun W => (implNameOk nm W hn).mono fun _ _ h => ⟨h.1, same_bel h.2⟩
  have KF : Hid (∀ W, Calls Tryz.prog 39 #[.int .i64 f] W fun e w' => e = .returned (.bool (dayB f)) ∧ Below W.heap.size W w') := fun W => (implOnLine f W).mono fun _ _ h => ⟨h.1, same_bel h.2⟩
  have KT : Hid (∀ W, Calls Tryz.prog 39 #[.int .i64 t] W fun e w' => e = .returned (.bool (dayB t)) ∧ Below W.heap.size W w') := fun W => (implOnLine t W).mono fun _ _ h => ⟨h.1, same_bel h.2⟩
  have KR : Hid (∀ W, Below w.heap.size w W → Calls Tryz.prog 42 #[v3] W fun e w' => e = .returned (.bool (reignsOk rs)) ∧ Below W.heap.size W w') := fun W hb => implReignsOk v3 rs a W (x3.below hb) (hT.later hb) (hS.later hb)
  obtain ⟨W0, hW0, d0, d1, d2, d3, d4, d5, d6, hBl⟩ := seven_box w (.string nm) (.int .i64 f) (.int .i64 t) v1 v2 v3 (.int .i64 ru) 28
  obtain ⟨a1, c1, rfl, _⟩ := x1
  obtain ⟨a2, c2, rfl, _⟩ := x2
  obtain ⟨a3, c3, rfl, _⟩ := x3
  have HW0 := hideP hW0
  have HBl := hideP hBl
  clear hW0 hBl hn ht hE hT hS
  generalize nameOk nm = b1 at *
  generalize dayB f = b2 at *
  generalize dayB t = b3 at *
  generalize segsB f t l = b4 at *
  generalize patsB f t ps = b5 at *
  generalize reignsOk rs = b6 at *
  go_enter Tryz.func14, Tryz.ntmps14
  go_wp2_with fail
  rw [← HW0.out]
  refine (KN.out _).mono ?_
  rintro e w1 ⟨rfl, hb⟩
  obtain ⟨x1, rfl⟩ := Later.of hb
  clear hb
  cases b1
  · have HR : Hid (ans = false) := by unfold Hid; rw [RB.out]; simp only [Bool.false_and, Bool.and_false, Bool.true_and]
    go_wp2
    go_ret
    exact ⟨ret_bool HR.out.symm, HBl.out x1⟩
  go_wp2_with fail
  refine (KF.out _).mono ?_
  rintro e w2 ⟨rfl, hb⟩
  obtain ⟨x2, rfl⟩ := x1.next hb
  clear hb
  cases b2
  · have HR : Hid (ans = false) := by unfold Hid; rw [RB.out]; simp only [Bool.false_and, Bool.and_false, Bool.true_and]
    go_wp2
    go_ret
    exact ⟨ret_bool HR.out.symm, HBl.out x2⟩
  go_wp2_with fail
  refine (KT.out _).mono ?_
  rintro e w3 ⟨rfl, hb⟩
  obtain ⟨x3, rfl⟩ := x2.next hb
  clear hb
  cases b3
  · have HR : Hid (ans = false) := by unfold Hid; rw [RB.out]; simp only [Bool.false_and, Bool.and_false, Bool.true_and]
    go_wp2
    go_ret
    exact ⟨ret_bool HR.out.symm, HBl.out x3⟩
  go_wp2_with fail
  refine (KS.out _ (HBl.out x3)).mono ?_
  rintro e w4 ⟨rfl, hb⟩
  obtain ⟨x4, rfl⟩ := x3.next hb
  clear hb
  cases b4
  · have HR : Hid (ans = false) := by unfold Hid; rw [RB.out]; simp only [Bool.false_and, Bool.and_false, Bool.true_and]
    go_wp2
    go_ret
    exact ⟨ret_bool HR.out.symm, HBl.out x4⟩
  go_wp2_with fail
  refine (KP.out _ (HBl.out x4)).mono ?_
  rintro e w5 ⟨rfl, hb⟩
  obtain ⟨x5, rfl⟩ := x4.next hb
  clear hb
  cases b5
  · have HR : Hid (ans = false) := by unfold Hid; rw [RB.out]; simp only [Bool.false_and, Bool.and_false, Bool.true_and]
    go_wp2
    go_ret
    exact ⟨ret_bool HR.out.symm, HBl.out x5⟩
  go_wp2_with fail
  refine (KR.out _ (HBl.out x5)).mono ?_
  rintro e w6 ⟨rfl, hb⟩
  obtain ⟨x6, rfl⟩ := x5.next hb
  clear hb
  cases b6
  · have HR : Hid (ans = false) := by unfold Hid; rw [RB.out]; simp only [Bool.false_and, Bool.and_false, Bool.true_and]
    go_wp2
    go_ret
    exact ⟨ret_bool HR.out.symm, HBl.out x6⟩
  have HQ : Hid (ans = ruleB ru) := by unfold Hid; rw [RB.out]; simp only [Bool.true_and]
  clear RB HO KN KF KT KS KP KR
  have KU : Hid (∀ W, Calls Tryz.prog 43 #[.int .i64 ru] W fun e w' => e = .returned (.bool (ruleB ru)) ∧ w' = W) := fun W => implRuleOk ru W
  generalize ruleB ru = b7 at *
  go_wp2_with fail
  refine (KU.out _).mono ?_
  rintro e w7 ⟨rfl, rfl⟩
  go_wp2
  go_ret
  exact ⟨ret_bool HQ.out.symm, HBl.out x6⟩

set_option maxRecDepth 100000 in
set_option maxHeartbeats 2000000 in
theorem specRegimeOk (v : Value) (r : Rgm) (w : World) (h : GRow w v r) (hf : -9223372036854775808 ≤ r.fr) (ht : r.to ≤ 9223372036854775807) : Calls Tryz.prog 15 #[v] w fun e w' => e = .returned (.bool (regimeB r)) ∧ Below w.heap.size w w' := by
  have hn : r.name.size ≤ maxLen := by obtain ⟨_, _, _, _, hn, _⟩ := h; exact hn
  have KS : Hid (∀ W, Below w.heap.size w W → Calls Tryz.prog 46 #[v] W fun e w' => e = .returned (.bool (segsB r.fr r.to r.segs)) ∧ Below W.heap.size W w') := fun W hb => specSegs9 v r W (h.below hb) hf ht
  have KP : Hid (∀ W, Below w.heap.size w W → Calls Tryz.prog 47 #[v] W fun e w' => e = .returned (.bool (patsB r.fr r.to r.pats)) ∧ Below W.heap.size W w') := fun W hb => specPatches9 v r W (h.below hb)
  have RB : Hid (regimeB r = (nameOk r.name && (dayB r.fr && (dayB r.to && (segsB r.fr r.to r.segs && (patsB r.fr r.to r.pats && (reignsOk r.rgns && ruleB r.rule))))))) := rfl
  have HO : Hid (r.to < r.fr → segsB r.fr r.to r.segs = false) := fun h => segs_order (by omega)
  generalize regimeB r = ans at *
  obtain ⟨nm, f, t, l, ps, rs, ru⟩ := r
  dsimp only at *
  obtain ⟨v1, v2, v3, rfl, _, x1, x2, x3⟩ := h
  dsimp only at *
  have KN : Hid (∀ W, Calls Tryz.prog 44 #[.string nm] W fun e w' => e = .returned (.bool (nameOk nm)) ∧ Below W.heap.size W w') := fun W => (specNameOk nm W hn).mono fun _ _ h => ⟨h.1, same_bel h.2⟩
  have KF : Hid (∀ W, Calls Tryz.prog 45 #[.int .i64 f] W fun e w' => e = .returned (.bool (dayB f)) ∧ Below W.heap.size W w') := fun W => (specDay9 f W).mono fun _ _ h => ⟨h.1, same_bel h.2⟩
  have KT : Hid (∀ W, Calls Tryz.prog 45 #[.int .i64 t] W fun e w' => e = .returned (.bool (dayB t)) ∧ Below W.heap.size W w') := fun W => (specDay9 t W).mono fun _ _ h => ⟨h.1, same_bel h.2⟩
  have KR : Hid (∀ W, Below w.heap.size w W → Calls Tryz.prog 48 #[v3] W fun e w' => e = .returned (.bool (reignsOk rs)) ∧ Below W.heap.size W w') := fun W hb => specReignsOk v3 rs W (x3.below hb)
  obtain ⟨W0, hW0, d0, d1, d2, d3, d4, d5, d6, hBl⟩ := seven_box w (.string nm) (.int .i64 f) (.int .i64 t) v1 v2 v3 (.int .i64 ru) 28
  obtain ⟨a1, c1, rfl, _⟩ := x1
  obtain ⟨a2, c2, rfl, _⟩ := x2
  obtain ⟨a3, c3, rfl, _⟩ := x3
  have HW0 := hideP hW0
  have HBl := hideP hBl
  clear hW0 hBl hn hf ht
  generalize nameOk nm = b1 at *
  generalize dayB f = b2 at *
  generalize dayB t = b3 at *
  generalize segsB f t l = b4 at *
  generalize patsB f t ps = b5 at *
  generalize reignsOk rs = b6 at *
  go_enter Tryz.func15, Tryz.ntmps15
  go_wp2_with fail
  rw [← HW0.out]
  refine (KN.out _).mono ?_
  rintro e w1 ⟨rfl, hb⟩
  obtain ⟨x1, rfl⟩ := Later.of hb
  clear hb
  cases b1
  · have HR : Hid (ans = false) := by unfold Hid; rw [RB.out]; simp only [Bool.false_and, Bool.and_false, Bool.true_and]
    go_wp2
    go_ret
    exact ⟨ret_bool HR.out.symm, HBl.out x1⟩
  go_wp2_with fail
  refine (KF.out _).mono ?_
  rintro e w2 ⟨rfl, hb⟩
  obtain ⟨x2, rfl⟩ := x1.next hb
  clear hb
  cases b2
  · have HR : Hid (ans = false) := by unfold Hid; rw [RB.out]; simp only [Bool.false_and, Bool.and_false, Bool.true_and]
    go_wp2
    go_ret
    exact ⟨ret_bool HR.out.symm, HBl.out x2⟩
  go_wp2_with fail
  refine (KT.out _).mono ?_
  rintro e w3 ⟨rfl, hb⟩
  obtain ⟨x3, rfl⟩ := x2.next hb
  clear hb
  cases b3
  · have HR : Hid (ans = false) := by unfold Hid; rw [RB.out]; simp only [Bool.false_and, Bool.and_false, Bool.true_and]
    go_wp2
    go_ret
    exact ⟨ret_bool HR.out.symm, HBl.out x3⟩
  by_cases hft : f ≤ t
  case neg =>
    have q1 : decide (f ≤ t) = false := decide_eq_false hft
    have HR : Hid (ans = false) := by unfold Hid; rw [RB.out, HO.out (by omega)]; simp only [Bool.false_and, Bool.true_and]
    go_wp2
    go_ret
    exact ⟨ret_bool HR.out.symm, HBl.out x3⟩
  go_wp2_with fail
  refine (KS.out _ (HBl.out x3)).mono ?_
  rintro e w4 ⟨rfl, hb⟩
  obtain ⟨x4, rfl⟩ := x3.next hb
  clear hb
  cases b4
  · have HR : Hid (ans = false) := by unfold Hid; rw [RB.out]; simp only [Bool.false_and, Bool.and_false, Bool.true_and]
    go_wp2
    go_ret
    exact ⟨ret_bool HR.out.symm, HBl.out x4⟩
  go_wp2_with fail
  refine (KP.out _ (HBl.out x4)).mono ?_
  rintro e w5 ⟨rfl, hb⟩
  obtain ⟨x5, rfl⟩ := x4.next hb
  clear hb
  cases b5
  · have HR : Hid (ans = false) := by unfold Hid; rw [RB.out]; simp only [Bool.false_and, Bool.and_false, Bool.true_and]
    go_wp2
    go_ret
    exact ⟨ret_bool HR.out.symm, HBl.out x5⟩
  go_wp2_with fail
  refine (KR.out _ (HBl.out x5)).mono ?_
  rintro e w6 ⟨rfl, hb⟩
  obtain ⟨x6, rfl⟩ := x5.next hb
  clear hb
  cases b6
  · have HR : Hid (ans = false) := by unfold Hid; rw [RB.out]; simp only [Bool.false_and, Bool.and_false, Bool.true_and]
    go_wp2
    go_ret
    exact ⟨ret_bool HR.out.symm, HBl.out x6⟩
  have HQ : Hid (ans = ruleB ru) := by unfold Hid; rw [RB.out]; simp only [Bool.true_and]
  clear RB HO KN KF KT KS KP KR
  by_cases h0 : ru = 0
  · subst h0
    have HR : Hid (ans = true) := HQ.out
    go_wp2
    go_ret
    exact ⟨ret_bool HR.out.symm, HBl.out x6⟩
  by_cases h1 : ru = 1
  · subst h1
    have HR : Hid (ans = true) := HQ.out
    go_wp2
    go_ret
    exact ⟨ret_bool HR.out.symm, HBl.out x6⟩
  have HR : Hid (ans = false) := by unfold Hid; rw [HQ.out, ruleB, decide_eq_false h0, decide_eq_false h1]; rfl
  have q2 : (ru == 0) = false := by simp [h0]
  have q3 : (ru == 1) = false := by simp [h1]
  go_wp2
  go_ret
  exact ⟨ret_bool HR.out.symm, HBl.out x6⟩
end Go.Proofs.YtkinapfoigibcaaGreatDoor.ctr
