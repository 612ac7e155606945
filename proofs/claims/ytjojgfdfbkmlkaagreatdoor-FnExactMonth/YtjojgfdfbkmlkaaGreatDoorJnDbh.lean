/- Contracts of the model's l09Full and Tiles. Contracts of the model's l09Segs and l09Patches. Contracts of both RegimeOk: they answer one plain function. Lists of ints in rows of their own ('MovRow': in a block that was not there in w; 'IntRow': anywhere), and the contracts of the laws' own helpers over lists of ints (eqIntS, sameInts, markIntS, heldIntS): two lists alike are told alike; marks are written into a list's own row, and found there again; nothing else turns. The state of a loop that puts a list of ints together by append: they lie in a row of their own. Contracts of both Changes: in a row of its own, the first days of all segments but the first. Contracts of both SegAt and both PatchAt: the number of the first segment that has the day, of the first patch of the day; -1 for none. Plain facts on right regimes (each day of From .. To is in a segment, no other day is; their changes rise) and the contract of the laws' rising. Plain facts on a regime as it is drawn: segments that stand one behind the other tile, and such a regime is right. Plain laws of where a year begins, of no program: the day on which a year of a style begins, which year holds a day, which days come twice in a year, in which years of 1 January a month's day of a year stands. -/
import Derived.Test.YtjojgfdfbkmlkaaGreatDoorSrtSpecD
import Derived.Test.YtjojgfdfbkmlkaaGreatDoorJnDba
import Derived.Test.YtjojgfdfbkmlkaaGreatDoorJnDbb
import Derived.Test.YtjojgfdfbkmlkaaGreatDoorJnDbf
import Derived.Test.YtjojgfdfbkmlkaaGreatDoorJnDac
import Derived.Laws.AppendOwn
import Derived.PlainAid
import Derived.Test.YtjojgfdfbkmlkaaGreatDoorJnDak
import Derived.Test.YtjojgfdfbkmlkaaGreatDoorJnDas
import Derived.Test.YtjojgfdfbkmlkaaGreatDoorJnDav
namespace Go.Proofs.YtjojgfdfbkmlkaaGreatDoor.ctr
open Go.RowKit
structure Ful1 (w : World) (L : List Seg) (k q c : Nat) (wr : World) : Prop where
  row : PRow segK 92 wr q c ((L.take k).filter hasDayB)
  lo : w.heap.size ≤ q
  below : Below w.heap.size w wr
theorem Ful1.len {w : World} {L : List Seg} {k q c : Nat} {wr : World} (_ : Ful1 w L k q c wr) : ((L.take k).filter hasDayB).length ≤ k := by
  have := List.length_filter_le hasDayB (L.take k)
  have h2 : (L.take k).length ≤ k := by simp; omega
  omega
theorem Ful1.skip {w : World} {L : List Seg} {k q c : Nat} {wr x : World} (h : Ful1 w L k q c wr) (hx : Below wr.heap.size wr x) (hk : k < L.length) (hd : hasDayB (sgA L k) = false) : Ful1 w L (k + 1) q c x ∧ (L.take (k + 1)).filter hasDayB = (L.take k).filter hasDayB := by
  have e := filter_snoc (p := hasDayB) hk
  rw [hd] at e
  simp only [Bool.false_eq_true, if_false, List.append_nil] at e
  exact ⟨⟨by rw [e]; exact h.row.below hx h.row.lt, h.lo, h.below.trans (hx.mono h.below.size)⟩, e⟩
theorem Ful1.take {w : World} {L : List Seg} {k q c q' c' : Nat} {wr x w2 : World} {o : Obj} (h : Ful1 w L k q c wr) (hx : Below wr.heap.size wr x) (hk : k < L.length) (hd : hasDayB (sgA L k) = true)
    (hown : w2.ownsRow w.heap.size 92 5 (.slice (some ⟨q', 0, none⟩) (((L.take k).filter hasDayB).length + 1) c') (((L.take k).filter hasDayB).length + 1) (icells segK ((L.take k).filter hasDayB) ++ icell segK (sgA L k))) (hgrow : (x.alloc o).grownBy w2 (some q)) (hat : q = q' ∨ q' = x.heap.size + 1) : Ful1 w L (k + 1) q' c' w2 ∧ ((L.take (k + 1)).filter hasDayB).length = ((L.take k).filter hasDayB).length + 1 := by
  have e := filter_snoc (p := hasDayB) hk
  rw [hd] at e
  simp only [if_true] at e
  have hb : Below w.heap.size w x := h.below.trans (hx.mono h.below.size)
  have hlen : ((L.take (k + 1)).filter hasDayB).length = ((L.take k).filter hasDayB).length + 1 := by rw [e]; simp
  obtain ⟨g2, c2, e2, _, hP⟩ := PRow.of_owns (K := segK) (T := 92) (w := w2) (base := w.heap.size) (L := (L.take (k + 1)).filter hasDayB) (v := .slice (some ⟨q', 0, none⟩) (((L.take k).filter hasDayB).length + 1) c') (by
    rw [hlen, e, icells_app, show icells segK [sgA L k] = icell segK (sgA L k) by simp [icells]]
    exact hown) (by rw [hlen]; omega)
  have e3 : q' = g2 ∧ c' = c2 := by
    have := e2
    rw [hlen] at this
    simpa using this
  obtain ⟨rfl, rfl⟩ := e3
  refine ⟨⟨hP, ?_, ?_⟩, hlen⟩
  · rcases hat with q | q
    · rw [← q]; exact h.lo
    · have := hb.size; omega
  · exact (hb.alloc hb.size o).trans (below_grown2 hgrow (by rw [World.size_alloc]; have := hb.size; omega) (fun k e => by cases e; exact h.lo))
set_option maxRecDepth 100000 in
set_option maxHeartbeats 4000000 in
theorem specFull (v : Value) (l : List Seg) (w : World) (h : IRow segK w v l) (hl : l.length ≤ 1048576) : Calls Tryz.prog 232 #[v] w fun e w' => ∃ o, e = .returned o ∧ SNew w w' o (fullS l) ∧ Below w.heap.size w w' := by
  obtain ⟨i0, hi, he⟩ := Option.map_eq_some_iff.1 info_seg
  simp only [Prod.mk.injEq] at he
  obtain ⟨hz0, hz1, hz2⟩ := he
  have hb0 : Below w.heap.size w (w.alloc (.cells #[] 92)) := (Below.refl _ _).alloc (Nat.le_refl _) _
  have KS := hideP (specSorted v l _ (h.below hb0) hl)
  have HB0 := hideP hb0
  obtain ⟨ad, ca, rfl, hca, hcm, _⟩ := h
  have hsl := sortS_len l
  have HF : Hid (fullS l = (sortS l).filter hasDayB) := rfl
  obtain ⟨N, hN⟩ : ∃ N, N = (sortS l).length := ⟨_, rfl⟩
  have hNl : N ≤ 1048576 := by omega
  have HNl := hideP hN
  clear hb0 hsl hN
  go_enter Tryz.func232, Tryz.ntmps232
  go_wp2_with fail
  refine KS.out.mono ?_
  rintro e w1 ⟨o, rfl, ⟨gs, cs, rfl, hgs, hP⟩, hB⟩
  have HP := hideP hP
  have HB := hideP hB
  have hcs : N ≤ cs := by obtain ⟨_, _, _, q, _⟩ := hP; rw [HNl.out]; exact q
  have hcsm : cs ≤ 2 ^ 63 - 1 := by obtain ⟨_, _, _, _, q, _⟩ := hP; exact q
  have hgs1 := hideP hP.lt
  have S0 : Hid (Ful1 w (sortS l) 0 w.heap.size 0 w1) := by
    refine ⟨⟨#[], ?_, rfl, by simp, by unfold maxLen; omega, fun k hk => by simp at hk⟩, Nat.le_refl _, HB0.out.trans (hB.mono HB0.out.size)⟩
    exact (Blk.new w _ _).below hB (by rw [World.size_alloc]; omega)
  have hne : gs ≠ w.heap.size := by rw [World.size_alloc] at hgs; omega
  rw [← HNl.out]
  have HRow : Hid (∀ k, k < N → IAt segK w1 gs k (sgA (sortS l) k)) := fun k hk => hP.at (by rw [← HNl.out]; exact hk)
  have HLo : Hid (w.heap.size + 1 ≤ gs) := by rw [World.size_alloc] at hgs; exact hgs
  clear hP hB hgs
  go_wp2
  go_loopw [3, 5] (fun o i wr => ∃ (k q c : Nat), k ≤ N ∧ i = .int .i64 (k : Int) ∧ o = .slice (some ⟨q, 0, none⟩) ((((sortS l).take k).filter hasDayB).length) c ∧ q ≠ gs ∧ Ful1 w (sortS l) k q c wr ∧ (∀ k, k < N → IAt segK wr gs k (sgA (sortS l) k)) ∧ gs < wr.heap.size) (fun _ i _ => N - (intOf i).toNat)
  case atStart => exact ⟨0, _, _, Nat.zero_le _, rfl, by simp, Ne.symm hne, S0.out, HRow.out, hgs1.out⟩
  case round =>
    obtain ⟨k, q, c, hk, rfl, rfl, hq, hF, hR, hgl⟩ := hrel
    have HF1 := hideP hF
    have HR1 := hideP hR
    clear hF hR S0
    by_cases hlt : k < N
    · have hkL : Hid (k < (sortS l).length) := by unfold Hid; rw [← HNl.out]; exact hlt
      have HC : Hid (∀ y : Later wr, IAt segK y.w gs k (sgA (sortS l) k)) := fun y => (HR1.out k hlt).below y.below hgl
      have e0 : ∀ y : Later wr, y.w.cell? ⟨gs, k * 5, none⟩ = some (.int .i64 (sgA (sortS l) k).fr) := fun y => (HC.out y).seg.1
      have e1 : ∀ y : Later wr, y.w.cell? ⟨gs, k * 5 + 1, none⟩ = some (.int .i64 (sgA (sortS l) k).to) := fun y => (HC.out y).seg.2.1
      have e2 : ∀ y : Later wr, y.w.cell? ⟨gs, k * 5 + 2, none⟩ = some (.int .i64 (sgA (sortS l) k).cal) := fun y => (HC.out y).seg.2.2.1
      have e3 : ∀ y : Later wr, y.w.cell? ⟨gs, k * 5 + 3, none⟩ = some (.int .i64 (sgA (sortS l) k).sty) := fun y => (HC.out y).seg.2.2.2.1
      have e4 : ∀ y : Later wr, y.w.cell? ⟨gs, k * 5 + 4, none⟩ = some (.int .i64 (sgA (sortS l) k).off) := fun y => (HC.out y).seg.2.2.2.2
      have hm := HF1.out.len
      have HT : Hid (∀ (x : Later wr) w2 (o : Obj) q' c', hasDayB (sgA (sortS l) k) = true → w2.ownsRow w.heap.size 92 5 (.slice (some ⟨q', 0, none⟩) ((((sortS l).take k).filter hasDayB).length + 1) c') ((((sortS l).take k).filter hasDayB).length + 1) (icells segK (((sortS l).take k).filter hasDayB) ++ icell segK (sgA (sortS l) k)) → (x.w.alloc o).grownBy w2 (some q) → (q = q' ∨ q' = x.w.heap.size + 1) → (Ful1 w (sortS l) (k + 1) q' c' w2 ∧ (((sortS l).take (k + 1)).filter hasDayB).length = (((sortS l).take k).filter hasDayB).length + 1) ∧ (∀ k, k < N → IAt segK w2 gs k (sgA (sortS l) k)) ∧ gs < w2.heap.size ∧ q' ≠ gs) := fun x w2 o q' c' hd h1 h2 h3 => by
        refine ⟨HF1.out.take x.below hkL.out hd h1 h2 h3, fun k' hk' j z hz => ?_, ?_, ?_⟩
        · have h4 := ((HR1.out k' hk').below x.below hgl) j z hz
          have hgx : gs < x.w.heap.size := Nat.lt_of_lt_of_le hgl x.below.size
          refine h2.cell (a := ⟨gs, k' * segK.m + j, none⟩) ?_ (fun e => hq (by simpa using e.symm))
          exact Later.at h4 ⟨x.w.alloc o, (Below.refl _ _).alloc (Nat.le_refl _) _⟩
        · have := h2.size; rw [World.size_alloc] at this; have := x.below.size; omega
        · rcases h3 with h3 | h3
          · rw [← h3]; exact hq
          · have := x.below.size; omega
      have HSk : Hid (∀ x : Later wr, hasDayB (sgA (sortS l) k) = false → (Ful1 w (sortS l) (k + 1) q c x.w ∧ ((sortS l).take (k + 1)).filter hasDayB = ((sortS l).take k).filter hasDayB) ∧ (∀ k, k < N → IAt segK x.w gs k (sgA (sortS l) k)) ∧ gs < x.w.heap.size) := fun x hd => ⟨HF1.out.skip x.below hkL.out hd, fun k' hk' => (HR1.out k' hk').below x.below hgl, Nat.lt_of_lt_of_le hgl x.below.size⟩
      have HOw : Hid (∀ (x : Later wr) (o : Obj), (x.w.alloc o).ownsRow w.heap.size 92 5 (.slice (some ⟨q, 0, none⟩) ((((sortS l).take k).filter hasDayB).length) c) ((((sortS l).take k).filter hasDayB).length) (icells segK (((sortS l).take k).filter hasDayB))) := fun x o => ((HF1.out.row.below x.below HF1.out.row.lt).owns (by decide) HF1.out.lo).alloc o
      have hsz : Hid (w.heap.size ≤ wr.heap.size) := HF1.out.below.size
      obtain ⟨m, hmE⟩ : ∃ m, m = (((sortS l).take k).filter hasDayB).length := ⟨_, rfl⟩
      rw [← hmE] at HT hm HOw ⊢
      have HmE := hideP hmE
      clear hmE HC
      obtain ⟨s, hs⟩ : ∃ s, s = sgA (sortS l) k := ⟨_, rfl⟩
      rw [← hs] at e0 e1 e2 e3 e4 HT HSk
      have Hs := hideP hs
      clear hs
      by_cases hd : s.fr ≤ s.to
      · have hd' : decide (s.fr ≤ s.to) = true := decide_eq_true hd
        go_wp2_with fail
        refine wp_region_later (W := wr) (Below.refl _ _) (by kernel_rfl) (by kernel_rfl) ?_
        repeat (go_big_quiet_step (fail))
        refine wpQuiet_nil ?_
        intro _ hw'
        obtain ⟨x, rfl⟩ := hw'
        have hown := hideP (HOw.out x (.cells (icell segK s).toArray 92))
        have hnews := hideP (news_seg x.w s 92)
        have hbase : Hid (w.heap.size ≤ (x.w.alloc (.cells (icell segK s).toArray 92)).heap.size) := by
          unfold Hid
          rw [World.size_alloc]
          have := hsz.out
          have := x.below.size
          omega
        go_wp2_with (at_builtin; refine wpList_append_lies _ rfl _ _ 32 rfl w.heap.size 92 i0 (.agg #[.int .i64 0, .int .i64 0, .int .i64 0, .int .i64 0, .int .i64 0]) 5 40 Tryz.underlying32 hi hz0 hz1 hz2 rfl (by decide) _ m _ rfl hown.out ⟨x.w.heap.size, 0, none⟩ 1 1 (icell segK s) rfl rfl hnews.out (by simp [icell, Value.oneCell']) (by omega) (by unfold maxLen; omega) (by omega) hbase.out (x.w.heap.size + 1) (by rw [World.size_alloc]) ?_; intro q' c' w2 hown2 hgrow hat hlt2; have hown3 := hideP hown2; have hgrow3 := hideP hgrow; have hat3 := hideP hat; clear hown2 hgrow hat hlt2)
        have hat4 : q = q' ∨ q' = x.w.heap.size + 1 := by
          rcases hat3.out with e | e
          · exact .inl (Option.some.inj e)
          · exact .inr e
        have O2 := hideP (HT.out x w2 _ q' c' (decide_eq_true hd) hown3.out hgrow3.out hat4)
        exact ⟨⟨k + 1, q', c', by omega, by go_num, by rw [O2.out.1.2], O2.out.2.2.2, O2.out.1.1, O2.out.2.1, O2.out.2.2.1⟩, by simp [intOf]; omega⟩
      · have hd' : decide (s.fr ≤ s.to) = false := decide_eq_false hd
        go_wp2_with fail
        refine wp_region_later (W := wr) (Below.refl _ _) (by kernel_rfl) (by kernel_rfl) ?_
        repeat (go_big_quiet_step (fail))
        refine wpQuiet_nil ?_
        intro _ hw'
        obtain ⟨x, rfl⟩ := hw'
        have O2 := hideP (HSk.out x hd')
        go_wp2_with fail
        exact ⟨⟨k + 1, q, c, by omega, by go_num, by rw [O2.out.1.2, HmE.out], hq, O2.out.1.1, O2.out.2.1, O2.out.2.2⟩, by simp [intOf]; omega⟩
    · have HE : Hid (SNew w wr (.slice (some ⟨q, 0, none⟩) ((((sortS l).take k).filter hasDayB).length) c) (fullS l)) := by
        have hkl : (sortS l).take k = sortS l := List.take_of_length_le (by rw [← HNl.out]; omega)
        have hr := HF1.out.row
        rw [hkl] at hr ⊢
        exact ⟨q, c, rfl, HF1.out.lo, hr⟩
      have HB2 := hideP HF1.out.below
      go_wp2
      go_ret
      exact ⟨_, rfl, HE.out, HB2.out⟩
theorem tile_one {f t : Int} {L : List Seg} (h : sharedP L) : tileC f t L = 1 := by unfold tileC; rw [if_pos (shared_yes h)]
theorem tile_two {f t : Int} {L : List Seg} (h : ¬ sharedP L) (hb : bareS t L f = true) : tileC f t L = 2 := by unfold tileC; rw [shared_no h, if_neg (by simp), if_pos hb]
theorem tile_no {f t : Int} {L : List Seg} (h : ¬ sharedP L) (hb : bareS t L f = false) : tileC f t L = 0 := by unfold tileC; rw [shared_no h, if_neg (by simp), hb, if_neg (by simp)]
set_option maxRecDepth 100000 in
set_option maxHeartbeats 4000000 in
theorem specTiles (f t : Int) (v : Value) (l : List Seg) (w : World) (h : IRow segK w v l) (hl : l.length ≤ 1048576) (hf : -9223372036854775808 ≤ f) (ht : t ≤ 9223372036854775807) : Calls Tryz.prog 172 #[.int .i64 f, .int .i64 t, v] w fun e w' => e = .returned (.int .i64 (tilesZ f t l)) ∧ Below w.heap.size w w' := by
  have KF := hideP (specFull v l w h hl)
  have hfl := full_len l
  unfold tilesZ
  obtain ⟨ad, ca, rfl, _⟩ := h
  generalize fullS l = L at *
  obtain ⟨R, hR⟩ : ∃ R, R = tileC f t L := ⟨_, rfl⟩
  have HR := hideP hR
  rw [← hR]
  obtain ⟨N, hN⟩ : ∃ N, N = L.length := ⟨_, rfl⟩
  have HN := hideP hN
  have hNl : N ≤ 1048576 := by omega
  clear hR hN hfl
  go_enter Tryz.func172, Tryz.ntmps172
  go_wp2_with fail
  refine KF.out.mono ?_
  rintro e w1 ⟨o, rfl, ⟨g, c, rfl, hg, hP⟩, hB⟩
  have HP := hideP hP
  have HB := hideP hB
  have HC : Hid (∀ (y : Later w1) k, k < N → y.w.cell? ⟨g, k * 5, none⟩ = some (.int .i64 (sgA L k).fr) ∧ y.w.cell? ⟨g, k * 5 + 1, none⟩ = some (.int .i64 (sgA L k).to)) := fun y k hk => by
    have := ((hP.at (k := k) (by rw [← HN.out]; exact hk)).below y.below hP.lt).seg
    exact ⟨this.1, this.2.1⟩
  have hcs : N ≤ c := by obtain ⟨_, _, _, q, _⟩ := hP; rw [HN.out]; exact q
  have hcsm : c ≤ 2 ^ 63 - 1 := by obtain ⟨_, _, _, _, q, _⟩ := hP; exact q
  rw [← HN.out]
  clear hP hB hg
  go_wp2
  go_loopw [8] (fun i wr => ∃ k : Nat, i = .int .i64 ((k : Int) + 1) ∧ k ≤ N ∧ Hid (NoSh L N k) ∧ ∃ y : Later w1, wr = y.w) (fun i _ => N + 1 - (intOf i).toNat)
  case atStart => exact ⟨0, rfl, Nat.zero_le _, fun j h1 h2 => by omega, ⟨w1, Below.refl _ _⟩, rfl⟩
  case round =>
    obtain ⟨k, rfl, hk, HJ, y, rfl⟩ := hrel
    by_cases hlt : k + 1 < N
    · have hlt' : (k : Int) + 1 < (N : Int) := by omega
      have e1 : (k : Int) + 1 - 1 = (k : Int) := by omega
      have a0 : ∀ y : Later w1, y.w.cell? ⟨g, (k + 1) * 5, none⟩ = some (.int .i64 (sgA L (k + 1)).fr) := fun y => (HC.out y (k + 1) hlt).1
      have a1 : ∀ y : Later w1, y.w.cell? ⟨g, k * 5 + 1, none⟩ = some (.int .i64 (sgA L k).to) := fun y => (HC.out y k (by omega)).2
      have HY : Hid ((sgA L (k + 1)).fr ≤ (sgA L k).to → R = 1) := fun q => by rw [HR.out]; exact tile_one ⟨k + 1, by omega, by rw [← HN.out]; exact hlt, q⟩
      have HX : Hid (¬ (sgA L (k + 1)).fr ≤ (sgA L k).to → NoSh L N (k + 1)) := fun q j h1 h2 h3 => by
        by_cases e : j = k + 1
        · subst e; exact q
        · exact HJ.out j h1 (by omega) h3
      clear HJ
      generalize (sgA L (k + 1)).fr = p at *
      generalize (sgA L k).to = q at *
      by_cases hpq : p ≤ q
      · have hd : decide (p ≤ q) = true := decide_eq_true hpq
        have HE := hideP (HY.out hpq)
        go_wp2_with fail
        refine wp_region_later (W := w1) y.below (by kernel_rfl) (by kernel_rfl) ?_
        repeat (go_big_quiet_step (fail))
        refine wpQuiet_nil ?_
        intro _ hw'
        obtain ⟨x, rfl⟩ := hw'
        go_wp2_with fail
        go_ret
        exact ⟨ret_int HE.out.symm, HB.out.trans (x.below.mono HB.out.size)⟩
      · have hd : decide (p ≤ q) = false := decide_eq_false hpq
        have HE := hideP (HX.out hpq)
        go_wp2_with fail
        refine wp_region_later (W := w1) y.below (by kernel_rfl) (by kernel_rfl) ?_
        repeat (go_big_quiet_step (fail))
        refine wpQuiet_nil ?_
        intro _ hw'
        obtain ⟨x, rfl⟩ := hw'
        go_wp2
        exact ⟨⟨k + 1, by go_num, by omega, HE.out, x, rfl⟩, by simp [intOf]; omega⟩
    · have hlt' : ¬ ((k : Int) + 1 < (N : Int)) := by omega
      have HS : Hid (¬ sharedP L) := fun ⟨i, h1, h2, h3⟩ => HJ.out i h1 (by rw [← HN.out] at h2; omega) (by rw [HN.out]; exact h2) h3
      clear HJ
      go_wp2
      go_loopw [9, 10] (fun n i wr => ∃ (k : Nat) (z : Int), k ≤ N ∧ i = .int .i64 (k : Int) ∧ n = .int .i64 z ∧ -9223372036854775808 ≤ z ∧ Hid (bareS t (L.drop k) z = bareS t L f) ∧ ∃ y : Later w1, wr = y.w) (fun _ i _ => N - (intOf i).toNat)
      case atStart => exact ⟨0, f, Nat.zero_le _, rfl, rfl, hf, by simp [Hid], y, rfl⟩
      case round =>
        obtain ⟨k, z, hk, rfl, rfl, hz, HF, y, rfl⟩ := hrel
        by_cases hkN : k < N
        case neg =>
          have hkN' : ¬ ((k : Int) < (N : Int)) := by omega
          have HE := hideP (bareS_end («to» := t) (n := z) (L := L) (k := k) (by rw [← HN.out]; omega))
          by_cases hzt : z ≤ t
          · have HQ : Hid (R = 2) := by unfold Hid; rw [HR.out]; exact tile_two HS.out (by rw [← HF.out, HE.out]; exact decide_eq_true hzt)
            have hd : decide (z ≤ t) = true := decide_eq_true hzt
            go_wp2
            go_ret
            exact ⟨ret_int HQ.out.symm, HB.out.trans (y.below.mono HB.out.size)⟩
          · have HQ : Hid (R = 0) := by unfold Hid; rw [HR.out]; exact tile_no HS.out (by rw [← HF.out, HE.out]; exact decide_eq_false hzt)
            have hd : decide (z ≤ t) = false := decide_eq_false hzt
            go_wp2
            go_ret
            exact ⟨ret_int HQ.out.symm, HB.out.trans (y.below.mono HB.out.size)⟩
        have hkN' : (k : Int) < (N : Int) := by omega
        have HA := hideP (bareS_at («to» := t) (n := z) (L := L) (k := k) (by rw [← HN.out]; exact hkN))
        have a0 : y.w.cell? ⟨g, k * 5, none⟩ = some (.int .i64 (sgA L k).fr) := (HC.out y k hkN).1
        have a1 : y.w.cell? ⟨g, k * 5 + 1, none⟩ = some (.int .i64 (sgA L k).to) := (HC.out y k hkN).2
        generalize sgA L k = s at *
        by_cases hzt : z ≤ t
        case neg =>
          have HQ : Hid (R = 0) := by unfold Hid; rw [HR.out]; exact tile_no HS.out (by rw [← HF.out, HA.out, if_neg hzt])
          have hd : decide (z ≤ t) = false := decide_eq_false hzt
          go_wp2
          go_ret
          exact ⟨ret_int HQ.out.symm, HB.out.trans (y.below.mono HB.out.size)⟩
        have hd : decide (z ≤ t) = true := decide_eq_true hzt
        by_cases h1 : s.to < z
        · have HQ : Hid (bareS t (L.drop (k + 1)) z = bareS t L f) := by unfold Hid; rw [← HF.out, HA.out, if_pos hzt, if_pos h1]
          have hd1 : decide (s.to < z) = true := decide_eq_true h1
          go_wp2
          exact ⟨⟨k + 1, z, by omega, by go_num, rfl, hz, HQ.out, y, rfl⟩, by simp [intOf]; omega⟩
        have hd1 : decide (s.to < z) = false := decide_eq_false h1
        by_cases h2 : z < s.fr
        · have HQ : Hid (R = 2) := by unfold Hid; rw [HR.out]; exact tile_two HS.out (by rw [← HF.out, HA.out, if_pos hzt, if_neg h1, if_pos h2])
          have hd2 : decide (z < s.fr) = true := decide_eq_true h2
          go_wp2
          go_ret
          exact ⟨ret_int HQ.out.symm, HB.out.trans (y.below.mono HB.out.size)⟩
        have hd2 : decide (z < s.fr) = false := decide_eq_false h2
        by_cases h3 : t ≤ s.to
        · have HQ : Hid (R = 0) := by unfold Hid; rw [HR.out]; exact tile_no HS.out (by rw [← HF.out, HA.out, if_pos hzt, if_neg h1, if_neg h2, if_pos h3])
          have hd3 : decide (t ≤ s.to) = true := decide_eq_true h3
          go_wp2
          go_ret
          exact ⟨ret_int HQ.out.symm, HB.out.trans (y.below.mono HB.out.size)⟩
        · have HQ : Hid (bareS t (L.drop (k + 1)) (s.to + 1) = bareS t L f) := by unfold Hid; rw [← HF.out, HA.out, if_pos hzt, if_neg h1, if_neg h2, if_neg h3]
          have hd3 : decide (t ≤ s.to) = false := decide_eq_false h3
          go_wp2
          exact ⟨⟨k + 1, s.to + 1, by omega, by go_num, by go_num, by omega, HQ.out, y, rfl⟩, by simp [intOf]; omega⟩
end Go.Proofs.YtjojgfdfbkmlkaaGreatDoor.ctr
namespace Go.Proofs.YtjojgfdfbkmlkaaGreatDoor.ctr
open Go.RowKit
set_option maxRecDepth 100000 in
set_option maxHeartbeats 2000000 in
theorem specSegs9 (v : Value) (r : Rgm) (w : World) (h : GRow w v r) (hf : -9223372036854775808 ≤ r.fr) (ht : r.to ≤ 9223372036854775807) : Calls Tryz.prog 106 #[v] w fun e w' => e = .returned (.bool (segsB r.fr r.to r.segs)) ∧ Below w.heap.size w w' := by
  obtain ⟨nm, f, t, l, ps, rs, ru⟩ := r
  obtain ⟨v1, v2, v3, rfl, _, x1, x2, x3⟩ := h
  dsimp only at x1 x2 x3
  obtain ⟨W0, hW0, d0, d1, d2, d3, d4, d5, d6, hBl⟩ := seven_box w (.string nm) (.int .i64 f) (.int .i64 t) v1 v2 v3 (.int .i64 ru) 36
  have hrow := x1.below (hBl ⟨W0, Below.refl _ _⟩)
  have KT : Hid (∀ y : Later W0, l.length ≤ 1048576 → Calls Tryz.prog 172 #[.int .i64 f, .int .i64 t, v1] y.w fun e w' => e = .returned (.int .i64 (tilesZ f t l)) ∧ Below y.w.heap.size y.w w') := fun y h1 => specTiles f t v1 l y.w (hrow.below y.below) h1 hf ht
  obtain ⟨a1, c1, rfl, _⟩ := x1
  obtain ⟨a2, c2, rfl, _⟩ := x2
  obtain ⟨a3, c3, rfl, _⟩ := x3
  obtain ⟨a, c, ev, hl, hm, H⟩ := hrow
  cases ev
  have HK := hideP H
  have HW0 := hideP hW0
  have HBl := hideP hBl
  unfold maxLen at hm
  dsimp only
  clear H hW0 hBl
  clear hf ht
  have KL : Hid (∀ W, Calls Tryz.prog 96 #[.int .i64 (l.length : Int), .int .i64 1, .int .i64 20] W fun e w' => e = .returned (.bool (inB (l.length : Int) 1 20)) ∧ w' = W) := fun W => l01In _ _ _ W
  have hst : Hid (Below W0.heap.size W0 W0) := Below.refl _ _
  go_enter Tryz.func106, Tryz.ntmps106
  go_wp2
  rw [← HW0.out]
  go_loopw [3] (fun i wr => ∃ k : Nat, k ≤ l.length ∧ i = .int .i64 (k : Int) ∧ Hid (allTo (segFit f t l) k = true) ∧ ∃ y : Later W0, wr = y.w) (fun i _ => l.length - (intOf i).toNat)
  case atStart => exact ⟨0, Nat.zero_le _, rfl, rfl, ⟨W0, hst.out⟩, rfl⟩
  case round =>
    obtain ⟨k, hk, rfl, HF, y, rfl⟩ := hrel
    by_cases hlt : k < l.length
    · obtain ⟨g, rfl, hg, x⟩ := HK.out k hlt
      obtain ⟨e0, e1, e2, e3, e4⟩ := (x.below y.below hg).seg
      obtain ⟨W1, hW1, c10, c11, c12, c13, c14, hBl1⟩ := seg_box y.w (atK segK l k).fr (atK segK l k).to (atK segK l k).cal (atK segK l k).sty (atK segK l k).off 92
      have hY : ∀ z : Later W1, Below W0.heap.size W0 z.w := fun z => y.on (hBl1 z)
      have D1 : ∀ z : Later W1, z.w.cell? ⟨w.heap.size, 1, none⟩ = some (.int .i64 f) := fun z => d1 ⟨z.w, hY z⟩
      have D2 : ∀ z : Later W1, z.w.cell? ⟨w.heap.size, 2, none⟩ = some (.int .i64 t) := fun z => d2 ⟨z.w, hY z⟩
      have D3 : ∀ z : Later W1, z.w.cell? ⟨w.heap.size, 3, none⟩ = some (.slice (some ⟨g, 0, none⟩) l.length c1) := fun z => d3 ⟨z.w, hY z⟩
      have HP : Hid (∀ j, k = j + 1 → ∀ z : Later W1, z.w.cell? ⟨g, j * 5, none⟩ = some (.int .i64 (atK segK l j).fr)) := fun j e z => by
        obtain ⟨g', e', hg', x'⟩ := HK.out j (by omega)
        cases e'
        exact ((x'.below (hY z) hg').seg).1
      have F1 := hideP (fun h => segs_bad (f := f) (t := t) (k := k) (fit_no1 h) hlt)
      have F2 := hideP (fun h => segs_bad (f := f) (t := t) (k := k) (fit_no2 h) hlt)
      have F3 := hideP (fun h => segs_bad (f := f) (t := t) (k := k) (fit_no3 h) hlt)
      have F4 := hideP (fun (j : Nat) (e : k = j + 1) h => segs_bad (f := f) (t := t) (k := k) (fit_no4 e h) hlt)
      have F5 := hideP (fun h1 h2 h3 h4 => allTo_next HF.out (fit_yes (f := f) (t := t) (k := k) h1 h2 h3 h4))
      have HW1 := hideP hW1
      have HY := hideP hY
      clear x hW1 hBl1 hY
      generalize atK segK l k = s at *
      have KO : ∀ y : Later W1, Calls Tryz.prog 171 #[.agg #[.int .i64 s.fr, .int .i64 s.to, .int .i64 s.cal, .int .i64 s.sty, .int .i64 s.off]] y.w fun e w' => e = .returned (.bool (segOkB s)) ∧ Below y.w.heap.size y.w w' := fun y => specSegOk s y.w
      generalize segOkB s = b1 at *
      cases b1
      · have HR := hideP (F1.out rfl)
        go_wp2_with fail
        rw [← HW1.out]
        refine wp_region_later (W := W1) (Below.refl _ _) (by kernel_rfl) (by kernel_rfl) ?_
        repeat (go_big_quiet_step (first | (go_at_call 171; exact calls_later (KO _)) | fail))
        refine wpQuiet_nil ?_
        intro _ hw'
        obtain ⟨u, rfl⟩ := hw'
        go_wp2
        go_ret
        exact ⟨ret_bool HR.out.symm, HBl.out ⟨u.w, HY.out u⟩⟩
      by_cases h2 : f ≤ s.fr
      case neg =>
        have HR := hideP (F2.out (by omega))
        have q3 : decide (s.fr < f) = true := decide_eq_true (by omega)
        go_wp2_with fail
        rw [← HW1.out]
        refine wp_region_later (W := W1) (Below.refl _ _) (by kernel_rfl) (by kernel_rfl) ?_
        repeat (go_big_quiet_step (first | (go_at_call 171; exact calls_later (KO _)) | fail))
        refine wpQuiet_nil ?_
        intro _ hw'
        obtain ⟨u, rfl⟩ := hw'
        go_wp2
        go_ret
        exact ⟨ret_bool HR.out.symm, HBl.out ⟨u.w, HY.out u⟩⟩
      have q3 : decide (s.fr < f) = false := decide_eq_false (by omega)
      by_cases h3 : s.to ≤ t
      case neg =>
        have HR := hideP (F3.out (by omega))
        have q4 : decide (t < s.to) = true := decide_eq_true (by omega)
        go_wp2_with fail
        rw [← HW1.out]
        refine wp_region_later (W := W1) (Below.refl _ _) (by kernel_rfl) (by kernel_rfl) ?_
        repeat (go_big_quiet_step (first | (go_at_call 171; exact calls_later (KO _)) | fail))
        refine wpQuiet_nil ?_
        intro _ hw'
        obtain ⟨u, rfl⟩ := hw'
        go_wp2
        go_ret
        exact ⟨ret_bool HR.out.symm, HBl.out ⟨u.w, HY.out u⟩⟩
      have q4 : decide (t < s.to) = false := decide_eq_false (by omega)
      obtain rfl | ⟨j, rfl⟩ : k = 0 ∨ ∃ j, k = j + 1 := by cases k with | zero => exact .inl rfl | succ j => exact .inr ⟨j, rfl⟩
      · have HN := hideP (F5.out rfl h2 h3 (fun j e => by omega))
        go_wp2_with fail
        rw [← HW1.out]
        refine wp_region_later (W := W1) (Below.refl _ _) (by kernel_rfl) (by kernel_rfl) ?_
        repeat (go_big_quiet_step (first | (go_at_call 171; exact calls_later (KO _)) | fail))
        refine wpQuiet_nil ?_
        intro _ hw'
        obtain ⟨u, rfl⟩ := hw'
        go_wp2
        exact ⟨⟨0 + 1, by omega, by go_num, HN.out, ⟨u.w, HY.out u⟩, rfl⟩, by simp [intOf]; omega⟩
      · have e5 := HP.out j rfl
        have G4 := hideP (F4.out j rfl)
        have G5 := hideP (fun (h4 : (atK segK l j).fr < s.fr) => F5.out rfl h2 h3 (fun i e => (show i = j from by omega) ▸ h4))
        have hj0 : decide ((0 : Int) < (j : Int) + 1) = true := decide_eq_true (by omega)
        clear HP F1 F2 F3 F4 F5
        generalize (atK segK l j).fr = P at *
        by_cases h4 : P < s.fr
        case neg =>
          have HR := hideP (G4.out (by omega))
          have q5 : decide (s.fr ≤ P) = true := decide_eq_true (by omega)
          go_wp2_with fail
          rw [← HW1.out]
          refine wp_region_later (W := W1) (Below.refl _ _) (by kernel_rfl) (by kernel_rfl) ?_
          repeat (go_big_quiet_step (first | (go_at_call 171; exact calls_later (KO _)) | fail))
          refine wpQuiet_nil ?_
          intro _ hw'
          obtain ⟨u, rfl⟩ := hw'
          go_wp2
          go_ret
          exact ⟨ret_bool HR.out.symm, HBl.out ⟨u.w, HY.out u⟩⟩
        have HN := hideP (G5.out h4)
        have q5 : decide (s.fr ≤ P) = false := decide_eq_false (by omega)
        go_wp2_with fail
        rw [← HW1.out]
        refine wp_region_later (W := W1) (Below.refl _ _) (by kernel_rfl) (by kernel_rfl) ?_
        repeat (go_big_quiet_step (first | (go_at_call 171; exact calls_later (KO _)) | fail))
        refine wpQuiet_nil ?_
        intro _ hw'
        obtain ⟨u, rfl⟩ := hw'
        go_wp2
        exact ⟨⟨j + 1 + 1, by omega, by go_num, HN.out, ⟨u.w, HY.out u⟩, rfl⟩, by simp [intOf]; omega⟩
    · have hkn : k = l.length := by omega
      have HA : Hid (allTo (segFit f t l) l.length = true) := by rw [← hkn]; exact HF
      have HR1 := hideP (fun h => segs_end (f := f) (t := t) (l := l) h HA.out)
      have HR0 := hideP (fun h => segs_short (f := f) (t := t) (l := l) h)
      have HL : Hid (inB (l.length : Int) 1 20 = true → l.length ≤ 1048576) := fun h => by
        by_cases hx : l.length ≤ 1048576
        · exact hx
        · rw [inB_false (.inr (by omega))] at h; cases h
      have KC := hideP (fun h => KT.out y (HL.out h))
      clear KT HF
      subst hkn
      generalize inB (l.length : Int) 1 20 = b at *
      generalize tilesZ f t l = Z at *
      go_wp2_with fail
      refine (KL.out _).mono ?_
      rintro e w1 ⟨rfl, rfl⟩
      cases b
      · have HR := hideP (HR0.out rfl)
        go_wp2
        go_ret
        exact ⟨ret_bool HR.out.symm, HBl.out y⟩
      have HR := hideP (HR1.out rfl)
      have KD := hideP (KC.out rfl)
      clear KC HR1 HR0 HL
      go_wp2_with fail
      refine KD.out.mono ?_
      rintro e w2 ⟨rfl, hb⟩
      have HB2 : Hid (Below w.heap.size w w2) := HBl.out ⟨w2, y.on hb⟩
      clear hb
      by_cases hz : Z = 0
      · subst hz
        go_wp2
        go_ret
        exact ⟨ret_bool (by rw [HR.out]; rfl), HB2.out⟩
      · have hz' : (Z == 0) = false := by simp [hz]
        have HR2 : Hid (segsB f t l = false) := by unfold Hid; rw [HR.out]; exact decide_eq_false hz
        go_wp2
        go_ret
        exact ⟨ret_bool HR2.out.symm, HB2.out⟩
set_option maxRecDepth 100000 in
set_option maxHeartbeats 2000000 in
theorem specPatches9 (v : Value) (r : Rgm) (w : World) (h : GRow w v r) : Calls Tryz.prog 107 #[v] w fun e w' => e = .returned (.bool (patsB r.fr r.to r.pats)) ∧ Below w.heap.size w w' := by
  obtain ⟨nm, f, t, ss, l, rs, ru⟩ := r
  obtain ⟨v1, v2, v3, rfl, _, x1, x2, x3⟩ := h
  dsimp only at x1 x2 x3
  obtain ⟨W0, hW0, d0, d1, d2, d3, d4, d5, d6, hBl⟩ := seven_box w (.string nm) (.int .i64 f) (.int .i64 t) v1 v2 v3 (.int .i64 ru) 36
  have hrow := x2.below (hBl ⟨W0, Below.refl _ _⟩)
  obtain ⟨a1, c1, rfl, _⟩ := x1
  obtain ⟨a2, c2, rfl, _⟩ := x2
  obtain ⟨a3, c3, rfl, _⟩ := x3
  obtain ⟨a, c, ev, hl, hm, H⟩ := hrow
  cases ev
  have HK := hideP H
  have HW0 := hideP hW0
  have HBl := hideP hBl
  unfold maxLen at hm
  dsimp only
  clear H hW0 hBl
  have hst : Hid (Below W0.heap.size W0 W0) := Below.refl _ _
  go_enter Tryz.func107, Tryz.ntmps107
  go_wp2
  rw [← HW0.out]
  go_loopw [3] (fun i wr => ∃ k : Nat, k ≤ l.length ∧ i = .int .i64 (k : Int) ∧ Hid (allTo (patFit f t l) k = true) ∧ ∃ y : Later W0, wr = y.w) (fun i _ => l.length - (intOf i).toNat)
  case atStart => exact ⟨0, Nat.zero_le _, rfl, rfl, ⟨W0, hst.out⟩, rfl⟩
  case round =>
    obtain ⟨k, hk, rfl, HF, y, rfl⟩ := hrel
    by_cases hlt : k < l.length
    · obtain ⟨g, rfl, hg, x⟩ := HK.out k hlt
      obtain ⟨e0, e1, e2⟩ := (x.below y.below hg).pat
      obtain ⟨W1, hW1, c10, c11, c12, hBl1⟩ := pat_box y.w (atK patK l k).day (atK patK l k).mon (atK patK l k).dom 98
      have hY : ∀ z : Later W1, Below W0.heap.size W0 z.w := fun z => y.on (hBl1 z)
      have D1 : ∀ z : Later W1, z.w.cell? ⟨w.heap.size, 1, none⟩ = some (.int .i64 f) := fun z => d1 ⟨z.w, hY z⟩
      have D2 : ∀ z : Later W1, z.w.cell? ⟨w.heap.size, 2, none⟩ = some (.int .i64 t) := fun z => d2 ⟨z.w, hY z⟩
      have D3 : ∀ z : Later W1, z.w.cell? ⟨w.heap.size, 4, none⟩ = some (.slice (some ⟨g, 0, none⟩) l.length c2) := fun z => d4 ⟨z.w, hY z⟩
      have HP : Hid (∀ j, k = j + 1 → ∀ z : Later W1, z.w.cell? ⟨g, j * 3, none⟩ = some (.int .i64 (atK patK l j).day)) := fun j e z => by
        obtain ⟨g', e', hg', x'⟩ := HK.out j (by omega)
        cases e'
        exact ((x'.below (hY z) hg').pat).1
      have F1 := hideP (fun h => pats_bad (f := f) (t := t) (k := k) (pfit_no1 h) hlt)
      have F2 := hideP (fun h => pats_bad (f := f) (t := t) (k := k) (pfit_no2 h) hlt)
      have F4 := hideP (fun (j : Nat) (e : k = j + 1) h => pats_bad (f := f) (t := t) (k := k) (pfit_no4 e h) hlt)
      have F5 := hideP (fun h1 h2 h4 => allTo_next HF.out (pfit_yes (f := f) (t := t) (k := k) h1 h2 h4))
      have HW1 := hideP hW1
      have HY := hideP hY
      clear x hW1 hBl1 hY
      generalize atK patK l k = s at *
      have KA : ∀ y : Later W1, Calls Tryz.prog 96 #[.int .i64 s.day, .int .i64 f, .int .i64 t] y.w fun e w' => e = .returned (.bool (inB s.day f t)) ∧ w' = y.w := fun y => l01In _ _ _ y.w
      have KM : ∀ y : Later W1, Calls Tryz.prog 96 #[.int .i64 s.mon, .int .i64 1, .int .i64 12] y.w fun e w' => e = .returned (.bool (inB s.mon 1 12)) ∧ w' = y.w := fun y => l01In _ _ _ y.w
      have KD : ∀ y : Later W1, Calls Tryz.prog 96 #[.int .i64 s.dom, .int .i64 1, .int .i64 31] y.w fun e w' => e = .returned (.bool (inB s.dom 1 31)) ∧ w' = y.w := fun y => l01In _ _ _ y.w
      have HPB : Hid (patB s = (inB s.mon 1 12 && inB s.dom 1 31)) := rfl
      generalize patB s = pb at *
      obtain ⟨s0, s1, s2⟩ := s
      dsimp only at *
      generalize inB s0 f t = b1 at *
      generalize inB s1 1 12 = b2 at *
      generalize inB s2 1 31 = b3 at *
      cases b1
      · have HR := hideP (F2.out rfl)
        go_wp2_with fail
        rw [← HW1.out]
        refine wp_region_later (W := W1) (Below.refl _ _) (by kernel_rfl) (by kernel_rfl) ?_
        repeat (go_big_quiet_step (first | (go_at_call_of 96 s0; exact calls_same (KA _)) | (go_at_call_of 96 s1; exact calls_same (KM _)) | (go_at_call_of 96 s2; exact calls_same (KD _)) | fail))
        refine wpQuiet_nil ?_
        intro _ hw'
        obtain ⟨u, rfl⟩ := hw'
        go_wp2
        go_ret
        exact ⟨ret_bool HR.out.symm, HBl.out ⟨u.w, HY.out u⟩⟩
      cases b2
      · have HR := hideP (F1.out (by rw [HPB.out]; rfl))
        go_wp2_with fail
        rw [← HW1.out]
        refine wp_region_later (W := W1) (Below.refl _ _) (by kernel_rfl) (by kernel_rfl) ?_
        repeat (go_big_quiet_step (first | (go_at_call_of 96 s0; exact calls_same (KA _)) | (go_at_call_of 96 s1; exact calls_same (KM _)) | (go_at_call_of 96 s2; exact calls_same (KD _)) | fail))
        refine wpQuiet_nil ?_
        intro _ hw'
        obtain ⟨u, rfl⟩ := hw'
        go_wp2
        go_ret
        exact ⟨ret_bool HR.out.symm, HBl.out ⟨u.w, HY.out u⟩⟩
      cases b3
      · have HR := hideP (F1.out (by rw [HPB.out]; rfl))
        go_wp2_with fail
        rw [← HW1.out]
        refine wp_region_later (W := W1) (Below.refl _ _) (by kernel_rfl) (by kernel_rfl) ?_
        repeat (go_big_quiet_step (first | (go_at_call_of 96 s0; exact calls_same (KA _)) | (go_at_call_of 96 s1; exact calls_same (KM _)) | (go_at_call_of 96 s2; exact calls_same (KD _)) | fail))
        refine wpQuiet_nil ?_
        intro _ hw'
        obtain ⟨u, rfl⟩ := hw'
        go_wp2
        go_ret
        exact ⟨ret_bool HR.out.symm, HBl.out ⟨u.w, HY.out u⟩⟩
      have HP1 : Hid (pb = true) := HPB.out
      obtain rfl | ⟨j, rfl⟩ : k = 0 ∨ ∃ j, k = j + 1 := by cases k with | zero => exact .inl rfl | succ j => exact .inr ⟨j, rfl⟩
      · have HN := hideP (F5.out HP1.out rfl (fun j e => by omega))
        go_wp2_with fail
        rw [← HW1.out]
        refine wp_region_later (W := W1) (Below.refl _ _) (by kernel_rfl) (by kernel_rfl) ?_
        repeat (go_big_quiet_step (first | (go_at_call_of 96 s0; exact calls_same (KA _)) | (go_at_call_of 96 s1; exact calls_same (KM _)) | (go_at_call_of 96 s2; exact calls_same (KD _)) | fail))
        refine wpQuiet_nil ?_
        intro _ hw'
        obtain ⟨u, rfl⟩ := hw'
        go_wp2
        exact ⟨⟨0 + 1, by omega, by go_num, HN.out, ⟨u.w, HY.out u⟩, rfl⟩, by simp [intOf]; omega⟩
      · have e5 := HP.out j rfl
        have G4 := hideP (F4.out j rfl)
        have G5 := hideP (fun (h4 : (atK patK l j).day < s0) => F5.out HP1.out rfl (fun i e => (show i = j from by omega) ▸ h4))
        have hj0 : decide ((0 : Int) < (j : Int) + 1) = true := decide_eq_true (by omega)
        clear HP F1 F2 F4 F5
        generalize (atK patK l j).day = P at *
        by_cases h4 : P < s0
        case neg =>
          have HR := hideP (G4.out (by omega))
          have q5 : decide (s0 ≤ P) = true := decide_eq_true (by omega)
          go_wp2_with fail
          rw [← HW1.out]
          refine wp_region_later (W := W1) (Below.refl _ _) (by kernel_rfl) (by kernel_rfl) ?_
          repeat (go_big_quiet_step (first | (go_at_call_of 96 s0; exact calls_same (KA _)) | (go_at_call_of 96 s1; exact calls_same (KM _)) | (go_at_call_of 96 s2; exact calls_same (KD _)) | fail))
          refine wpQuiet_nil ?_
          intro _ hw'
          obtain ⟨u, rfl⟩ := hw'
          go_wp2
          go_ret
          exact ⟨ret_bool HR.out.symm, HBl.out ⟨u.w, HY.out u⟩⟩
        have HN := hideP (G5.out h4)
        have q5 : decide (s0 ≤ P) = false := decide_eq_false (by omega)
        go_wp2_with fail
        rw [← HW1.out]
        refine wp_region_later (W := W1) (Below.refl _ _) (by kernel_rfl) (by kernel_rfl) ?_
        repeat (go_big_quiet_step (first | (go_at_call_of 96 s0; exact calls_same (KA _)) | (go_at_call_of 96 s1; exact calls_same (KM _)) | (go_at_call_of 96 s2; exact calls_same (KD _)) | fail))
        refine wpQuiet_nil ?_
        intro _ hw'
        obtain ⟨u, rfl⟩ := hw'
        go_wp2
        exact ⟨⟨j + 1 + 1, by omega, by go_num, HN.out, ⟨u.w, HY.out u⟩, rfl⟩, by simp [intOf]; omega⟩
    · have hkn : k = l.length := by omega
      have HA : Hid (allTo (patFit f t l) l.length = true) := by rw [← hkn]; exact HF
      have HR := hideP (pats_end HA.out)
      clear HF
      subst hkn
      by_cases h8 : (l.length : Int) ≤ 8
      · have HR2 : Hid (patsB f t l = true) := HR.out.trans (decide_eq_true h8)
        go_wp2
        go_ret
        exact ⟨ret_bool HR2.out.symm, HBl.out y⟩
      · have HR2 : Hid (patsB f t l = false) := HR.out.trans (decide_eq_false h8)
        have q8 : decide ((l.length : Int) ≤ 8) = false := decide_eq_false h8
        go_wp2
        go_ret
        exact ⟨ret_bool HR2.out.symm, HBl.out y⟩
end Go.Proofs.YtjojgfdfbkmlkaaGreatDoor.ctr
namespace Go.Proofs.YtjojgfdfbkmlkaaGreatDoor.ctr
open Go.RowKit
set_option linter.unusedSimpArgs false
set_option maxRecDepth 100000 in
set_option maxHeartbeats 2000000 in
theorem implRegimeOk (v : Value) (r : Rgm) (a : Addr) (w : World) (h : GRow w v r) (ht : r.to ≤ 9223372036854775807) (hE : ErrT w) (hT : Tab w) (hS : Sent w a) : Calls Tryz.prog 65 #[v] w fun e w' => e = .returned (.bool (regimeB r)) ∧ Below w.heap.size w w' := by
  have hn : r.name.size ≤ maxLen := by obtain ⟨_, _, _, _, hn, _⟩ := h; exact hn
  have KS : Hid (∀ W, Below w.heap.size w W → Calls Tryz.prog 120 #[v] W fun e w' => e = .returned (.bool (segsB r.fr r.to r.segs)) ∧ Below W.heap.size W w') := fun W hb => implSegsOk v r W (h.below hb) ht (hE.below hb)
  have KP : Hid (∀ W, Below w.heap.size w W → Calls Tryz.prog 121 #[v] W fun e w' => e = .returned (.bool (patsB r.fr r.to r.pats)) ∧ Below W.heap.size W w') := fun W hb => implPatchesOk v r W (h.below hb)
  have RB : Hid (regimeB r = (nameOk r.name && (dayB r.fr && (dayB r.to && (segsB r.fr r.to r.segs && (patsB r.fr r.to r.pats && (reignsOk r.rgns && ruleB r.rule))))))) := rfl
  have HO : Hid (r.to < r.fr → segsB r.fr r.to r.segs = false) := fun h => segs_order (by omega)
  generalize regimeB r = ans at *
  obtain ⟨nm, f, t, l, ps, rs, ru⟩ := r
  dsimp only at *
  obtain ⟨v1, v2, v3, rfl, _, x1, x2, x3⟩ := h
  dsimp only at *
  have KN : Hid (∀ W, Calls Tryz.prog 119 #[.string nm] W fun e w' => e = .returned (.bool (nameOk nm)) ∧ Below W.heap.size W w') := fun W => (implNameOk nm W hn).mono fun _ _ h => ⟨h.1, same_bel h.2⟩
  have KF : Hid (∀ W, Calls Tryz.prog 103 #[.int .i64 f] W fun e w' => e = .returned (.bool (dayB f)) ∧ Below W.heap.size W w') := fun W => (implOnLine f W).mono fun _ _ h => ⟨h.1, same_bel h.2⟩
  have KT : Hid (∀ W, Calls Tryz.prog 103 #[.int .i64 t] W fun e w' => e = .returned (.bool (dayB t)) ∧ Below W.heap.size W w') := fun W => (implOnLine t W).mono fun _ _ h => ⟨h.1, same_bel h.2⟩
  have KR : Hid (∀ W, Below w.heap.size w W → Calls Tryz.prog 122 #[v3] W fun e w' => e = .returned (.bool (reignsOk rs)) ∧ Below W.heap.size W w') := fun W hb => implReignsOk v3 rs a W (x3.below hb) (hT.later hb) (hS.later hb)
  obtain ⟨W0, hW0, d0, d1, d2, d3, d4, d5, d6, hBl⟩ := seven_box w (.string nm) (.int .i64 f) (.int .i64 t) v1 v2 v3 (.int .i64 ru) 36
  obtain ⟨a1, c1, rfl, _⟩ := x1
  obtain ⟨a2, c2, rfl, _⟩ := x2
  obtain ⟨a3, c3, rfl, _⟩ := x3
  have HW0 := hideP hW0
  have HBl := hideP hBl
  clear hW0 hBl hn ht hE hT hS
  generalize nameOk nm = b1 at *
  generalize dayB f = b2 at *
  generalize dayB t = b3 at *
  generalize segsB f t l = b4 at *
  generalize patsB f t ps = b5 at *
  generalize reignsOk rs = b6 at *
  go_enter Tryz.func65, Tryz.ntmps65
  go_wp2_with fail
  rw [← HW0.out]
  refine (KN.out _).mono ?_
  rintro e w1 ⟨rfl, hb⟩
  obtain ⟨x1, rfl⟩ := Later.of hb
  clear hb
  cases b1
  · have HR : Hid (ans = false) := by unfold Hid; rw [RB.out]; simp only [Bool.false_and, Bool.and_false, Bool.true_and]
    go_wp2
    go_ret
    exact ⟨ret_bool HR.out.symm, HBl.out x1⟩
  go_wp2_with fail
  refine (KF.out _).mono ?_
  rintro e w2 ⟨rfl, hb⟩
  obtain ⟨x2, rfl⟩ := x1.next hb
  clear hb
  cases b2
  · have HR : Hid (ans = false) := by unfold Hid; rw [RB.out]; simp only [Bool.false_and, Bool.and_false, Bool.true_and]
    go_wp2
    go_ret
    exact ⟨ret_bool HR.out.symm, HBl.out x2⟩
  go_wp2_with fail
  refine (KT.out _).mono ?_
  rintro e w3 ⟨rfl, hb⟩
  obtain ⟨x3, rfl⟩ := x2.next hb
  clear hb
  cases b3
  · have HR : Hid (ans = false) := by unfold Hid; rw [RB.out]; simp only [Bool.false_and, Bool.and_false, Bool.true_and]
    go_wp2
    go_ret
    exact ⟨ret_bool HR.out.symm, HBl.out x3⟩
  go_wp2_with fail
  refine (KS.out _ (HBl.out x3)).mono ?_
  rintro e w4 ⟨rfl, hb⟩
  obtain ⟨x4, rfl⟩ := x3.next hb
  clear hb
  cases b4
  · have HR : Hid (ans = false) := by unfold Hid; rw [RB.out]; simp only [Bool.false_and, Bool.and_false, Bool.true_and]
    go_wp2
    go_ret
    exact ⟨ret_bool HR.out.symm, HBl.out x4⟩
  go_wp2_with fail
  refine (KP.out _ (HBl.out x4)).mono ?_
  rintro e w5 ⟨rfl, hb⟩
  obtain ⟨x5, rfl⟩ := x4.next hb
  clear hb
  cases b5
  · have HR : Hid (ans = false) := by unfold Hid; rw [RB.out]; simp only [Bool.false_and, Bool.and_false, Bool.true_and]
    go_wp2
    go_ret
    exact ⟨ret_bool HR.out.symm, HBl.out x5⟩
  go_wp2_with fail
  refine (KR.out _ (HBl.out x5)).mono ?_
  rintro e w6 ⟨rfl, hb⟩
  obtain ⟨x6, rfl⟩ := x5.next hb
  clear hb
  cases b6
  · have HR : Hid (ans = false) := by unfold Hid; rw [RB.out]; simp only [Bool.false_and, Bool.and_false, Bool.true_and]
    go_wp2
    go_ret
    exact ⟨ret_bool HR.out.symm, HBl.out x6⟩
  have HQ : Hid (ans = ruleB ru) := by unfold Hid; rw [RB.out]; simp only [Bool.true_and]
  clear RB HO KN KF KT KS KP KR
  have KU : Hid (∀ W, Calls Tryz.prog 123 #[.int .i64 ru] W fun e w' => e = .returned (.bool (ruleB ru)) ∧ w' = W) := fun W => implRuleOk ru W
  generalize ruleB ru = b7 at *
  go_wp2_with fail
  refine (KU.out _).mono ?_
  rintro e w7 ⟨rfl, rfl⟩
  go_wp2
  go_ret
  exact ⟨ret_bool HQ.out.symm, HBl.out x6⟩
set_option maxRecDepth 100000 in
set_option maxHeartbeats 2000000 in
theorem specRegimeOk (v : Value) (r : Rgm) (w : World) (h : GRow w v r) (hf : -9223372036854775808 ≤ r.fr) (ht : r.to ≤ 9223372036854775807) : Calls Tryz.prog 57 #[v] w fun e w' => e = .returned (.bool (regimeB r)) ∧ Below w.heap.size w w' := by
  have hn : r.name.size ≤ maxLen := by obtain ⟨_, _, _, _, hn, _⟩ := h; exact hn
  have KS : Hid (∀ W, Below w.heap.size w W → Calls Tryz.prog 106 #[v] W fun e w' => e = .returned (.bool (segsB r.fr r.to r.segs)) ∧ Below W.heap.size W w') := fun W hb => specSegs9 v r W (h.below hb) hf ht
  have KP : Hid (∀ W, Below w.heap.size w W → Calls Tryz.prog 107 #[v] W fun e w' => e = .returned (.bool (patsB r.fr r.to r.pats)) ∧ Below W.heap.size W w') := fun W hb => specPatches9 v r W (h.below hb)
  have RB : Hid (regimeB r = (nameOk r.name && (dayB r.fr && (dayB r.to && (segsB r.fr r.to r.segs && (patsB r.fr r.to r.pats && (reignsOk r.rgns && ruleB r.rule))))))) := rfl
  have HO : Hid (r.to < r.fr → segsB r.fr r.to r.segs = false) := fun h => segs_order (by omega)
  generalize regimeB r = ans at *
  obtain ⟨nm, f, t, l, ps, rs, ru⟩ := r
  dsimp only at *
  obtain ⟨v1, v2, v3, rfl, _, x1, x2, x3⟩ := h
  dsimp only at *
  have KN : Hid (∀ W, Calls Tryz.prog 105 #[.string nm] W fun e w' => e = .returned (.bool (nameOk nm)) ∧ Below W.heap.size W w') := fun W => (specNameOk nm W hn).mono fun _ _ h => ⟨h.1, same_bel h.2⟩
  have KF : Hid (∀ W, Calls Tryz.prog 102 #[.int .i64 f] W fun e w' => e = .returned (.bool (dayB f)) ∧ Below W.heap.size W w') := fun W => (specDay9 f W).mono fun _ _ h => ⟨h.1, same_bel h.2⟩
  have KT : Hid (∀ W, Calls Tryz.prog 102 #[.int .i64 t] W fun e w' => e = .returned (.bool (dayB t)) ∧ Below W.heap.size W w') := fun W => (specDay9 t W).mono fun _ _ h => ⟨h.1, same_bel h.2⟩
  have KR : Hid (∀ W, Below w.heap.size w W → Calls Tryz.prog 108 #[v3] W fun e w' => e = .returned (.bool (reignsOk rs)) ∧ Below W.heap.size W w') := fun W hb => specReignsOk v3 rs W (x3.below hb)
  obtain ⟨W0, hW0, d0, d1, d2, d3, d4, d5, d6, hBl⟩ := seven_box w (.string nm) (.int .i64 f) (.int .i64 t) v1 v2 v3 (.int .i64 ru) 36
  obtain ⟨a1, c1, rfl, _⟩ := x1
  obtain ⟨a2, c2, rfl, _⟩ := x2
  obtain ⟨a3, c3, rfl, _⟩ := x3
  have HW0 := hideP hW0
  have HBl := hideP hBl
  clear hW0 hBl hn hf ht
  generalize nameOk nm = b1 at *
  generalize dayB f = b2 at *
  generalize dayB t = b3 at *
  generalize segsB f t l = b4 at *
  generalize patsB f t ps = b5 at *
  generalize reignsOk rs = b6 at *
  go_enter Tryz.func57, Tryz.ntmps57
  go_wp2_with fail
  rw [← HW0.out]
  refine (KN.out _).mono ?_
  rintro e w1 ⟨rfl, hb⟩
  obtain ⟨x1, rfl⟩ := Later.of hb
  clear hb
  cases b1
  · have HR : Hid (ans = false) := by unfold Hid; rw [RB.out]; simp only [Bool.false_and, Bool.and_false, Bool.true_and]
    go_wp2
    go_ret
    exact ⟨ret_bool HR.out.symm, HBl.out x1⟩
  go_wp2_with fail
  refine (KF.out _).mono ?_
  rintro e w2 ⟨rfl, hb⟩
  obtain ⟨x2, rfl⟩ := x1.next hb
  clear hb
  cases b2
  · have HR : Hid (ans = false) := by unfold Hid; rw [RB.out]; simp only [Bool.false_and, Bool.and_false, Bool.true_and]
    go_wp2
    go_ret
    exact ⟨ret_bool HR.out.symm, HBl.out x2⟩
  go_wp2_with fail
  refine (KT.out _).mono ?_
  rintro e w3 ⟨rfl, hb⟩
  obtain ⟨x3, rfl⟩ := x2.next hb
  clear hb
  cases b3
  · have HR : Hid (ans = false) := by unfold Hid; rw [RB.out]; simp only [Bool.false_and, Bool.and_false, Bool.true_and]
    go_wp2
    go_ret
    exact ⟨ret_bool HR.out.symm, HBl.out x3⟩
  by_cases hft : f ≤ t
  case neg =>
    have q1 : decide (f ≤ t) = false := decide_eq_false hft
    have HR : Hid (ans = false) := by unfold Hid; rw [RB.out, HO.out (by omega)]; simp only [Bool.false_and, Bool.true_and]
    go_wp2
    go_ret
    exact ⟨ret_bool HR.out.symm, HBl.out x3⟩
  go_wp2_with fail
  refine (KS.out _ (HBl.out x3)).mono ?_
  rintro e w4 ⟨rfl, hb⟩
  obtain ⟨x4, rfl⟩ := x3.next hb
  clear hb
  cases b4
  · have HR : Hid (ans = false) := by unfold Hid; rw [RB.out]; simp only [Bool.false_and, Bool.and_false, Bool.true_and]
    go_wp2
    go_ret
    exact ⟨ret_bool HR.out.symm, HBl.out x4⟩
  go_wp2_with fail
  refine (KP.out _ (HBl.out x4)).mono ?_
  rintro e w5 ⟨rfl, hb⟩
  obtain ⟨x5, rfl⟩ := x4.next hb
  clear hb
  cases b5
  · have HR : Hid (ans = false) := by unfold Hid; rw [RB.out]; simp only [Bool.false_and, Bool.and_false, Bool.true_and]
    go_wp2
    go_ret
    exact ⟨ret_bool HR.out.symm, HBl.out x5⟩
  go_wp2_with fail
  refine (KR.out _ (HBl.out x5)).mono ?_
  rintro e w6 ⟨rfl, hb⟩
  obtain ⟨x6, rfl⟩ := x5.next hb
  clear hb
  cases b6
  · have HR : Hid (ans = false) := by unfold Hid; rw [RB.out]; simp only [Bool.false_and, Bool.and_false, Bool.true_and]
    go_wp2
    go_ret
    exact ⟨ret_bool HR.out.symm, HBl.out x6⟩
  have HQ : Hid (ans = ruleB ru) := by unfold Hid; rw [RB.out]; simp only [Bool.true_and]
  clear RB HO KN KF KT KS KP KR
  by_cases h0 : ru = 0
  · subst h0
    have HR : Hid (ans = true) := HQ.out
    go_wp2
    go_ret
    exact ⟨ret_bool HR.out.symm, HBl.out x6⟩
  by_cases h1 : ru = 1
  · subst h1
    have HR : Hid (ans = true) := HQ.out
    go_wp2
    go_ret
    exact ⟨ret_bool HR.out.symm, HBl.out x6⟩
  have HR : Hid (ans = false) := by unfold Hid; rw [HQ.out, ruleB, decide_eq_false h0, decide_eq_false h1]; rfl
  have q2 : (ru == 0) = false := by simp [h0]
  have q3 : (ru == 1) = false := by simp [h1]
  go_wp2
  go_ret
  exact ⟨ret_bool HR.out.symm, HBl.out x6⟩
end Go.Proofs.YtjojgfdfbkmlkaaGreatDoor.ctr
namespace Go.Proofs.YtjojgfdfbkmlkaaGreatDoor.ctr
open Go.RowKit
def ints (l : List Int) : Array Value := (l.map (Value.int .i64)).toArray
theorem ints_at (l : List Int) (j : Nat) (h : j < l.length) : (ints l)[j]? = some (.int .i64 (l.getD j 0)) := by
  simp [ints, List.getD, h]
theorem ints_set (l : List Int) (k : Nat) (z : Int) : (ints l).setIfInBounds k (.int .i64 z) = ints (l.set k z) := by
  simp [ints, List.map_set]
theorem ints_size (l : List Int) : (ints l).size = l.length := by simp [ints]
theorem ints_app (l : List Int) (rs : Array Value) (j : Nat) (h : j < l.length) : (ints l ++ rs)[j]? = some (.int .i64 (l.getD j 0)) := by
  rw [Array.getElem?_append_left (by rw [ints_size]; exact h), ints_at l j h]
theorem ints_setA (l : List Int) (rs : Array Value) (k : Nat) (z : Int) (h : k < l.length) : (ints l ++ rs).setIfInBounds k (.int .i64 z) = ints (l.set k z) ++ rs := by
  rw [Array.setIfInBounds_append_left (by rw [ints_size]; exact h), ints_set]
def MovRow (w w' : World) (v : Value) (xs : List Int) : Prop := ∃ ad cap, v = .slice ad xs.length cap ∧ (xs = [] ∨ ∃ g t rs, ad = some ⟨g, 0, none⟩ ∧ w.heap.size ≤ g ∧ Blk w' g (ints xs ++ rs) t)
theorem movRow_nil {w w' : World} (ad : Option Addr) (cap : Nat) : MovRow w w' (.slice ad 0 cap) [] := ⟨ad, cap, rfl, .inl rfl⟩
theorem MovRow.below {w w' w'' : World} {v : Value} {xs : List Int} (h : MovRow w w' v xs) (hb : Below w'.heap.size w' w'') : MovRow w w'' v xs := by
  obtain ⟨ad, cap, rfl, h | ⟨g, t, zs, rfl, hg, hB⟩⟩ := h
  · exact ⟨ad, cap, rfl, .inl h⟩
  · exact ⟨_, cap, rfl, .inr ⟨g, t, zs, rfl, hg, hB.below hb hB.lt⟩⟩
def IntRow (w : World) (v : Value) (xs : List Int) : Prop := ∃ ad cap, v = .slice ad xs.length cap ∧ ∀ j, j < xs.length → ∃ g, ad = some ⟨g, 0, none⟩ ∧ g < w.heap.size ∧ w.cell? ⟨g, j, none⟩ = some (.int .i64 (xs.getD j 0))
theorem MovRow.row {w w' : World} {v : Value} {xs : List Int} (h : MovRow w w' v xs) : IntRow w' v xs := by
  obtain ⟨ad, cap, rfl, h | ⟨g, t, zs, rfl, _, hb⟩⟩ := h
  · subst h
    exact ⟨ad, cap, rfl, fun j hj => by simp at hj⟩
  · exact ⟨_, cap, rfl, fun j hj => ⟨g, rfl, hb.lt, hb.cell j (ints_app xs zs j hj)⟩⟩
theorem IntRow.below {w w' : World} {v : Value} {xs : List Int} (h : IntRow w v xs) (hb : Below w.heap.size w w') : IntRow w' v xs := by
  obtain ⟨ad, cap, rfl, h⟩ := h
  exact ⟨ad, cap, rfl, fun j hj => by
    obtain ⟨g, e, hg, hc⟩ := h j hj
    exact ⟨g, e, Nat.lt_of_lt_of_le hg hb.size, (hb.cell (p := ⟨g, j, none⟩) hg).trans hc⟩⟩
set_option maxHeartbeats 1000000 in
theorem eqInts (v1 v2 : Value) (xs : List Int) (w : World) (hx : xs.length ≤ 2000000) (h1 : IntRow w v1 xs) (h2 : IntRow w v2 xs) :
    Calls Tryz.prog 20 #[v1, v2] w fun e w' => e = .returned (.bool true) ∧ Below w.heap.size w w' := by
  obtain ⟨a1, c1, rfl, H1⟩ := h1
  obtain ⟨a2, c2, rfl, H2⟩ := h2
  have K1 : Hid _ := H1
  have K2 : Hid _ := H2
  clear H1 H2
  go_enter Tryz.func20, Tryz.ntmps20
  go_wp2
  go_loopw [5] (fun i wr => ∃ k : Nat, k ≤ xs.length ∧ i = .int .i64 (k : Int) ∧ ∃ m, wr = w.drewN m) (fun i _ => xs.length - (intOf i).toNat)
  case atStart => exact ⟨0, Nat.zero_le _, rfl, 0, rfl⟩
  case round =>
    obtain ⟨k, hk, rfl, m, rfl⟩ := hrel
    by_cases hlt : k < xs.length
    · obtain ⟨g1, rfl, _, e1⟩ := K1.out k hlt
      obtain ⟨g2, rfl, _, e2⟩ := K2.out k hlt
      generalize xs.getD k 0 = x at e1 e2
      go_wp2
      go_quiet (fail)
      go_wp2
      exact ⟨⟨k + 1, by omega, by go_num, _, rfl⟩, by simp [intOf]; omega⟩
    · go_wp2
      go_ret
      exact ⟨rfl, Below_drewN (Below.refl _ _) m⟩
def marks (k0 n : Nat) : List Int := (List.range n).map fun j => ((k0 + j : Nat) : Int)
theorem marks_len (k0 n : Nat) : (marks k0 n).length = n := by simp [marks]
theorem marks_at (k0 n j : Nat) (h : j < n) : (marks k0 n).getD j 0 = ((k0 + j : Nat) : Int) := by simp [marks, List.getD, h]
def marked (xs : List Int) (k0 k : Nat) : List Int := marks k0 k ++ xs.drop k
theorem marked_len (xs : List Int) (k0 k : Nat) (h : k ≤ xs.length) : (marked xs k0 k).length = xs.length := by simp [marked, marks_len]; omega
theorem marked_all (xs : List Int) (k0 : Nat) : marked xs k0 xs.length = marks k0 xs.length := by simp [marked]
theorem marked_set (xs : List Int) (k0 k : Nat) (h : k < xs.length) : (marked xs k0 k).set k ((k0 + k : Nat) : Int) = marked xs k0 (k + 1) := by
  unfold marked marks
  rw [List.set_append_right _ _ (by simp), List.length_map, List.length_range, Nat.sub_self, List.range_succ, List.map_append, List.drop_eq_getElem_cons h, List.set_cons_zero, List.append_assoc]
  rfl
set_option maxHeartbeats 1000000 in
theorem markInts (g cap k0 : Nat) (xs : List Int) (zs : Array Value) (t : TypeId) (w W : World) (hn : xs.length ≤ 2000000) (hk1 : k0 ≤ 2000000) (hg : W.heap.size ≤ g) (hW : Below W.heap.size W w) (ho : Blk w g (ints xs ++ zs) t) :
    Calls Tryz.prog 23 #[.slice (some ⟨g, 0, none⟩) xs.length cap, .int .i64 (k0 : Int)] w fun e w' => e = .returned (.int .i64 ((k0 + xs.length : Nat) : Int)) ∧ w.grownBy w' (some g) ∧ Below W.heap.size W w' ∧ Blk w' g (ints (marks k0 xs.length) ++ zs) t := by
  have HO := hideP ho
  have HW := hideP hW
  clear ho hW
  go_enter Tryz.func23, Tryz.ntmps23
  go_wp2
  go_loopw [1, 5] (fun u i wr => ∃ k : Nat, k ≤ xs.length ∧ i = .int .i64 (k : Int) ∧ u = .int .i64 ((k0 + k : Nat) : Int) ∧ w.grownBy wr (some g) ∧ Below W.heap.size W wr ∧ Blk wr g (ints (marked xs k0 k) ++ zs) t) (fun _ i _ => xs.length - (intOf i).toNat)
  case atStart => exact ⟨0, Nat.zero_le _, rfl, rfl, ⟨rfl, rfl, rfl, Nat.le_refl _, fun _ _ _ => rfl⟩, HW.out, by simpa [marked, marks] using HO.out⟩
  case round =>
    obtain ⟨k, hk, rfl, rfl, hG, hB, hM⟩ := hrel
    have HG := hideP hG
    have HB := hideP hB
    have HM := hideP hM
    clear hG hM hB
    by_cases hlt : k < xs.length
    · have c0 := HM.out.cell k (ints_app (marked xs k0 k) zs k (by rw [marked_len _ _ _ hk]; exact hlt))
      have hlm : k < (marked xs k0 k).length := by rw [marked_len _ _ _ hk]; exact hlt
      have f0 := HM.out.thaw k
      have HS := hideP (marked_set xs k0 k hlt)
      have HL := hideP hlm
      clear hlm
      generalize (marked xs k0 k).getD k 0 = z at *
      go_wp2
      refine ⟨⟨k + 1, by omega, by go_num, by go_num, ?_, below_store HB.out _ hg, ?_⟩, by simp [intOf]; omega⟩
      · exact ⟨HG.out.os, HG.out.tape, HG.out.output, by simpa [World.setCell] using HG.out.size, fun j hj hr => (Below.heap_setCell wr _ _ j (fun e => hr (by rw [e]))).trans (HG.out.block j hj hr)⟩
      · have h := HM.out.set k (.int .i64 ((k0 + k : Nat) : Int))
        rw [ints_setA _ _ _ _ HL.out, HS.out] at h
        first | exact h | simpa using h
    · have hkn : k = xs.length := by omega
      subst hkn
      go_wp2
      go_ret
      exact ⟨rfl, HG.out, HB.out, by rw [← marked_all]; exact HM.out⟩
set_option maxHeartbeats 1000000 in
theorem markNone (a : Option Addr) (cap : Nat) (k0 : Nat) (w : World) : Calls Tryz.prog 23 #[.slice a 0 cap, .int .i64 (k0 : Int)] w fun e w' => e = .returned (.int .i64 (k0 : Int)) ∧ w' = w := by
  go_enter Tryz.func23, Tryz.ntmps23
  go_wp2
  go_loopw [1, 5] (fun u i wr => i = .int .i64 0 ∧ u = .int .i64 (k0 : Int) ∧ wr = w) (fun _ _ _ => 0)
  case atStart => exact ⟨rfl, rfl, rfl⟩
  case round =>
    obtain ⟨rfl, rfl, rfl⟩ := hrel
    go_wp2
    go_ret
    exact ⟨rfl, rfl⟩
set_option maxHeartbeats 1000000 in
theorem heldInts (v : Value) (k0 n : Nat) (w : World) (hn : n ≤ 2000000) (hk1 : k0 ≤ 2000000) (h1 : IntRow w v (marks k0 n)) :
    Calls Tryz.prog 24 #[v, .int .i64 (k0 : Int)] w fun e w' => e = .returned (.int .i64 ((k0 + n : Nat) : Int)) ∧ Below w.heap.size w w' := by
  obtain ⟨a1, c1, rfl, H1⟩ := h1
  rw [marks_len] at *
  have K1 : Hid _ := H1
  clear H1
  go_enter Tryz.func24, Tryz.ntmps24
  go_wp2
  go_loopw [1, 5] (fun u i wr => ∃ k : Nat, k ≤ n ∧ i = .int .i64 (k : Int) ∧ u = .int .i64 ((k0 + k : Nat) : Int) ∧ ∃ m, wr = w.drewN m) (fun _ i _ => n - (intOf i).toNat)
  case atStart => exact ⟨0, Nat.zero_le _, rfl, rfl, 0, rfl⟩
  case round =>
    obtain ⟨k, hk, rfl, rfl, m, rfl⟩ := hrel
    by_cases hlt : k < n
    · obtain ⟨g1, rfl, _, e1⟩ := K1.out k hlt
      rw [marks_at k0 n k hlt] at e1
      go_wp2
      exact ⟨⟨k + 1, by omega, by go_num, by go_num, _, rfl⟩, by simp [intOf]; omega⟩
    · have hkn : k = n := by omega
      subst hkn
      go_wp2
      go_ret
      exact ⟨rfl, Below_drewN (Below.refl _ _) m⟩
theorem markRow (W w : World) (v : Value) (xs : List Int) (hn : xs.length ≤ 2000000) (h : MovRow W w v xs) (hW : Below W.heap.size W w) :
    Calls Tryz.prog 23 #[v, .int .i64 1] w fun e w' => e = .returned (.int .i64 ((1 + xs.length : Nat) : Int)) ∧ Below W.heap.size W w' ∧ IntRow w' v (marks 1 xs.length) := by
  obtain ⟨ad, cap, rfl, h | ⟨g, t, zs, rfl, hg, hB⟩⟩ := h
  · subst h
    exact (markNone ad cap 1 w).mono fun e w' ⟨he, hw⟩ => ⟨he, by rw [hw]; exact hW, ⟨ad, cap, rfl, fun j hj => by simp [marks] at hj⟩⟩
  · refine (markInts g cap 1 xs zs t w W (by omega) (by omega) hg hW hB).mono ?_
    rintro e w' ⟨he, _, hb, hk⟩
    exact ⟨he, hb, ⟨_, cap, by rw [marks_len], fun j hj => ⟨g, rfl, hk.lt, hk.cell j (ints_app _ zs j hj)⟩⟩⟩
theorem own_ints {w W : World} {v : Value} {xs : List Int} {e : TypeId} (h : W.ownsRow w.heap.size e 1 v xs.length (xs.map (Value.int .i64))) : MovRow w W v xs := by
  rcases h.2 with ⟨hv, h0⟩ | ⟨g, cap, cur, hv, hb, hh, hcap, _, hsz, htake⟩
  · subst hv
    exact ⟨none, 0, by rw [h0], .inl (List.length_eq_zero_iff.1 h0)⟩
  · subst hv
    refine ⟨_, cap, rfl, .inr ⟨g, e, (cur.toList.drop xs.length).toArray, rfl, hb, ?_⟩⟩
    have e1 : cur = ints xs ++ (cur.toList.drop xs.length).toArray := by
      apply Array.toList_inj.1
      rw [Array.toList_append]
      show cur.toList = (xs.map (Value.int .i64)) ++ cur.toList.drop xs.length
      rw [← htake]
      simp
    unfold Blk
    rw [← e1]
    exact hh
theorem info_int : (Tryz.prog.info? 3).map (fun i => (i.zero, i.size, i.bytes)) = some (some (.int .i64 0), 1, 8) := by kernel_rfl
end Go.Proofs.YtjojgfdfbkmlkaaGreatDoor.ctr
namespace Go.Proofs.YtjojgfdfbkmlkaaGreatDoor.ctr
open Go.RowKit
theorem ibase {w : World} {base e size : Nat} {v : Value} {n : Nat} {xs : List Value} (h : w.ownsRow base e size v n xs) : ∀ k, v.ownBlock = some k → base ≤ k := by
  intro k hk
  rcases h.2 with ⟨rfl, _⟩ | ⟨g, cap, cur, rfl, hb, _⟩
  · cases hk
  · have : k = g := by simpa [Value.ownBlock] using hk.symm
    omega
theorem inew (W : World) (o : Obj) : (W.alloc o).heap.size = W.heap.size + 1 := by simp [World.alloc, -World.alloc_eq]
theorem iown_empty (w : World) (e : TypeId) : (w.alloc (.cells #[] e)).ownsRow w.heap.size e 1 (.slice (some ⟨w.heap.size, 0, none⟩) 0 0) 0 [] :=
  ⟨rfl, .inr ⟨w.heap.size, 0, #[], rfl, Nat.le_refl _, by simp [World.alloc, -World.alloc_eq], Nat.le_refl _, Nat.zero_le _, rfl, rfl⟩⟩
theorem iown_later {w w' : World} {base e size : Nat} {v : Value} {n : Nat} {xs : List Value} (h : w.ownsRow base e size v n xs) (hb : Below w.heap.size w w') : w'.ownsRow base e size v n xs :=
  h.kept (row := none) ⟨hb.os, hb.tape, hb.output, hb.size, fun k hk _ => hb.block k hk⟩ (Classical.em _)
structure ISt (w : World) (o : Value) (xs : List Int) (W : World) : Prop where
  row : W.ownsRow w.heap.size 3 1 o xs.length (xs.map (Value.int .i64))
  below : Below w.heap.size w W
theorem ISt.later {w : World} {o : Value} {xs : List Int} {W W' : World} (h : ISt w o xs W) (hb : Below W.heap.size W W') : ISt w o xs W' := ⟨iown_later h.row hb, h.below.trans (hb.mono h.below.size)⟩
theorem ISt.app {w : World} {o o' : Value} {xs : List Int} {W W' : World} {ob : Obj} (h : ISt w o xs W) (z : Int) (hr : W'.ownsRow w.heap.size 3 1 o' (xs.length + 1) (xs.map (Value.int .i64) ++ [.int .i64 z])) (hg : (W.alloc ob).grownBy W' o.ownBlock) : ISt w o' (xs ++ [z]) W' := by
  refine ⟨?_, (h.below.alloc h.below.size ob).grown hg (by have := h.below.size; rw [inew]; omega) (ibase h.row)⟩
  rw [List.length_append, List.map_append]
  exact hr
theorem ISt.nil (w : World) : ISt w (.slice none 0 0) [] w := ⟨World.ownsRow_nil _ _ _ _, Below.refl _ _⟩
theorem own_mono1 {w : World} {b b' e size : Nat} {v : Value} {n : Nat} {xs : List Value} (h : w.ownsRow b e size v n xs) (hb : b' ≤ b) : w.ownsRow b' e size v n xs := by
  obtain ⟨h1, h | ⟨g, cap, cur, hv, hg, hr⟩⟩ := h
  · exact ⟨h1, .inl h⟩
  · exact ⟨h1, .inr ⟨g, cap, cur, hv, Nat.le_trans hb hg, hr⟩⟩
theorem ISt.done {w w0 W : World} {o : Value} {xs : List Int} (h : ISt w o xs W) (hb : Below w0.heap.size w0 w) : MovRow w0 W o xs ∧ Below w0.heap.size w0 W :=
  ⟨own_ints (e := 3) (own_mono1 h.row hb.size), hb.trans (h.below.mono hb.size)⟩
end Go.Proofs.YtjojgfdfbkmlkaaGreatDoor.ctr
namespace Go.Proofs.YtjojgfdfbkmlkaaGreatDoor.ctr
open Go.RowKit
set_option linter.unusedSimpArgs false
def chTo (l : List Seg) (k : Nat) : List Int := ((l.drop 1).take k).map Seg.fr
noncomputable def changes (r : Rgm) : List Int := if regimeB r = true then chTo r.segs (r.segs.length - 1) else []
end Go.Proofs.YtjojgfdfbkmlkaaGreatDoor.ctr
namespace Go.Proofs.YtjojgfdfbkmlkaaGreatDoor.ctr
open Go.RowKit
def segHas (n : Int) (s : Seg) : Bool := inB n s.fr s.to
def patIs (n : Int) (p : Pat) : Bool := decide (p.day = n)
def segAt (l : List Seg) (n : Int) : Int := ifind (segHas n) l
def patAt (l : List Pat) (n : Int) : Int := ifind (patIs n) l
theorem implPatIs (s : Pat) (n : Int) (b : Addr) (w : World) (hb : w.cell? b = some (.int .i64 n)) : Calls Tryz.prog 195 #[.agg #[.int .i64 s.day, .int .i64 s.mon, .int .i64 s.dom], .pointer (some b)] w fun e w' => e = .returned (.bool (patIs n s)) ∧ Below w.heap.size w w' := by
  have hb' : (w.alloc (.cells #[.int .i64 s.day, .int .i64 s.mon, .int .i64 s.dom] 98)).cell? b = some (.int .i64 n) := Later.at hb ⟨_, (Below.refl _ _).alloc (Nat.le_refl _) _⟩
  unfold patIs
  by_cases h1 : s.day = n
  · rw [decide_eq_true h1]
    have hd : (s.day == n) = true := by simp [h1]
    clear h1
    go_enter Tryz.func195, Tryz.ntmps195
    go_wp2
    go_ret
    exact ⟨rfl, (Below.refl _ _).alloc (Nat.le_refl _) _⟩
  · rw [decide_eq_false h1]
    have hd : (s.day == n) = false := by simp [h1]
    go_enter Tryz.func195, Tryz.ntmps195
    go_wp2
    go_ret
    exact ⟨rfl, (Below.refl _ _).alloc (Nat.le_refl _) _⟩
set_option maxHeartbeats 1000000 in
theorem indexPat (v : Value) (l : List Pat) (n : Int) (b : Addr) (w : World) (h : IRow patK w v l) (hc : w.cell? b = some (.int .i64 n)) : Calls Tryz.prog 194 #[v, .func (.func 195) #[] #[.pointer (some b)]] w fun e w' => e = .returned (.int .i64 (ifind (patIs n) l)) ∧ Below w.heap.size w w' := by
  obtain ⟨a, c, rfl, hl, hm, H⟩ := h
  have HK := hideP H
  have KC : ∀ (r : Pat) (W : World), Below w.heap.size w W → Calls Tryz.prog 195 #[.agg #[.int .i64 r.day, .int .i64 r.mon, .int .i64 r.dom], .pointer (some b)] W fun e w' => e = .returned (.bool (patIs n r)) ∧ Below W.heap.size W w' := fun r W hb => implPatIs r n b W (Later.at hc ⟨W, hb⟩)
  have HC := hideP KC
  unfold maxLen at hm
  clear H KC hc
  go_enter Tryz.func194, Tryz.ntmps194
  go_wp2
  go_loopw [8] (fun i wr => ∃ k : Nat, k ≤ l.length ∧ i = .int .i64 (k : Int) ∧ Hid (ifFrom (patIs n) (l.drop k) k = ifind (patIs n) l) ∧ Below w.heap.size w wr) (fun i _ => l.length - (intOf i).toNat)
  case atStart => exact ⟨0, Nat.zero_le _, rfl, rfl, Below.refl _ _⟩
  case round =>
    obtain ⟨k, hk, rfl, HF, hB⟩ := hrel
    have HB := hideP hB
    clear hB
    by_cases hlt : k < l.length
    · obtain ⟨g, rfl, hg, x⟩ := HK.out k hlt
      obtain ⟨c0, c1, c2⟩ := (x.below HB.out hg).pat
      have K1 := hideP (fun h => if_hit (K := patK) (p := patIs n) hlt h HF.out)
      have K2 := hideP (fun h => if_miss (K := patK) (p := patIs n) hlt h HF.out)
      have KD := hideP (HC.out (atK patK l k) wr HB.out)
      clear x
      generalize atK patK l k = r at *
      go_wp2_with fail
      refine KD.out.mono ?_
      rintro e w1 ⟨rfl, hb⟩
      have HB1 : Hid (Below w.heap.size w w1) := HB.out.trans (hb.mono HB.out.size)
      clear hb c0 c1 c2
      cases hq : patIs n r
      · have HN := hideP (K2.out hq)
        go_wp2
        exact ⟨⟨k + 1, by omega, by go_num, HN.out, HB1.out⟩, by simp [intOf]; omega⟩
      · have HN := hideP (K1.out hq)
        go_wp2
        go_ret
        exact ⟨ret_int HN.out.symm, HB1.out⟩
    · have HN := hideP (if_end (by omega) HF.out)
      go_wp2
      go_ret
      exact ⟨ret_int HN.out.symm, HB.out⟩
set_option maxHeartbeats 1000000 in
theorem implPatAt (v : Value) (r : Rgm) (n : Int) (w : World) (h : GRow w v r) : Calls Tryz.prog 130 #[v, .int .i64 n] w fun e w' => e = .returned (.int .i64 (patAt r.pats n)) ∧ Below w.heap.size w w' := by
  obtain ⟨v1, v2, v3, rfl, _, x1, x2, x3⟩ := h
  obtain ⟨W0, hW0⟩ : ∃ W0, W0 = (w.alloc (.cells #[.string r.name, .int .i64 r.fr, .int .i64 r.to, v1, v2, v3, .int .i64 r.rule] 36)).alloc (.cells #[.int .i64 n] 3) := ⟨_, rfl⟩
  have hW : Below w.heap.size w W0 := by rw [hW0]; exact ((Below.refl _ _).alloc (Nat.le_refl _) _).alloc (by rw [World.size_alloc]; omega) _
  have hc : W0.cell? ⟨w.heap.size + 1, 0, none⟩ = some (.int .i64 n) := by
    rw [hW0]
    have := (Blk.new (w.alloc (.cells #[.string r.name, .int .i64 r.fr, .int .i64 r.to, v1, v2, v3, .int .i64 r.rule] 36)) #[.int .i64 n] 3).cell 0 rfl
    rw [World.size_alloc] at this
    exact this
  have KI := hideP (indexPat v2 r.pats n ⟨w.heap.size + 1, 0, none⟩ W0 (x2.below hW) hc)
  have HW := hideP hW
  have HW0 := hideP hW0
  obtain ⟨a1, c1, rfl, _⟩ := x1
  obtain ⟨a2, c2, rfl, _⟩ := x2
  obtain ⟨a3, c3, rfl, _⟩ := x3
  clear hW hc hW0
  go_enter Tryz.func130, Tryz.ntmps130
  go_wp2_with fail
  rw [← HW0.out]
  refine KI.out.mono ?_
  rintro e w1 ⟨rfl, hb⟩
  have HB : Hid (Below w.heap.size w w1) := HW.out.trans (hb.mono HW.out.size)
  clear hb
  go_wp2_with fail
  go_ret
  exact ⟨rfl, HB.out⟩
set_option maxHeartbeats 1000000 in
theorem specSegAt (v : Value) (r : Rgm) (n : Int) (w : World) (h : GRow w v r) : Calls Tryz.prog 110 #[v, .int .i64 n] w fun e w' => e = .returned (.int .i64 (segAt r.segs n)) ∧ Below w.heap.size w w' := by
  obtain ⟨v1, v2, v3, rfl, _, x1, x2, x3⟩ := h
  obtain ⟨W0, hW0, d0, d1, d2, d3, d4, d5, d6, hBl⟩ := seven_box w (.string r.name) (.int .i64 r.fr) (.int .i64 r.to) v1 v2 v3 (.int .i64 r.rule) 36
  have hrow := x1.below (hBl ⟨W0, Below.refl _ _⟩)
  obtain ⟨a1, c1, rfl, _⟩ := x1
  obtain ⟨a2, c2, rfl, _⟩ := x2
  obtain ⟨a3, c3, rfl, _⟩ := x3
  obtain ⟨a, c, ev, hl, hm, H⟩ := hrow
  cases ev
  have HK := hideP H
  have HW0 := hideP hW0
  have HBl := hideP hBl
  unfold maxLen at hm
  clear H hW0 hBl d0 d1 d2 d6
  generalize r.segs = l at *
  have hst : Hid (Below W0.heap.size W0 W0) := Below.refl _ _
  go_enter Tryz.func110, Tryz.ntmps110
  go_wp2
  rw [← HW0.out]
  go_loopw [5] (fun i wr => ∃ k : Nat, k ≤ l.length ∧ i = .int .i64 (k : Int) ∧ Hid (ifFrom (segHas n) (l.drop k) k = segAt l n) ∧ ∃ y : Later W0, wr = y.w) (fun i _ => l.length - (intOf i).toNat)
  case atStart => exact ⟨0, Nat.zero_le _, rfl, rfl, ⟨W0, hst.out⟩, rfl⟩
  case round =>
    obtain ⟨k, hk, rfl, HF, y, rfl⟩ := hrel
    by_cases hlt : k < l.length
    · obtain ⟨g, rfl, hg, x⟩ := HK.out k hlt
      have e0 : ∀ y : Later W0, y.w.cell? ⟨g, k * 5, none⟩ = some (.int .i64 (atK segK l k).fr) := fun y => ((x.below y.below hg).seg).1
      have e1 : ∀ y : Later W0, y.w.cell? ⟨g, k * 5 + 1, none⟩ = some (.int .i64 (atK segK l k).to) := fun y => ((x.below y.below hg).seg).2.1
      have K1 := hideP (fun h => if_hit (K := segK) (p := segHas n) hlt h HF.out)
      have K2 := hideP (fun h => if_miss (K := segK) (p := segHas n) hlt h HF.out)
      clear x
      generalize atK segK l k = r at *
      have HD : Hid (segHas n r = inB n r.fr r.to) := rfl
      have KI : ∀ y : Later W0, Calls Tryz.prog 96 #[.int .i64 n, .int .i64 r.fr, .int .i64 r.to] y.w fun e w' => e = .returned (.bool (inB n r.fr r.to)) ∧ w' = y.w := fun y => l01In _ _ _ y.w
      generalize inB n r.fr r.to = b at *
      go_wp2_with fail
      refine wp_region_later (W := W0) y.below (by kernel_rfl) (by kernel_rfl) ?_
      repeat (go_big_quiet_step (first | (go_at_call 96; exact calls_same (KI _)) | fail))
      refine wpQuiet_nil ?_
      intro _ hw'
      obtain ⟨x, rfl⟩ := hw'
      cases b
      · have HN := hideP (K2.out HD.out)
        go_wp2
        exact ⟨⟨k + 1, by omega, by go_num, HN.out, x, rfl⟩, by simp [intOf]; omega⟩
      · have HN := hideP (K1.out HD.out)
        go_wp2
        go_ret
        exact ⟨ret_int HN.out.symm, HBl.out x⟩
    · have HN := hideP (if_end (by omega) HF.out)
      go_wp2
      go_ret
      exact ⟨ret_int HN.out.symm, HBl.out y⟩
set_option maxHeartbeats 1000000 in
theorem specPatAt (v : Value) (r : Rgm) (n : Int) (w : World) (h : GRow w v r) : Calls Tryz.prog 113 #[v, .int .i64 n] w fun e w' => e = .returned (.int .i64 (patAt r.pats n)) ∧ Below w.heap.size w w' := by
  obtain ⟨v1, v2, v3, rfl, _, x1, x2, x3⟩ := h
  obtain ⟨W0, hW0, d0, d1, d2, d3, d4, d5, d6, hBl⟩ := seven_box w (.string r.name) (.int .i64 r.fr) (.int .i64 r.to) v1 v2 v3 (.int .i64 r.rule) 36
  have hrow := x2.below (hBl ⟨W0, Below.refl _ _⟩)
  obtain ⟨a1, c1, rfl, _⟩ := x1
  obtain ⟨a2, c2, rfl, _⟩ := x2
  obtain ⟨a3, c3, rfl, _⟩ := x3
  obtain ⟨a, c, ev, hl, hm, H⟩ := hrow
  cases ev
  have HK := hideP H
  have HW0 := hideP hW0
  have HBl := hideP hBl
  unfold maxLen at hm
  clear H hW0 hBl d0 d1 d2 d6
  generalize r.pats = l at *
  have hst : Hid (Below W0.heap.size W0 W0) := Below.refl _ _
  go_enter Tryz.func113, Tryz.ntmps113
  go_wp2
  rw [← HW0.out]
  go_loopw [5] (fun i wr => ∃ k : Nat, k ≤ l.length ∧ i = .int .i64 (k : Int) ∧ Hid (ifFrom (patIs n) (l.drop k) k = patAt l n) ∧ ∃ y : Later W0, wr = y.w) (fun i _ => l.length - (intOf i).toNat)
  case atStart => exact ⟨0, Nat.zero_le _, rfl, rfl, ⟨W0, hst.out⟩, rfl⟩
  case round =>
    obtain ⟨k, hk, rfl, HF, y, rfl⟩ := hrel
    by_cases hlt : k < l.length
    · obtain ⟨g, rfl, hg, x⟩ := HK.out k hlt
      have e0 : ∀ y : Later W0, y.w.cell? ⟨g, k * 3, none⟩ = some (.int .i64 (atK patK l k).day) := fun y => ((x.below y.below hg).pat).1
      have K1 := hideP (fun h => if_hit (K := patK) (p := patIs n) hlt h HF.out)
      have K2 := hideP (fun h => if_miss (K := patK) (p := patIs n) hlt h HF.out)
      clear x
      generalize atK patK l k = r at *
      by_cases hd : r.day = n
      · have HN := hideP (K1.out (decide_eq_true hd))
        have hq : (r.day == n) = true := by simp [hd]
        go_wp2
        go_ret
        exact ⟨ret_int HN.out.symm, HBl.out y⟩
      · have HN := hideP (K2.out (decide_eq_false hd))
        have hq : (r.day == n) = false := by simp [hd]
        go_wp2
        exact ⟨⟨k + 1, by omega, by go_num, HN.out, y, rfl⟩, by simp [intOf]; omega⟩
    · have HN := hideP (if_end (by omega) HF.out)
      go_wp2
      go_ret
      exact ⟨ret_int HN.out.symm, HBl.out y⟩
end Go.Proofs.YtjojgfdfbkmlkaaGreatDoor.ctr
namespace Go.Proofs.YtjojgfdfbkmlkaaGreatDoor.ctr
open Go.RowKit
theorem bare_has {t : Int} : ∀ (L : List Seg) (f n : Int), bareS t L f = false → f ≤ n → n ≤ t → ∃ s ∈ L, s.fr ≤ n ∧ n ≤ s.to
  | [], f, n, h, h1, h2 => by
    rw [bareS] at h
    have := of_decide_eq_false h
    omega
  | s :: l, f, n, h, h1, h2 => by
    rw [bareS, if_pos (by omega)] at h
    by_cases a : s.to < f
    · rw [if_pos a] at h
      obtain ⟨x, hx, hh⟩ := bare_has l f n h h1 h2
      exact ⟨x, List.mem_cons_of_mem _ hx, hh⟩
    · rw [if_neg a] at h
      by_cases b : f < s.fr
      · rw [if_pos b] at h; cases h
      · rw [if_neg b] at h
        by_cases c : n ≤ s.to
        · exact ⟨s, List.mem_cons_self, by omega, c⟩
        · rw [if_neg (by omega)] at h
          obtain ⟨x, hx, hh⟩ := bare_has l (s.to + 1) n h (by omega) h2
          exact ⟨x, List.mem_cons_of_mem _ hx, hh⟩
theorem tiles_has {f t n : Int} {l : List Seg} (h : tilesZ f t l = 0) (h1 : f ≤ n) (h2 : n ≤ t) : ∃ s ∈ l, s.fr ≤ n ∧ n ≤ s.to := by
  unfold tilesZ tileC at h
  by_cases a : sharedB (fullS l) = true
  · rw [if_pos a] at h; omega
  · rw [if_neg a] at h
    by_cases b : bareS t (fullS l) f = true
    · rw [if_pos b] at h; omega
    · obtain ⟨s, hs, hh⟩ := bare_has (fullS l) f n (by simpa using b) h1 h2
      exact ⟨s, full_mem hs, hh⟩
theorem ifc_cases {α : Type} (K : IK α) (p : α → Bool) : ∀ (l : List α) (j : Nat), (ifFrom p l j = -1 ∧ ∀ x ∈ l, p x = false) ∨ ∃ k, k < l.length ∧ ifFrom p l j = ((j + k : Nat) : Int) ∧ p (atK K l k) = true
  | [], j => .inl ⟨rfl, fun x hx => by cases hx⟩
  | a :: l, j => by
    rw [ifFrom]
    cases h : p a
    · rw [if_neg (by simp)]
      rcases ifc_cases K p l (j + 1) with ⟨h1, h2⟩ | ⟨k, hk, h1, h2⟩
      · exact .inl ⟨h1, fun x hx => by rcases List.mem_cons.1 hx with rfl | hx; exact h; exact h2 x hx⟩
      · exact .inr ⟨k + 1, by simp; omega, by rw [h1]; congr 1; omega, by simpa [atK] using h2⟩
    · rw [if_pos rfl]
      exact .inr ⟨0, by simp, by simp, by simpa [atK] using h⟩
theorem segAt_cases (l : List Seg) (n : Int) : (segAt l n = -1 ∧ ∀ x ∈ l, segHas n x = false) ∨ ∃ k, k < l.length ∧ segAt l n = (k : Int) ∧ (atK segK l k).fr ≤ n ∧ n ≤ (atK segK l k).to := by
  rcases ifc_cases segK (segHas n) l 0 with h | ⟨k, hk, h1, h2⟩
  · exact .inl h
  · refine .inr ⟨k, hk, by unfold segAt ifind; rw [h1]; congr 1; omega, ?_⟩
    unfold segHas at h2
    by_cases a : (atK segK l k).fr ≤ n
    · by_cases b : n ≤ (atK segK l k).to
      · exact ⟨a, b⟩
      · rw [inB_false (.inr (by omega))] at h2; cases h2
    · rw [inB_false (.inl (by omega))] at h2; cases h2
theorem regime_parts {r : Rgm} (h : regimeB r = true) : allTo (segFit r.fr r.to r.segs) r.segs.length = true ∧ tilesZ r.fr r.to r.segs = 0 := by
  unfold regimeB segsB at h
  simp only [Bool.and_eq_true, decide_eq_true_eq] at h
  exact h.2.2.2.1.2
theorem seg_fact {r : Rgm} (h : regimeB r = true) (n : Int) : 0 ≤ segAt r.segs n ↔ (r.fr ≤ n ∧ n ≤ r.to) := by
  obtain ⟨ha, ht⟩ := regime_parts h
  constructor
  · intro h0
    rcases segAt_cases r.segs n with ⟨h1, _⟩ | ⟨k, hk, h1, h2, h3⟩
    · omega
    · have := segFit_ok (allTo_at ha hk)
      omega
  · rintro ⟨h1, h2⟩
    rcases segAt_cases r.segs n with ⟨_, h3⟩ | ⟨k, hk, h3, _⟩
    · obtain ⟨s, hs, h4, h5⟩ := tiles_has ht h1 h2
      have := h3 s hs
      unfold segHas at this
      rw [inB_true h4 h5] at this
      cases this
    · omega
end Go.Proofs.YtjojgfdfbkmlkaaGreatDoor.ctr
namespace Go.Proofs.YtjojgfdfbkmlkaaGreatDoor.ctr
open Go.RowKit
theorem tagS_mem : ∀ (l : List Seg) (b : Nat) (x : PSeg), x ∈ tagS l b → x.s ∈ l
  | [], b, x, h => by simp [tagS] at h
  | s :: l, b, x, h => by
    simp only [tagS, List.mem_cons] at h
    rcases h with rfl | h
    · exact List.mem_cons_self
    · exact List.mem_cons_of_mem _ (tagS_mem l (b + 1) x h)
theorem tagS_map : ∀ (l : List Seg) (b : Nat), (tagS l b).map PSeg.s = l
  | [], b => rfl
  | s :: l, b => by simp [tagS, tagS_map l (b + 1)]
end Go.Proofs.YtjojgfdfbkmlkaaGreatDoor.ctr
namespace Go.Proofs.YtjojgfdfbkmlkaaGreatDoor.ctr
open Go.RowKit
def lineD (c y m d : Int) : Int := first c y + before c y (m - 1).toNat + d - 1
theorem lineD_dayOf {c y m d : Int} (h : dateP c y m d) : dayOf c y m d = lineD c y m d := by unfold dayOf lineD; rw [if_pos h]
def start (c s y : Int) : Int :=
  if s = 1 then lineD c y 3 1
  else if s = 2 then lineD c y 3 25
  else if s = 3 then lineD c (y - 1) 3 25
  else if s = 4 then easL c y
  else if s = 5 then lineD c (y - 1) 9 1
  else if s = 6 then lineD c (y - 1) 12 25
  else first c y
theorem start_0 (c y : Int) : start c 0 y = lineD c y 1 1 := by
  unfold start lineD
  rw [if_neg (by omega), if_neg (by omega), if_neg (by omega), if_neg (by omega), if_neg (by omega), if_neg (by omega), show ((1 : Int) - 1).toNat = 0 from rfl]
  simp only [before]
  omega
theorem start_1 (c y : Int) : start c 1 y = lineD c y 3 1 := by unfold start; rw [if_pos rfl]
theorem start_2 (c y : Int) : start c 2 y = lineD c y 3 25 := by unfold start; rw [if_neg (by omega), if_pos rfl]
theorem start_3 (c y : Int) : start c 3 y = lineD c (y - 1) 3 25 := by unfold start; rw [if_neg (by omega), if_neg (by omega), if_pos rfl]
theorem start_4 (c y : Int) : start c 4 y = easL c y := by unfold start; rw [if_neg (by omega), if_neg (by omega), if_neg (by omega), if_pos rfl]
theorem start_5 (c y : Int) : start c 5 y = lineD c (y - 1) 9 1 := by unfold start; rw [if_neg (by omega), if_neg (by omega), if_neg (by omega), if_neg (by omega), if_pos rfl]
theorem start_6 (c y : Int) : start c 6 y = lineD c (y - 1) 12 25 := by unfold start; rw [if_neg (by omega), if_neg (by omega), if_neg (by omega), if_neg (by omega), if_neg (by omega), if_pos rfl]
theorem line_in {c y m d : Int} (hc : c = 0 ∨ c = 1) (h1 : 1 ≤ m) (h2 : m ≤ 12) (d1 : 1 ≤ d) (d2 : d ≤ monthDays c y m) : first c y ≤ lineD c y m d ∧ lineD c y m d < first c (y + 1) := by
  have k1 := before_bound c y (m - 1).toNat
  have k2 := before_mono c y (m - 1).toNat 1
  have k3 : before c y ((m - 1).toNat + 1) = before c y (m - 1).toNat + monthDays c y (((m - 1).toNat + 1 : Nat) : Int) := rfl
  have k4 := before_mono c y ((m - 1).toNat + 1) (12 - ((m - 1).toNat + 1))
  rw [show (m - 1).toNat + 1 + (12 - ((m - 1).toNat + 1)) = 12 by omega] at k4
  rw [show (((m - 1).toNat + 1 : Nat) : Int) = m by omega] at k3
  have k5 := first_step hc y
  unfold lineD
  omega
theorem md3 {c y : Int} (hc : c = 0 ∨ c = 1) : monthDays c y 3 = 31 := monthDays_plain (y := y) hc (m := 3) (by omega) (by omega) (by omega)
theorem md4 {c y : Int} (hc : c = 0 ∨ c = 1) : monthDays c y 4 = 30 := monthDays_plain (y := y) hc (m := 4) (by omega) (by omega) (by omega)
theorem md1 {c y : Int} (hc : c = 0 ∨ c = 1) : monthDays c y 1 = 31 := monthDays_plain (y := y) hc (m := 1) (by omega) (by omega) (by omega)
theorem md9 {c y : Int} (hc : c = 0 ∨ c = 1) : monthDays c y 9 = 30 := monthDays_plain (y := y) hc (m := 9) (by omega) (by omega) (by omega)
theorem md12 {c y : Int} (hc : c = 0 ∨ c = 1) : monthDays c y 12 = 31 := monthDays_plain (y := y) hc (m := 12) (by omega) (by omega) (by omega)
theorem easL_in {c y : Int} (hc : c = 0 ∨ c = 1) (h1 : 1 ≤ y) (h2 : y ≤ 4000) : first c y ≤ easL c y ∧ easL c y < first c (y + 1) := by
  have k := easter_fact_at hc h1 h2
  have h3 := md3 (y := y) hc
  have h4 := md4 (y := y) hc
  show first c y ≤ lineD c y (sumE c y / 31) (sumE c y % 31 + 1) ∧ lineD c y (sumE c y / 31) (sumE c y % 31 + 1) < _
  by_cases hm : sumE c y / 31 = 3
  · rw [hm]
    exact line_in hc (by omega) (by omega) (by omega) (by omega)
  · rw [show sumE c y / 31 = 4 by omega]
    exact line_in hc (by omega) (by omega) (by omega) (by omega)
theorem start_in {c s y : Int} (hc : c = 0 ∨ c = 1) (hs : styleP s) (h1 : 1 ≤ y) (h2 : y ≤ 4000) : first c (y - 1) ≤ start c s y ∧ start c s y < first c (y + 1) := by
  have f1 := first_lt hc (show y - 1 < y by omega)
  have f2 := first_lt hc (show y < y + 1 by omega)
  rcases style_cases hs with rfl | rfl | rfl | rfl | rfl | rfl | rfl
  · rw [start_0]
    have k := line_in (c := c) (y := y) (m := 1) (d := 1) hc (by omega) (by omega) (by omega) (by rw [md1 hc]; omega)
    omega
  · rw [start_1]
    have k := line_in (c := c) (y := y) (m := 3) (d := 1) hc (by omega) (by omega) (by omega) (by rw [md3 hc]; omega)
    omega
  · rw [start_2]
    have k := line_in (c := c) (y := y) (m := 3) (d := 25) hc (by omega) (by omega) (by omega) (by rw [md3 hc]; omega)
    omega
  · rw [start_3]
    have k := line_in (c := c) (y := y - 1) (m := 3) (d := 25) hc (by omega) (by omega) (by omega) (by rw [md3 hc]; omega)
    rw [show y - 1 + 1 = y by omega] at k
    omega
  · rw [start_4]
    have k := easL_in hc h1 h2
    omega
  · rw [start_5]
    have k := line_in (c := c) (y := y - 1) (m := 9) (d := 1) hc (by omega) (by omega) (by omega) (by rw [md9 hc]; omega)
    rw [show y - 1 + 1 = y by omega] at k
    omega
  · rw [start_6]
    have k := line_in (c := c) (y := y - 1) (m := 12) (d := 25) hc (by omega) (by omega) (by omega) (by rw [md12 hc]; omega)
    rw [show y - 1 + 1 = y by omega] at k
    omega
theorem start_lt {c s y : Int} (hc : c = 0 ∨ c = 1) (hs : styleP s) (h1 : 1 ≤ y) (h2 : y ≤ 3999) : start c s y < start c s (y + 1) := by
  rcases style_cases hs with rfl | rfl | rfl | rfl | rfl | rfl | rfl
  · rw [start_0, start_0]
    have k := line_in (c := c) (y := y) (m := 1) (d := 1) hc (by omega) (by omega) (by omega) (by rw [md1 hc]; omega)
    have k' := line_in (c := c) (y := y + 1) (m := 1) (d := 1) hc (by omega) (by omega) (by omega) (by rw [md1 hc]; omega)
    omega
  · rw [start_1, start_1]
    have k := line_in (c := c) (y := y) (m := 3) (d := 1) hc (by omega) (by omega) (by omega) (by rw [md3 hc]; omega)
    have k' := line_in (c := c) (y := y + 1) (m := 3) (d := 1) hc (by omega) (by omega) (by omega) (by rw [md3 hc]; omega)
    omega
  · rw [start_2, start_2]
    have k := line_in (c := c) (y := y) (m := 3) (d := 25) hc (by omega) (by omega) (by omega) (by rw [md3 hc]; omega)
    have k' := line_in (c := c) (y := y + 1) (m := 3) (d := 25) hc (by omega) (by omega) (by omega) (by rw [md3 hc]; omega)
    omega
  · rw [start_3, start_3, show y + 1 - 1 = y by omega]
    have k := line_in (c := c) (y := y - 1) (m := 3) (d := 25) hc (by omega) (by omega) (by omega) (by rw [md3 hc]; omega)
    have k' := line_in (c := c) (y := y) (m := 3) (d := 25) hc (by omega) (by omega) (by omega) (by rw [md3 hc]; omega)
    rw [show y - 1 + 1 = y by omega] at k
    omega
  · rw [start_4, start_4]
    have k := easL_in hc h1 (by omega)
    have k' := easL_in (y := y + 1) hc (by omega) (by omega)
    omega
  · rw [start_5, start_5, show y + 1 - 1 = y by omega]
    have k := line_in (c := c) (y := y - 1) (m := 9) (d := 1) hc (by omega) (by omega) (by omega) (by rw [md9 hc]; omega)
    have k' := line_in (c := c) (y := y) (m := 9) (d := 1) hc (by omega) (by omega) (by omega) (by rw [md9 hc]; omega)
    rw [show y - 1 + 1 = y by omega] at k
    omega
  · rw [start_6, start_6, show y + 1 - 1 = y by omega]
    have k := line_in (c := c) (y := y - 1) (m := 12) (d := 25) hc (by omega) (by omega) (by omega) (by rw [md12 hc]; omega)
    have k' := line_in (c := c) (y := y) (m := 12) (d := 25) hc (by omega) (by omega) (by omega) (by rw [md12 hc]; omega)
    rw [show y - 1 + 1 = y by omega] at k
    omega
theorem start_bound {c s y : Int} (hc : c = 0 ∨ c = 1) (hs : styleP s) (h1 : 1 ≤ y) (h2 : y ≤ 3900) : -2800 ≤ start c s y ∧ start c s y ≤ 1470000 := by
  have k := start_in hc hs h1 (by omega)
  have k1 := first_bound hc (show -5 ≤ y - 1 by omega) (show y - 1 ≤ 4000 by omega)
  have k2 := first_bound hc (show -5 ≤ y + 1 by omega) (show y + 1 ≤ 4000 by omega)
  omega
def rawYear (c s Y n : Int) : Int := if n < start c s Y then Y - 1 else if n < start c s (Y + 1) then Y else Y + 1
theorem raw_lo {c s Y n : Int} (h : n < start c s Y) : rawYear c s Y n = Y - 1 := by unfold rawYear; rw [if_pos h]
theorem raw_mid {c s Y n : Int} (h : ¬ n < start c s Y) (h' : n < start c s (Y + 1)) : rawYear c s Y n = Y := by unfold rawYear; rw [if_neg h, if_pos h']
theorem raw_hi {c s Y n : Int} (h : ¬ n < start c s Y) (h' : ¬ n < start c s (Y + 1)) : rawYear c s Y n = Y + 1 := by unfold rawYear; rw [if_neg h, if_neg h']
theorem start_far {c s Y n : Int} (hc : c = 0 ∨ c = 1) (hs : styleP s) (h1 : 1 ≤ Y) (h2 : Y ≤ 3000) (hn : n < first c (Y + 1)) : n < start c s (Y + 2) := by
  have k := start_in (y := Y + 2) hc hs (by omega) (by omega)
  rw [show Y + 2 - 1 = Y + 1 by omega] at k
  omega
theorem raw_iff {c s Y n y : Int} (hc : c = 0 ∨ c = 1) (hs : styleP s) (h1 : 1 ≤ Y) (h2 : Y ≤ 3000) (hn1 : first c Y ≤ n) (hn2 : n < first c (Y + 1)) (y1 : 1 ≤ y) (y2 : y ≤ 3000) : rawYear c s Y n = y ↔ start c s y ≤ n ∧ n < start c s (y + 1) := by
  have hf := start_far hc hs h1 h2 hn2
  have hl : 2 ≤ Y → start c s (Y - 1) ≤ n := fun h => by
    have k := start_in (y := Y - 1) hc hs (by omega) (by omega)
    rw [show Y - 1 + 1 = Y by omega] at k
    omega
  constructor
  · intro h
    by_cases a : n < start c s Y
    · rw [raw_lo a] at h
      subst h
      rw [show Y - 1 + 1 = Y by omega]
      exact ⟨hl (by omega), a⟩
    · by_cases b : n < start c s (Y + 1)
      · rw [raw_mid a b] at h
        subst h
        exact ⟨by omega, b⟩
      · rw [raw_hi a b] at h
        subst h
        rw [show Y + 1 + 1 = Y + 2 by omega]
        exact ⟨by omega, hf⟩
  · rintro ⟨g1, g2⟩
    -- y is one of Y - 1, Y, Y + 1
    have mono : ∀ k : Nat, ∀ z : Int, 1 ≤ z → z + k ≤ 3900 → start c s z ≤ start c s (z + k) := fun k => by
      induction k with
      | zero => intro z _ _; simp
      | succ k ih =>
        intro z h h'
        have a := ih z h (by omega)
        have b := start_lt (y := z + k) hc hs (by omega) (by omega)
        rw [show z + ((k + 1 : Nat) : Int) = z + k + 1 by omega]
        omega
    have hhi : y ≤ Y + 1 := by
      by_cases h : y ≤ Y + 1
      · exact h
      · have m := mono (y - (Y + 2)).toNat (Y + 2) (by omega) (by omega)
        rw [show Y + 2 + ((y - (Y + 2)).toNat : Int) = y by omega] at m
        omega
    have hlo : Y - 1 ≤ y := by
      by_cases h : Y - 1 ≤ y
      · exact h
      · have m := mono (Y - 1 - (y + 1)).toNat (y + 1) (by omega) (by omega)
        rw [show y + 1 + ((Y - 1 - (y + 1)).toNat : Int) = Y - 1 by omega] at m
        have := hl (by omega)
        omega
    rcases (show y = Y - 1 ∨ y = Y ∨ y = Y + 1 by omega) with rfl | rfl | rfl
    · rw [show Y - 1 + 1 = Y by omega] at g2
      exact raw_lo g2
    · exact raw_mid (by omega) g2
    · have := start_lt (y := Y) hc hs h1 (by omega)
      exact raw_hi (by omega) (by omega)
noncomputable def styYear (c s n : Int) : Int × Bool :=
  if (dateOf c n).2.2.2.2 = true ∧ styleP s ∧ 1 ≤ rawYear c s (dateOf c n).2.1 n ∧ rawYear c s (dateOf c n).2.1 n ≤ 3000 then (rawYear c s (dateOf c n).2.1 n, true) else (0, false)
theorem sty_none {c s n : Int} (h : dateOf c n = (0, 0, 0, 0, false)) : styYear c s n = (0, false) := by
  unfold styYear
  rw [if_neg (by rw [h]; simp)]
theorem sty_style {c s n : Int} (h : ¬ styleP s) : styYear c s n = (0, false) := by
  unfold styYear
  rw [if_neg (fun k => h k.2.1)]
theorem sty_yes {c s n Y m d : Int} (h : dateOf c n = (c, Y, m, d, true)) (hs : styleP s) (h1 : 1 ≤ rawYear c s Y n) (h2 : rawYear c s Y n ≤ 3000) : styYear c s n = (rawYear c s Y n, true) := by
  unfold styYear
  rw [h]
  exact if_pos ⟨rfl, hs, h1, h2⟩
theorem sty_out {c s n Y m d : Int} (h : dateOf c n = (c, Y, m, d, true)) (h1 : ¬ (1 ≤ rawYear c s Y n ∧ rawYear c s Y n ≤ 3000)) : styYear c s n = (0, false) := by
  unfold styYear
  rw [h]
  exact if_neg (fun k => h1 ⟨k.2.2.1, k.2.2.2⟩)
theorem sty_iff {c s n Y m d y : Int} (hc : c = 0 ∨ c = 1) (h : dateOf c n = (c, Y, m, d, true)) : styYear c s n = (y, true) ↔ styleP s ∧ 1 ≤ y ∧ y ≤ 3000 ∧ start c s y ≤ n ∧ n < start c s (y + 1) := by
  obtain ⟨_, hd, hn⟩ := date_back h
  have hl := line_in hc (dateP_month hd).1 (dateP_month hd).2 hd.2.2.2.1 hd.2.2.2.2
  rw [← lineD_dayOf hd, hn] at hl
  constructor
  · intro k
    by_cases hs : styleP s
    · by_cases hr : 1 ≤ rawYear c s Y n ∧ rawYear c s Y n ≤ 3000
      · rw [sty_yes h hs hr.1 hr.2] at k
        have e : rawYear c s Y n = y := by simpa using congrArg Prod.fst k
        have := (raw_iff hc hs hd.2.1 hd.2.2.1 hl.1 hl.2 (by omega) (by omega)).1 e
        exact ⟨hs, by omega, by omega, this.1, this.2⟩
      · rw [sty_out h hr] at k
        simp at k
    · rw [sty_style hs] at k
      simp at k
  · rintro ⟨hs, y1, y2, g1, g2⟩
    have e := (raw_iff hc hs hd.2.1 hd.2.2.1 hl.1 hl.2 y1 y2).2 ⟨g1, g2⟩
    rw [sty_yes h hs (by omega) (by omega), e]
end Go.Proofs.YtjojgfdfbkmlkaaGreatDoor.ctr
