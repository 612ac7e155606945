/- Contracts of the model's l09Full and Tiles; and what else the law reaches. -/
import Derived.Test.YtpclaceefapppaaGreatDoorSrtSpecZ
import Derived.Test.YtpclaceefapppaaGreatDoorJnZak
import Derived.Test.YtpclaceefapppaaGreatDoorJnZas
import Derived.Test.YtpclaceefapppaaGreatDoorJnZay
import Derived.Test.YtpclaceefapppaaGreatDoorJnZai
import Derived.Test.YtpclaceefapppaaGreatDoorJnZan
set_option maxRecDepth 100000
set_option maxHeartbeats 4000000
namespace Go.Proofs.YtpclaceefapppaaGreatDoor.ctr
open Go.RowKit
structure Ful1 (w : World) (L : List Seg) (k q c : Nat) (wr : World) : Prop where
 row : PRow segK 91 wr q c ((L.take k).filter hasDayB)
 lo : w.heap.size ≤ q
 below : Below w.heap.size w wr
theorem Ful1.len {w : World} {L : List Seg} {k q c : Nat} {wr : World} (_ : Ful1 w L k q c wr) : ((L.take k).filter hasDayB).length ≤ k := by
 have := List.length_filter_le hasDayB (L.take k)
 have h2 : (L.take k).length ≤ k := by simp; omega
 omega
theorem Ful1.skip {w : World} {L : List Seg} {k q c : Nat} {wr x : World} (h : Ful1 w L k q c wr) (hx : Below wr.heap.size wr x) (hk : k < L.length) (hd : hasDayB (sgA L k) = false) : Ful1 w L (k + 1) q c x ∧ (L.take (k + 1)).filter hasDayB = (L.take k).filter hasDayB := by
 have e := filter_snoc (p := hasDayB) hk
 rw [hd] at e
 simp only [Bool.false_eq_true, if_false, List.append_nil] at e
 exact ⟨⟨by rw [e]; exact h.row.below hx h.row.lt, h.lo, h.below.trans (hx.mono h.below.size)⟩, e⟩
theorem Ful1.take {w : World} {L : List Seg} {k q c q' c' : Nat} {wr x w2 : World} {o : Obj} (h : Ful1 w L k q c wr) (hx : Below wr.heap.size wr x) (hk : k < L.length) (hd : hasDayB (sgA L k) = true)
    (hown : w2.ownsRow w.heap.size 91 5 (.slice (some ⟨q', 0, none⟩) (((L.take k).filter hasDayB).length + 1) c') (((L.take k).filter hasDayB).length + 1) (icells segK ((L.take k).filter hasDayB) ++ icell segK (sgA L k))) (hgrow : (x.alloc o).grownBy w2 (some q)) (hat : q = q' ∨ q' = x.heap.size + 1) : Ful1 w L (k + 1) q' c' w2 ∧ ((L.take (k + 1)).filter hasDayB).length = ((L.take k).filter hasDayB).length + 1 := by
  have e := filter_snoc (p := hasDayB) hk
  rw [hd] at e
  simp only [if_true] at e
  have hb : Below w.heap.size w x := h.below.trans (hx.mono h.below.size)
  have hlen : ((L.take (k + 1)).filter hasDayB).length = ((L.take k).filter hasDayB).length + 1 := by rw [e]; simp
  obtain ⟨g2, c2, e2, _, hP⟩ := PRow.of_owns (K := segK) (T := 91) (w := w2) (base := w.heap.size) (L := (L.take (k + 1)).filter hasDayB) (v := .slice (some ⟨q', 0, none⟩) (((L.take k).filter hasDayB).length + 1) c') (by
   rw [hlen, e, icells_app, show icells segK [sgA L k] = icell segK (sgA L k) by simp [icells]]
   exact hown) (by rw [hlen]; omega)
  have e3 : q' = g2 ∧ c' = c2 := by
   have := e2
   rw [hlen] at this
   simpa using this
  obtain ⟨rfl, rfl⟩ := e3
  refine ⟨⟨hP, ?_, ?_⟩, hlen⟩
  · rcases hat with q | q
    · rw [← q]; exact h.lo
    · have := hb.size; omega
  · exact (hb.alloc hb.size o).trans (below_grown2 hgrow (by rw [World.size_alloc]; have := hb.size; omega) (fun k e => by cases e; exact h.lo))
theorem specFull (v : Value) (l : List Seg) (w : World) (h : IRow segK w v l) (hl : l.length ≤ 1048576) : Calls Tryz.prog 153 #[v] w fun e w' => ∃ o, e = .returned o ∧ SNew w w' o (fullS l) ∧ Below w.heap.size w w' := by
 obtain ⟨i0, hi, he⟩ := Option.map_eq_some_iff.1 info_seg
 simp only [Prod.mk.injEq] at he
 obtain ⟨hz0, hz1, hz2⟩ := he
 have hb0 : Below w.heap.size w (w.alloc (.cells #[] 91)) := (Below.refl _ _).alloc (Nat.le_refl _) _
 have KS := hideP (specSorted v l _ (h.below hb0) hl)
 have HB0 := hideP hb0
 obtain ⟨ad, ca, rfl, hca, hcm, _⟩ := h
 have hsl := sortS_len l
 have HF : Hid (fullS l = (sortS l).filter hasDayB) := rfl
 obtain ⟨N, hN⟩ : ∃ N, N = (sortS l).length := ⟨_, rfl⟩
 have hNl : N ≤ 1048576 := by omega
 have HNl := hideP hN
 clear hb0 hsl hN
 go_enter Tryz.func153, Tryz.ntmps153
 go_wp2_with fail
 refine KS.out.mono ?_
 rintro e w1 ⟨o, rfl, ⟨gs, cs, rfl, hgs, hP⟩, hB⟩
 have HP := hideP hP
 have HB := hideP hB
 have hcs : N ≤ cs := by obtain ⟨_, _, _, q, _⟩ := hP; rw [HNl.out]; exact q
 have hcsm : cs ≤ 2 ^ 63 - 1 := by obtain ⟨_, _, _, _, q, _⟩ := hP; exact q
 have hgs1 := hideP hP.lt
 have S0 : Hid (Ful1 w (sortS l) 0 w.heap.size 0 w1) := by
  refine ⟨⟨#[], ?_, rfl, by simp, by unfold maxLen; omega, fun k hk => by simp at hk⟩, Nat.le_refl _, HB0.out.trans (hB.mono HB0.out.size)⟩
  exact (Blk.new w _ _).below hB (by rw [World.size_alloc]; omega)
 have hne : gs ≠ w.heap.size := by rw [World.size_alloc] at hgs; omega
 rw [← HNl.out]
 have HRow : Hid (∀ k, k < N → IAt segK w1 gs k (sgA (sortS l) k)) := fun k hk => hP.at (by rw [← HNl.out]; exact hk)
 have HLo : Hid (w.heap.size + 1 ≤ gs) := by rw [World.size_alloc] at hgs; exact hgs
 clear hP hB hgs
 go_wp2
 go_loopw [3, 5] (fun o i wr => ∃ (k q c : Nat), k ≤ N ∧ i = .int .i64 (k : Int) ∧ o = .slice (some ⟨q, 0, none⟩) ((((sortS l).take k).filter hasDayB).length) c ∧ q ≠ gs ∧ Ful1 w (sortS l) k q c wr ∧ (∀ k, k < N → IAt segK wr gs k (sgA (sortS l) k)) ∧ gs < wr.heap.size) (fun _ i _ => N - (intOf i).toNat)
 case atStart => exact ⟨0, _, _, Nat.zero_le _, rfl, by simp, Ne.symm hne, S0.out, HRow.out, hgs1.out⟩
 case round =>
  obtain ⟨k, q, c, hk, rfl, rfl, hq, hF, hR, hgl⟩ := hrel
  have HF1 := hideP hF
  have HR1 := hideP hR
  clear hF hR S0
  by_cases hlt : k < N
  · have hkL : Hid (k < (sortS l).length) := by unfold Hid; rw [← HNl.out]; exact hlt
    have HC : Hid (∀ y : Later wr, IAt segK y.w gs k (sgA (sortS l) k)) := fun y => (HR1.out k hlt).below y.below hgl
    have e0 : ∀ y : Later wr, y.w.cell? ⟨gs, k * 5, none⟩ = some (.int .i64 (sgA (sortS l) k).fr) := fun y => (HC.out y).seg.1
    have e1 : ∀ y : Later wr, y.w.cell? ⟨gs, k * 5 + 1, none⟩ = some (.int .i64 (sgA (sortS l) k).to) := fun y => (HC.out y).seg.2.1
    have e2 : ∀ y : Later wr, y.w.cell? ⟨gs, k * 5 + 2, none⟩ = some (.int .i64 (sgA (sortS l) k).cal) := fun y => (HC.out y).seg.2.2.1
    have e3 : ∀ y : Later wr, y.w.cell? ⟨gs, k * 5 + 3, none⟩ = some (.int .i64 (sgA (sortS l) k).sty) := fun y => (HC.out y).seg.2.2.2.1
    have e4 : ∀ y : Later wr, y.w.cell? ⟨gs, k * 5 + 4, none⟩ = some (.int .i64 (sgA (sortS l) k).off) := fun y => (HC.out y).seg.2.2.2.2
    have hm := HF1.out.len
    have HT : Hid (∀ (x : Later wr) w2 (o : Obj) q' c', hasDayB (sgA (sortS l) k) = true → w2.ownsRow w.heap.size 91 5 (.slice (some ⟨q', 0, none⟩) ((((sortS l).take k).filter hasDayB).length + 1) c') ((((sortS l).take k).filter hasDayB).length + 1) (icells segK (((sortS l).take k).filter hasDayB) ++ icell segK (sgA (sortS l) k)) → (x.w.alloc o).grownBy w2 (some q) → (q = q' ∨ q' = x.w.heap.size + 1) → (Ful1 w (sortS l) (k + 1) q' c' w2 ∧ (((sortS l).take (k + 1)).filter hasDayB).length = (((sortS l).take k).filter hasDayB).length + 1) ∧ (∀ k, k < N → IAt segK w2 gs k (sgA (sortS l) k)) ∧ gs < w2.heap.size ∧ q' ≠ gs) := fun x w2 o q' c' hd h1 h2 h3 => by
     refine ⟨HF1.out.take x.below hkL.out hd h1 h2 h3, fun k' hk' j z hz => ?_, ?_, ?_⟩
     · have h4 := ((HR1.out k' hk').below x.below hgl) j z hz
       have hgx : gs < x.w.heap.size := Nat.lt_of_lt_of_le hgl x.below.size
       refine h2.cell (a := ⟨gs, k' * segK.m + j, none⟩) ?_ (fun e => hq (by simpa using e.symm))
       exact Later.at h4 ⟨x.w.alloc o, (Below.refl _ _).alloc (Nat.le_refl _) _⟩
     · have := h2.size; rw [World.size_alloc] at this; have := x.below.size; omega
     · rcases h3 with h3 | h3
       · rw [← h3]; exact hq
       · have := x.below.size; omega
    have HSk : Hid (∀ x : Later wr, hasDayB (sgA (sortS l) k) = false → (Ful1 w (sortS l) (k + 1) q c x.w ∧ ((sortS l).take (k + 1)).filter hasDayB = ((sortS l).take k).filter hasDayB) ∧ (∀ k, k < N → IAt segK x.w gs k (sgA (sortS l) k)) ∧ gs < x.w.heap.size) := fun x hd => ⟨HF1.out.skip x.below hkL.out hd, fun k' hk' => (HR1.out k' hk').below x.below hgl, Nat.lt_of_lt_of_le hgl x.below.size⟩
    have HOw : Hid (∀ (x : Later wr) (o : Obj), (x.w.alloc o).ownsRow w.heap.size 91 5 (.slice (some ⟨q, 0, none⟩) ((((sortS l).take k).filter hasDayB).length) c) ((((sortS l).take k).filter hasDayB).length) (icells segK (((sortS l).take k).filter hasDayB))) := fun x o => ((HF1.out.row.below x.below HF1.out.row.lt).owns (by decide) HF1.out.lo).alloc o
    have hsz : Hid (w.heap.size ≤ wr.heap.size) := HF1.out.below.size
    obtain ⟨m, hmE⟩ : ∃ m, m = (((sortS l).take k).filter hasDayB).length := ⟨_, rfl⟩
    rw [← hmE] at HT hm HOw ⊢
    have HmE := hideP hmE
    clear hmE HC
    obtain ⟨s, hs⟩ : ∃ s, s = sgA (sortS l) k := ⟨_, rfl⟩
    rw [← hs] at e0 e1 e2 e3 e4 HT HSk
    have Hs := hideP hs
    clear hs
    by_cases hd : s.fr ≤ s.to
    · have hd' : decide (s.fr ≤ s.to) = true := decide_eq_true hd
      go_wp2_with fail
      refine wp_region_later (W := wr) (Below.refl _ _) (by kernel_rfl) (by kernel_rfl) ?_
      repeat (go_big_quiet_step (fail))
      refine quietE fun x => ?_
      have hown := hideP (HOw.out x (.cells (icell segK s).toArray 91))
      have hnews := hideP (news_seg x.w s 91)
      have hbase : Hid (w.heap.size ≤ (x.w.alloc (.cells (icell segK s).toArray 91)).heap.size) := by
       unfold Hid
       rw [World.size_alloc]
       have := hsz.out
       have := x.below.size
       omega
      go_wp2_with (at_builtin; refine wpList_append_lies _ rfl _ _ 31 rfl w.heap.size 91 i0 (.agg #[.int .i64 0, .int .i64 0, .int .i64 0, .int .i64 0, .int .i64 0]) 5 40 Tryz.underlying31 hi hz0 hz1 hz2 rfl (by decide) _ m _ rfl hown.out ⟨x.w.heap.size, 0, none⟩ 1 1 (icell segK s) rfl rfl hnews.out (by simp [icell, Value.oneCell']) (by omega) (by unfold maxLen; omega) (by omega) hbase.out (x.w.heap.size + 1) (by rw [World.size_alloc]) ?_; intro q' c' w2 hown2 hgrow hat hlt2; have hown3 := hideP hown2; have hgrow3 := hideP hgrow; have hat3 := hideP hat; clear hown2 hgrow hat hlt2)
      have hat4 : q = q' ∨ q' = x.w.heap.size + 1 := by
       rcases hat3.out with e | e
       · exact .inl (Option.some.inj e)
       · exact .inr e
      have O2 := hideP (HT.out x w2 _ q' c' (decide_eq_true hd) hown3.out hgrow3.out hat4)
      exact ⟨⟨k + 1, q', c', by omega, by go_num, by rw [O2.out.1.2], O2.out.2.2.2, O2.out.1.1, O2.out.2.1, O2.out.2.2.1⟩, by simp [intOf]; omega⟩
    · have hd' : decide (s.fr ≤ s.to) = false := decide_eq_false hd
      go_wp2_with fail
      refine wp_region_later (W := wr) (Below.refl _ _) (by kernel_rfl) (by kernel_rfl) ?_
      repeat (go_big_quiet_step (fail))
      refine quietE fun x => ?_
      have O2 := hideP (HSk.out x hd')
      go_wp2_with fail
      exact ⟨⟨k + 1, q, c, by omega, by go_num, by rw [O2.out.1.2, HmE.out], hq, O2.out.1.1, O2.out.2.1, O2.out.2.2⟩, by simp [intOf]; omega⟩
  · have HE : Hid (SNew w wr (.slice (some ⟨q, 0, none⟩) ((((sortS l).take k).filter hasDayB).length) c) (fullS l)) := by
     have hkl : (sortS l).take k = sortS l := List.take_of_length_le (by rw [← HNl.out]; omega)
     have hr := HF1.out.row
     rw [hkl] at hr ⊢
     exact ⟨q, c, rfl, HF1.out.lo, hr⟩
    have HB2 := hideP HF1.out.below
    go_wp2
    go_ret
    exact ⟨_, rfl, HE.out, HB2.out⟩
theorem tile_one {f t : Int} {L : List Seg} (h : sharedP L) : tileC f t L = 1 := by unfold tileC; rw [if_pos (shared_yes h)]
theorem tile_two {f t : Int} {L : List Seg} (h : ¬ sharedP L) (hb : bareS t L f = true) : tileC f t L = 2 := by unfold tileC; rw [shared_no h, if_neg (by simp), if_pos hb]
theorem tile_no {f t : Int} {L : List Seg} (h : ¬ sharedP L) (hb : bareS t L f = false) : tileC f t L = 0 := by unfold tileC; rw [shared_no h, if_neg (by simp), hb, if_neg (by simp)]
theorem specTiles (f t : Int) (v : Value) (l : List Seg) (w : World) (h : IRow segK w v l) (hl : l.length ≤ 1048576) (hf : -9223372036854775808 ≤ f) (ht : t ≤ 9223372036854775807) : CR 106 #[.int .i64 f, .int .i64 t, v] w (.int .i64 (tilesZ f t l)) := by
 have KF := hideP (specFull v l w h hl)
 have hfl := full_len l
 unfold tilesZ
 obtain ⟨ad, ca, rfl, _⟩ := h
 generalize fullS l = L at *
 obtain ⟨R, hR⟩ : ∃ R, R = tileC f t L := ⟨_, rfl⟩
 have HR := hideP hR
 rw [← hR]
 obtain ⟨N, hN⟩ : ∃ N, N = L.length := ⟨_, rfl⟩
 have HN := hideP hN
 have hNl : N ≤ 1048576 := by omega
 clear hR hN hfl
 go_enter Tryz.func106, Tryz.ntmps106
 go_wp2_with fail
 refine KF.out.mono ?_
 rintro e w1 ⟨o, rfl, ⟨g, c, rfl, hg, hP⟩, hB⟩
 have HP := hideP hP
 have HB := hideP hB
 have HC : Hid (∀ (y : Later w1) k, k < N → y.w.cell? ⟨g, k * 5, none⟩ = some (.int .i64 (sgA L k).fr) ∧ y.w.cell? ⟨g, k * 5 + 1, none⟩ = some (.int .i64 (sgA L k).to)) := fun y k hk => by
  have := ((hP.at (k := k) (by rw [← HN.out]; exact hk)).below y.below hP.lt).seg
  exact ⟨this.1, this.2.1⟩
 have hcs : N ≤ c := by obtain ⟨_, _, _, q, _⟩ := hP; rw [HN.out]; exact q
 have hcsm : c ≤ 2 ^ 63 - 1 := by obtain ⟨_, _, _, _, q, _⟩ := hP; exact q
 rw [← HN.out]
 clear hP hB hg
 go_wp2
 go_loopw [8] (fun i wr => ∃ k : Nat, i = .int .i64 ((k : Int) + 1) ∧ k ≤ N ∧ Hid (NoSh L N k) ∧ ∃ y : Later w1, wr = y.w) (fun i _ => N + 1 - (intOf i).toNat)
 case atStart => exact ⟨0, rfl, Nat.zero_le _, fun j h1 h2 => by omega, ⟨w1, Below.refl _ _⟩, rfl⟩
 case round =>
  obtain ⟨k, rfl, hk, HJ, y, rfl⟩ := hrel
  by_cases hlt : k + 1 < N
  · have hlt' : (k : Int) + 1 < (N : Int) := by omega
    have e1 : (k : Int) + 1 - 1 = (k : Int) := by omega
    have a0 : ∀ y : Later w1, y.w.cell? ⟨g, (k + 1) * 5, none⟩ = some (.int .i64 (sgA L (k + 1)).fr) := fun y => (HC.out y (k + 1) hlt).1
    have a1 : ∀ y : Later w1, y.w.cell? ⟨g, k * 5 + 1, none⟩ = some (.int .i64 (sgA L k).to) := fun y => (HC.out y k (by omega)).2
    have HY : Hid ((sgA L (k + 1)).fr ≤ (sgA L k).to → R = 1) := fun q => by rw [HR.out]; exact tile_one ⟨k + 1, by omega, by rw [← HN.out]; exact hlt, q⟩
    have HX : Hid (¬ (sgA L (k + 1)).fr ≤ (sgA L k).to → NoSh L N (k + 1)) := fun q j h1 h2 h3 => by
     by_cases e : j = k + 1
     · subst e; exact q
     · exact HJ.out j h1 (by omega) h3
    clear HJ
    generalize (sgA L (k + 1)).fr = p at *
    generalize (sgA L k).to = q at *
    by_cases hpq : p ≤ q
    · have hd : decide (p ≤ q) = true := decide_eq_true hpq
      have HE := hideP (HY.out hpq)
      go_wp2_with fail
      refine wp_region_later (W := w1) y.below (by kernel_rfl) (by kernel_rfl) ?_
      repeat (go_big_quiet_step (fail))
      refine quietE fun x => ?_
      go_wp2_with fail
      go_ret
      exact ⟨ret_int HE.out.symm, HB.out.trans (x.below.mono HB.out.size)⟩
    · have hd : decide (p ≤ q) = false := decide_eq_false hpq
      have HE := hideP (HX.out hpq)
      go_wp2_with fail
      refine wp_region_later (W := w1) y.below (by kernel_rfl) (by kernel_rfl) ?_
      repeat (go_big_quiet_step (fail))
      refine quietE fun x => ?_
      go_wp2
      exact ⟨⟨k + 1, by go_num, by omega, HE.out, x, rfl⟩, by simp [intOf]; omega⟩
  · have hlt' : ¬ ((k : Int) + 1 < (N : Int)) := by omega
    have HS : Hid (¬ sharedP L) := fun ⟨i, h1, h2, h3⟩ => HJ.out i h1 (by rw [← HN.out] at h2; omega) (by rw [HN.out]; exact h2) h3
    clear HJ
    go_wp2
    go_loopw [9, 10] (fun n i wr => ∃ (k : Nat) (z : Int), k ≤ N ∧ i = .int .i64 (k : Int) ∧ n = .int .i64 z ∧ -9223372036854775808 ≤ z ∧ Hid (bareS t (L.drop k) z = bareS t L f) ∧ ∃ y : Later w1, wr = y.w) (fun _ i _ => N - (intOf i).toNat)
    case atStart => exact ⟨0, f, Nat.zero_le _, rfl, rfl, hf, by simp [Hid], y, rfl⟩
    case round =>
     obtain ⟨k, z, hk, rfl, rfl, hz, HF, y, rfl⟩ := hrel
     by_cases hkN : k < N
     case neg =>
      have hkN' : ¬ ((k : Int) < (N : Int)) := by omega
      have HE := hideP (bareS_end (to := t) (n := z) (L := L) (k := k) (by rw [← HN.out]; omega))
      by_cases hzt : z ≤ t
      · have HQ : Hid (R = 2) := by unfold Hid; rw [HR.out]; exact tile_two HS.out (by rw [← HF.out, HE.out]; exact decide_eq_true hzt)
        have hd : decide (z ≤ t) = true := decide_eq_true hzt
        go_wp2
        go_ret
        exact ⟨ret_int HQ.out.symm, HB.out.trans (y.below.mono HB.out.size)⟩
      · have HQ : Hid (R = 0) := by unfold Hid; rw [HR.out]; exact tile_no HS.out (by rw [← HF.out, HE.out]; exact decide_eq_false hzt)
        have hd : decide (z ≤ t) = false := decide_eq_false hzt
        go_wp2
        go_ret
        exact ⟨ret_int HQ.out.symm, HB.out.trans (y.below.mono HB.out.size)⟩
     have hkN' : (k : Int) < (N : Int) := by omega
     have HA := hideP (bareS_at (to := t) (n := z) (L := L) (k := k) (by rw [← HN.out]; exact hkN))
     have a0 : y.w.cell? ⟨g, k * 5, none⟩ = some (.int .i64 (sgA L k).fr) := (HC.out y k hkN).1
     have a1 : y.w.cell? ⟨g, k * 5 + 1, none⟩ = some (.int .i64 (sgA L k).to) := (HC.out y k hkN).2
     generalize sgA L k = s at *
     by_cases hzt : z ≤ t
     case neg =>
      have HQ : Hid (R = 0) := by unfold Hid; rw [HR.out]; exact tile_no HS.out (by rw [← HF.out, HA.out, if_neg hzt])
      have hd : decide (z ≤ t) = false := decide_eq_false hzt
      go_wp2
      go_ret
      exact ⟨ret_int HQ.out.symm, HB.out.trans (y.below.mono HB.out.size)⟩
     have hd : decide (z ≤ t) = true := decide_eq_true hzt
     by_cases h1 : s.to < z
     · have HQ : Hid (bareS t (L.drop (k + 1)) z = bareS t L f) := by unfold Hid; rw [← HF.out, HA.out, if_pos hzt, if_pos h1]
       have hd1 : decide (s.to < z) = true := decide_eq_true h1
       go_wp2
       exact ⟨⟨k + 1, z, by omega, by go_num, rfl, hz, HQ.out, y, rfl⟩, by simp [intOf]; omega⟩
     have hd1 : decide (s.to < z) = false := decide_eq_false h1
     by_cases h2 : z < s.fr
     · have HQ : Hid (R = 2) := by unfold Hid; rw [HR.out]; exact tile_two HS.out (by rw [← HF.out, HA.out, if_pos hzt, if_neg h1, if_pos h2])
       have hd2 : decide (z < s.fr) = true := decide_eq_true h2
       go_wp2
       go_ret
       exact ⟨ret_int HQ.out.symm, HB.out.trans (y.below.mono HB.out.size)⟩
     have hd2 : decide (z < s.fr) = false := decide_eq_false h2
     by_cases h3 : t ≤ s.to
     · have HQ : Hid (R = 0) := by unfold Hid; rw [HR.out]; exact tile_no HS.out (by rw [← HF.out, HA.out, if_pos hzt, if_neg h1, if_neg h2, if_pos h3])
       have hd3 : decide (t ≤ s.to) = true := decide_eq_true h3
       go_wp2
       go_ret
       exact ⟨ret_int HQ.out.symm, HB.out.trans (y.below.mono HB.out.size)⟩
     · have HQ : Hid (bareS t (L.drop (k + 1)) (s.to + 1) = bareS t L f) := by unfold Hid; rw [← HF.out, HA.out, if_pos hzt, if_neg h1, if_neg h2, if_neg h3]
       have hd3 : decide (t ≤ s.to) = false := decide_eq_false h3
       go_wp2
       exact ⟨⟨k + 1, s.to + 1, by omega, by go_num, by go_num, by omega, HQ.out, y, rfl⟩, by simp [intOf]; omega⟩
structure TxSt (w : World) (db g : Nat) (dv cur : Array Value) (W : World) : Prop where
 below : Below w.heap.size w W
 date : Blk W db dv 161
 fea : FeaBlk W g cur
theorem TxSt.later {w : World} {db g : Nat} {dv cur : Array Value} {W W' : World} (h : TxSt w db g dv cur W) (hb : Below W.heap.size W W') : TxSt w db g dv cur W' :=
 ⟨h.below.trans (hb.mono h.below.size), h.date.below hb h.date.lt, h.fea.below hb⟩
end Go.Proofs.YtpclaceefapppaaGreatDoor.ctr
