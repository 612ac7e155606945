/- Contract of the model's ReadRoman: it answers its plain function, at every text of at most 1048576 bytes. -/
import Derived.Test.YtpclaceefapppaaGreatDoorJnZaw
import Derived.Test.YtpclaceefapppaaGreatDoorJnZaz
import Derived.Deep.DeepCutAuto
import Derived.Deep.CutBlock
set_option maxRecDepth 100000
set_option maxHeartbeats 16000000
namespace Go.Proofs.YtpclaceefapppaaGreatDoor.ctr
open Go.RowKit
structure PSt (w : World) (g rb : Nat) (xs : List ByteArray) (a b c : Int) (t : Bool) (W : World) : Prop where
 below : Below w.heap.size w W
 res : Blk W w.heap.size romZ 54
 rom : Blk W rb #[.int .i64 a, .int .i64 b, .int .i64 c, .bool t] 54
 row : StrAt W g xs
 lt : g < W.heap.size
 ne1 : g ≠ rb
 ne2 : w.heap.size < rb
theorem PSt.later {w : World} {g rb : Nat} {xs : List ByteArray} {a b c : Int} {t : Bool} {W W' : World} (h : PSt w g rb xs a b c t W) (hb : Below W.heap.size W W') : PSt w g rb xs a b c t W' :=
 ⟨h.below.trans (hb.mono h.below.size), h.res.below hb h.res.lt, h.rom.below hb h.rom.lt, h.row.below hb h.lt, Nat.lt_of_lt_of_le h.lt hb.size, h.ne1, h.ne2⟩
theorem StrAt.other {W : World} {g rb i : Nat} {xs : List ByteArray} {v : Value} (h : StrAt W g xs) (hn : g ≠ rb) : StrAt (W.setCell ⟨rb, i, none⟩ v) g xs := fun j hj => by
 rw [World.cell?_setCell_other W _ _ _ (by intro e; injection e with e1; exact hn e1.symm)]
 exact h j hj
theorem PSt.count {w : World} {g rb : Nat} {xs : List ByteArray} {a b c : Int} {t : Bool} {W : World} (h : PSt w g rb xs a b c t W) (a' : Int) : PSt w g rb xs a' b c t (W.setCell ⟨rb, 0, none⟩ (.int .i64 a')) :=
 ⟨h.below.setCell (p := ⟨rb, 0, none⟩) (Nat.le_of_lt h.ne2) _, h.res.other (Nat.ne_of_gt h.ne2), h.rom.set 0 _, h.row.other h.ne1, by rw [mset_size]; exact h.lt, h.ne1, h.ne2⟩
theorem PSt.mark {w : World} {g rb : Nat} {xs : List ByteArray} {a b c : Int} {t : Bool} {W : World} (h : PSt w g rb xs a b c t W) (b' : Int) : PSt w g rb xs a b' c t (W.setCell ⟨rb, 1, none⟩ (.int .i64 b')) :=
 ⟨h.below.setCell (p := ⟨rb, 1, none⟩) (Nat.le_of_lt h.ne2) _, h.res.other (Nat.ne_of_gt h.ne2), h.rom.set 1 _, h.row.other h.ne1, by rw [mset_size]; exact h.lt, h.ne1, h.ne2⟩
theorem PSt.month {w : World} {g rb : Nat} {xs : List ByteArray} {a b c : Int} {t : Bool} {W : World} (h : PSt w g rb xs a b c t W) (c' : Int) : PSt w g rb xs a b c' t (W.setCell ⟨rb, 2, none⟩ (.int .i64 c')) :=
 ⟨h.below.setCell (p := ⟨rb, 2, none⟩) (Nat.le_of_lt h.ne2) _, h.res.other (Nat.ne_of_gt h.ne2), h.rom.set 2 _, h.row.other h.ne1, by rw [mset_size]; exact h.lt, h.ne1, h.ne2⟩
theorem PSt.twice {w : World} {g rb : Nat} {xs : List ByteArray} {a b c : Int} {t : Bool} {W : World} (h : PSt w g rb xs a b c t W) (t' : Bool) : PSt w g rb xs a b c t' (W.setCell ⟨rb, 3, none⟩ (.bool t')) :=
 ⟨h.below.setCell (p := ⟨rb, 3, none⟩) (Nat.le_of_lt h.ne2) _, h.res.other (Nat.ne_of_gt h.ne2), h.rom.set 3 _, h.row.other h.ne1, by rw [mset_size]; exact h.lt, h.ne1, h.ne2⟩
def wayS (s : ByteArray) (R : Rom × Bool) (tw : Bool) (ys : List ByteArray) : Prop := R = readBy (wordsR markS tw ys) s
theorem empty_t {b : ByteArray} (h : b.size = 0) : b.toList.isEmpty = true := by
 rw [ByteArray.toList_eq]
 simp
 exact Array.eq_empty_of_size_eq_zero h
theorem empty_f {b : ByteArray} (h : b.size ≠ 0) : b.toList.isEmpty = false := by
 rw [ByteArray.toList_eq]
 simp
 intro e
 exact h (by show b.data.size = 0; rw [e]; rfl)
def restAt (g : Nat) (xs : List ByteArray) (o : Nat) (zs : List ByteArray) : Prop := ∀ j, j < zs.length → ∀ W, StrAt W g xs → W.cell? ⟨g, o + j, none⟩ = some (.string (zs.getD j ⟨#[]⟩))
def words2 (cn : Int) (tw : Bool) : List ByteArray → Option Rom
  | [b, c] => some ⟨cn, markS b, monOf c, tw⟩
  | _ => none
theorem words_two {tw : Bool} {zs : List ByteArray} (h : zs.length ≠ 3) : wordsR markS tw zs = words2 1 tw zs := by
 match zs, h with
 | [], _ => rfl
 | [_], _ => rfl
 | [_, _], _ => rfl
 | [_, _, _], h => exact absurd rfl h
 | _ :: _ :: _ :: _ :: _, _ => rfl
theorem words2_none {cn : Int} {tw : Bool} {zs : List ByteArray} (h : zs.length ≠ 2) : words2 cn tw zs = none := by
 match zs, h with
 | [], _ => rfl
 | [_], _ => rfl
 | [_, _], h => exact absurd rfl h
 | _ :: _ :: _ :: _, _ => rfl
theorem specReadRoman (s : ByteArray) (w : World) (hs : s.size ≤ 1048576) : CR 100 #[.string s] w (readV (readRoman s)) := by
 obtain ⟨xs, hxs⟩ : ∃ xs, xs = cut s 32 := ⟨_, rfl⟩
 have KW := fun W => specWords s W hs
 have hmem : ∀ x ∈ xs, x.size ≤ 1048576 := fun x hx => by rw [hxs] at hx; have := cut_mem _ _ hx; omega
 have hxne : xs ≠ [] := by rw [hxs]; exact cut_ne _ _
 obtain ⟨R, hR⟩ : ∃ R, R = readRoman s := ⟨_, rfl⟩
 have HY : Hid (xs.getD 0 ⟨#[]⟩ = bisB → wayS s R true (xs.drop 1)) := fun h => by
  rw [hxs] at h
  unfold wayS
  rw [hR, readRoman, parseS, if_pos h, hxs]
 have HO : Hid (xs.getD 0 ⟨#[]⟩ ≠ bisB → wayS s R false xs) := fun h => by
  rw [hxs] at h
  unfold wayS
  rw [hR, readRoman, parseS, if_neg h, hxs]
 rw [← hxs] at KW
 rw [← hR]
 clear hxs hR
 obtain ⟨x0, ys, rfl⟩ : ∃ x0 ys, xs = x0 :: ys := by
  cases xs with
  | nil => exact absurd rfl hxne
  | cons x l => exact ⟨x, l, rfl⟩
 simp only [List.getD_cons_zero, List.drop_succ_cons, List.drop_zero] at HY HO
 obtain ⟨W0, hW0⟩ : ∃ W0, W0 = w.alloc (.cells romZ 54) := ⟨_, rfl⟩
 have B0 : Hid (Below w.heap.size w W0) := by unfold Hid; rw [hW0]; exact (Below.refl _ _).alloc (Nat.le_refl _) _
 have R0 : Hid (Blk W0 w.heap.size romZ 54) := by unfold Hid; rw [hW0]; exact Blk.new _ _ _
 have HW0 := hideP hW0
 clear hW0
 go_enter Tryz.func100, Tryz.ntmps100
 go_wp2_with fail
 rw [← HW0.out]
 refine (KW _).mono ?_
 rintro e W1 ⟨v, rfl, hrow, hb⟩
 obtain ⟨g, cap, rfl, hg, hgl, hst, _⟩ := own_row hrow hxne
 have hcap : (x0 :: ys).length ≤ cap := by
  rcases hrow.2 with ⟨h0, _⟩ | ⟨g', cap', cur, he, _, _, hc, _⟩
  · cases h0
  · cases he; exact hc
 have B1 : Hid (Below w.heap.size w W1) := B0.out.trans (hb.mono B0.out.size)
 have R1 : Hid (Blk W1 w.heap.size romZ 54) := R0.out.below hb R0.out.lt
 have ST := hideP hst
 have SA : Hid (∀ t, PSt w g W1.heap.size (x0 :: ys) 1 0 0 t (W1.alloc (romO 1 0 0 t))) := fun t => by
  have hba : Below W1.heap.size W1 (W1.alloc (romO 1 0 0 t)) := (Below.refl _ _).alloc (Nat.le_refl _) _
  exact ⟨B1.out.trans (hba.mono B1.out.size), R1.out.below hba R1.out.lt, Blk.new _ _ _, ST.out.below hba hgl, Nat.lt_of_lt_of_le hgl hba.size, by omega, R1.out.lt⟩
 have hl1 : ys.length < cap := by simp at hcap; omega
 have w0 : ∀ t, (W1.alloc (romO 1 0 0 t)).cell? ⟨g, 0, none⟩ = some (.string x0) := fun t => (SA.out t).row 0 (by simp)
 clear hrow hb hst KW B0 R0 HW0 hxne hcap hgl hg ST B1 R1
 obtain ⟨bv, hbv⟩ : ∃ bv, (x0.toList == [98, 105, 115]) = bv := ⟨_, rfl⟩
 go_upto_if 12 with fail
 go_cut [4] (fun s4 wx => ∃ (o C : Nat) (tw : Bool) (zs : List ByteArray), s4 = .slice (some ⟨g, o, none⟩) zs.length C ∧ zs.length ≤ C ∧ Hid (restAt g (x0 :: ys) o zs) ∧ Hid (∀ z ∈ zs, z.size ≤ 1048576) ∧ PSt w g W1.heap.size (x0 :: ys) 1 0 0 tw wx ∧ Hid (wayS s R tw zs))
 case first =>
  cases bv
  · have WY0 := hideP (HO.out (fun h => by rw [lit_yes (l := [98, 105, 115]) h] at hbv; cases hbv))
    have S3 := hideP (SA.out false)
    clear HY HO SA hbv
    go_wp2_with fail
    go_meet
    exact ⟨0, cap, false, x0 :: ys, rfl, by simp; omega, fun j hj W h => by rw [Nat.zero_add]; exact h j hj, hideP hmem, S3.out, WY0⟩
  · have hbis : x0 = bisB := by
     by_cases h : x0 = bisB
     · exact h
     · rw [lit_no (l := [98, 105, 115]) h] at hbv
       cases hbv
    have WY0 := hideP (HY.out hbis)
    have S3 := hideP (SA.out true)
    clear HY HO hbis SA hbv
    by_cases hc1 : cap = 1
    · have hy0 : ys = [] := List.length_eq_zero_iff.1 (by omega)
      subst hy0
      go_wp2_with fail
      go_meet
      exact ⟨0, 0, true, [], rfl, Nat.zero_le _, fun j hj => absurd hj (Nat.not_lt_zero _), fun z hz => by simp at hz, S3.out, WY0⟩
    · go_wp2_with fail
      go_meet
      exact ⟨1, cap - 1, true, ys, rfl, by omega, fun j hj W h => by rw [Nat.add_comm 1 j]; exact h (j + 1) (by simpa using hj), fun z hz => hmem z (by simp [hz]), S3.out, WY0⟩
 case rest =>
 obtain ⟨o, C, tw, zs, rfl, hC, RA, HM, hS, WY⟩ := hcut
 have S1 := hideP hS
 clear hS HY HO SA w0 hmem hl1 hbv bv
 obtain ⟨b3, hb3⟩ : ∃ b3, ((zs.length : Int) == 3) = b3 := ⟨_, rfl⟩
 go_upto_if 18 with fail
 go_cut [4] (fun s4 wx => ∃ (o' C' : Nat) (cn : Int) (vs : List ByteArray), s4 = .slice (some ⟨g, o', none⟩) vs.length C' ∧ vs.length ≤ C' ∧ Hid (restAt g (x0 :: ys) o' vs) ∧ PSt w g W1.heap.size (x0 :: ys) cn 0 0 tw wx ∧ Hid (R = readBy (words2 cn tw vs) s))
 case first =>
  cases b3
  case false =>
   have h3 : zs.length ≠ 3 := fun h => by rw [h] at hb3; simp at hb3
   have HW : Hid (R = readBy (words2 1 tw zs) s) := by unfold Hid; rw [← words_two h3]; exact WY.out
   clear h3 WY hb3
   go_wp2_with fail
   go_meet
   exact ⟨o, C, 1, zs, rfl, hC, RA, S1.out, HW⟩
  have h3 : zs.length = 3 := by simp at hb3; omega
  clear hb3
  obtain ⟨a, b, c, rfl⟩ : ∃ a b c, zs = [a, b, c] := by
   match zs, h3 with
   | [a, b, c], _ => exact ⟨a, b, c, rfl⟩
  have hC3 : 3 ≤ C := by simpa using hC
  have wa : wc.cell? ⟨g, o, none⟩ = some (.string a) := RA.out 0 (by simp) wc S1.out.row
  have KG := fun W => specGetRoman a W (HM.out a (by simp))
  have t0 := S1.out.rom.thaw 0
  have p0 := S1.out.rom.cell 0 rfl
  have RA2 : Hid (restAt g (x0 :: ys) (o + 1) [b, c]) := fun j hj W h => by
   have := RA.out (j + 1) (by simp at hj ⊢; omega) W h
   rw [show o + 1 + j = o + (j + 1) by omega]
   exact this
  have W2 : Hid (R = readBy (words2 (countOf a) tw [b, c]) s) := WY.out
  clear h3 HM WY hC RA
  by_cases hpr : a = pridB
  · have gp := lit_yes (l := [112, 114, 105, 100]) hpr
    have HC : Hid (countOf a = 2) := by unfold Hid countOf; rw [if_pos hpr]
    have S5 := hideP (S1.out.count (getRoman a))
    have S6 := hideP (S5.out.count 2)
    have wb := S5.out.row
    have wa5 : (wc.setCell ⟨W1.heap.size, 0, none⟩ (.int .i64 (getRoman a))).cell? ⟨g, o, none⟩ = some (.string a) := by
     rw [World.cell?_setCell_other wc _ _ _ (by intro e; injection e with e1; exact S1.out.ne1 e1.symm)]
     exact wa
    have t5 := S5.out.rom.thaw 0
    have p5 := S5.out.rom.cell 0 rfl
    clear hpr wb
    generalize getRoman a = gr at *
    go_wp2_with fail
    refine (KG _).mono ?_
    rintro e w6 ⟨rfl, hw6⟩
    rw [hw6]
    clear hw6 w6
    go_wp2_with fail
    go_meet
    exact ⟨o + 1, C - 1, 2, [b, c], rfl, by simp; omega, RA2, S6.out, by rw [← HC.out]; exact W2⟩
  · have gp := lit_no (l := [112, 114, 105, 100]) hpr
    have HC : Hid (countOf a = getRoman a) := by unfold Hid countOf; rw [if_neg hpr]
    have S5 := hideP (S1.out.count (getRoman a))
    have wa5 : (wc.setCell ⟨W1.heap.size, 0, none⟩ (.int .i64 (getRoman a))).cell? ⟨g, o, none⟩ = some (.string a) := by
     rw [World.cell?_setCell_other wc _ _ _ (by intro e; injection e with e1; exact S1.out.ne1 e1.symm)]
     exact wa
    rw [HC.out] at W2
    clear hpr HC
    generalize getRoman a = gr at *
    go_wp2_with fail
    refine (KG _).mono ?_
    rintro e w6 ⟨rfl, hw6⟩
    rw [hw6]
    clear hw6 w6
    go_wp2_with fail
    go_meet
    exact ⟨o + 1, C - 1, gr, [b, c], rfl, by simp; omega, RA2, S5.out, W2⟩
 case rest =>
 obtain ⟨o', C', cn, vs, rfl, hC', RA', hS', HW⟩ := hcut
 have S2 := hideP hS'
 clear hS' RA HM WY S1 hC hb3 b3
 by_cases h2 : vs.length = 2
 case neg =>
  have h2' : ((vs.length : Int) != 2) = true := by simp [bne]; omega
  have HF : Hid (R = (⟨0, 0, 0, false⟩, false)) := by unfold Hid; rw [HW.out, words2_none h2]; rfl
  have SF := hideP S2.out
  clear h2 HW RA'
  have q0 := SF.out.res.cell 0 rfl
  have q1 := SF.out.res.cell 1 rfl
  have q2 := SF.out.res.cell 2 rfl
  have q3 := SF.out.res.cell 3 rfl
  have f0 := SF.out.res.thaw 0
  have f1 := SF.out.res.thaw 1
  have f2 := SF.out.res.thaw 2
  have f3 := SF.out.res.thaw 3
  go_wp2_with fail
  rw [put4_eq]
  have Z := put4_blk (v0 := .int .i64 0) (v1 := .int .i64 0) (v2 := .int .i64 0) (v3 := .bool false) SF.out.res
  have z0 := Z.cell 0 rfl
  have z1 := Z.cell 1 rfl
  have z2 := Z.cell 2 rfl
  have z3 := Z.cell 3 rfl
  exact bodyPost_ret (by simp [results, Tryz.results100, go_sem, z0, z1, z2, z3]; try rfl) rfl ⟨by rw [HF.out], put4_below SF.out.below (Nat.le_refl _)⟩
 obtain ⟨b, c, rfl⟩ : ∃ b c, vs = [b, c] := by
  match vs, h2 with
  | [b, c], _ => exact ⟨b, c, rfl⟩
 have wb : wc.cell? ⟨g, o', none⟩ = some (.string b) := RA'.out 0 (by simp) wc S2.out.row
 have WC : Hid (∀ W, StrAt W g (x0 :: ys) → W.cell? ⟨g, o' + 1, none⟩ = some (.string c)) := fun W h => RA'.out 1 (by simp) W h
 have t1 := S2.out.rom.thaw 1
 have p1 := S2.out.rom.cell 1 rfl
 have HW2 : Hid (R = readBy (some ⟨cn, markS b, monOf c, tw⟩) s) := HW.out
 clear h2 RA' HW
 obtain ⟨mk, hmk⟩ : ∃ mk, mk = markS b := ⟨_, rfl⟩
 rw [← hmk] at HW2
 go_upto_block 0 with fail
 go_cut [4] (fun s4 wx => s4 = .slice (some ⟨g, o', none⟩) 2 C' ∧ PSt w g W1.heap.size (x0 :: ys) cn mk 0 tw wx)
 case first =>
  by_cases hn : b = nonB
  · have gn := lit_yes (l := [110, 111, 110]) hn
    have hm1 : mk = 1 := by rw [hmk]; unfold markS; rw [if_pos hn]
    have S3 := hideP (S2.out.mark 1)
    clear hn hmk HW2
    go_wp2_with fail
    go_meet
    exact ⟨rfl, by rw [hm1]; exact S3.out⟩
  have gn := lit_no (l := [110, 111, 110]) hn
  by_cases hi : b = idB
  · have gi := lit_yes (l := [105, 100]) hi
    have hm1 : mk = 2 := by rw [hmk]; unfold markS; rw [if_neg hn, if_pos hi]
    have S3 := hideP (S2.out.mark 2)
    clear hn hi hmk HW2
    go_wp2_with fail
    go_meet
    exact ⟨rfl, by rw [hm1]; exact S3.out⟩
  have gi := lit_no (l := [105, 100]) hi
  have hm1 : mk = 0 := by rw [hmk]; unfold markS; rw [if_neg hn, if_neg hi]
  clear hn hi hmk HW2
  go_wp2_with fail
  go_meet
  exact ⟨rfl, by rw [hm1]; exact S2.out⟩
 case rest =>
 obtain ⟨rfl, hS3⟩ := hcut
 have SM := hideP hS3
 clear hS3 S2 wb t1 p1 hmk
 have wcc : wc.cell? ⟨g, o' + 1, none⟩ = some (.string c) := WC.out wc SM.out.row
 have KO := specMonthOf c
 generalize monOf c = mo at *
 go_wp2_with fail
 refine (KO _).mono ?_
 rintro e W7 ⟨rfl, hb⟩
 have S7 := hideP (SM.out.later hb)
 have S8 := hideP (S7.out.month mo)
 have t2 := S7.out.rom.thaw 2
 have p2 := S7.out.rom.cell 2 rfl
 have p0 := S7.out.rom.cell 0 rfl
 have p1 := S7.out.rom.cell 1 rfl
 have p3 := S7.out.rom.cell 3 rfl
 clear hb wcc WC SM KO
 have KT := fun W => specRomanText ⟨cn, mk, mo, tw⟩ W
 have HYY : Hid (romanText ⟨cn, mk, mo, tw⟩ = s → s.size ≠ 0 → R = (⟨cn, mk, mo, tw⟩, true)) := fun h h' => HW2.out.trans (readBy_yes h h')
 have HNN : Hid (romanText ⟨cn, mk, mo, tw⟩ ≠ s ∨ s.size = 0 → R = (⟨0, 0, 0, false⟩, false)) := fun h => HW2.out.trans (readBy_not h)
 clear HW2
 generalize romanText ⟨cn, mk, mo, tw⟩ = T at *
 go_wp2_with fail
 refine (KT _).mono ?_
 rintro e W9 ⟨rfl, hb⟩
 have SF := hideP (S8.out.later hb)
 clear hb S7 S8 KT t2 p0 p1 p2 p3
 have p0 := SF.out.rom.cell 0 rfl
 have p1 := SF.out.rom.cell 1 rfl
 have p2 := SF.out.rom.cell 2 rfl
 have p3 := SF.out.rom.cell 3 rfl
 have q0 := SF.out.res.cell 0 rfl
 have q1 := SF.out.res.cell 1 rfl
 have q2 := SF.out.res.cell 2 rfl
 have q3 := SF.out.res.cell 3 rfl
 have f0 := SF.out.res.thaw 0
 have f1 := SF.out.res.thaw 1
 have f2 := SF.out.res.thaw 2
 have f3 := SF.out.res.thaw 3
 cases hq : (T.toList == s.toList)
 · have HF := hideP (HNN.out (.inl (str_ne hq)))
   have hq' : (T.toList != s.toList) = true := by simp only [bne, hq]; rfl
   go_wp2_with fail
   rw [put4_eq]
   have Z := put4_blk (v0 := .int .i64 0) (v1 := .int .i64 0) (v2 := .int .i64 0) (v3 := .bool false) SF.out.res
   have z0 := Z.cell 0 rfl
   have z1 := Z.cell 1 rfl
   have z2 := Z.cell 2 rfl
   have z3 := Z.cell 3 rfl
   exact bodyPost_ret (by simp [results, Tryz.results100, go_sem, z0, z1, z2, z3]; try rfl) rfl ⟨by rw [HF.out], put4_below SF.out.below (Nat.le_refl _)⟩
 have hq' : (T.toList != s.toList) = false := by simp only [bne, hq]; rfl
 by_cases h0 : s.size = 0
 · have HF := hideP (HNN.out (.inr h0))
   have h0' := empty_t h0
   clear h0
   go_wp2_with fail
   rw [put4_eq]
   have Z := put4_blk (v0 := .int .i64 0) (v1 := .int .i64 0) (v2 := .int .i64 0) (v3 := .bool false) SF.out.res
   have z0 := Z.cell 0 rfl
   have z1 := Z.cell 1 rfl
   have z2 := Z.cell 2 rfl
   have z3 := Z.cell 3 rfl
   exact bodyPost_ret (by simp [results, Tryz.results100, go_sem, z0, z1, z2, z3]; try rfl) rfl ⟨by rw [HF.out], put4_below SF.out.below (Nat.le_refl _)⟩
 have HF := hideP (HYY.out (str_eq hq) h0)
 have h0' := empty_f h0
 clear h0
 go_wp2_with fail
 rw [put4_eq]
 have Z := put4_blk (v0 := .int .i64 cn) (v1 := .int .i64 mk) (v2 := .int .i64 mo) (v3 := .bool tw) SF.out.res
 have z0 := Z.cell 0 rfl
 have z1 := Z.cell 1 rfl
 have z2 := Z.cell 2 rfl
 have z3 := Z.cell 3 rfl
 exact bodyPost_ret (by simp [results, Tryz.results100, go_sem, z0, z1, z2, z3]; try rfl) rfl ⟨by rw [HF.out], put4_below SF.out.below (Nat.le_refl _)⟩
end Go.Proofs.YtpclaceefapppaaGreatDoor.ctr
