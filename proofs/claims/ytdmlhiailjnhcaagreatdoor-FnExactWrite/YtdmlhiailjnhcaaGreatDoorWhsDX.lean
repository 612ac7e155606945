/- The model's l12Whens and Whens. -/
import Derived.Test.YtdmlhiailjnhcaaGreatDoorJnXaa
import Derived.Test.YtdmlhiailjnhcaaGreatDoorJnXbn
import Derived.Test.YtdmlhiailjnhcaaGreatDoorMnsSX
import Derived.Test.YtdmlhiailjnhcaaGreatDoorJnXay
namespace Go.Proofs.YtdmlhiailjnhcaaGreatDoor.ctr
open Go.RowKit
set_option linter.unusedSimpArgs false
abbrev whnN : Whn := ⟨-1, 0, 0, rom0, ⟨#[]⟩, 0⟩
noncomputable def tellN (r : Rgm) (n k : Int) : Whn := if tellK r n k = true then tellW r n k else whnN
theorem feaWhn_no {c n : Int} (h : ¬ 0 ≤ (feaF c n).1) : feaWhn c n = whn0 := by unfold feaWhn; rw [if_pos (by omega)]
theorem tellK_no {r : Rgm} {n k : Int} (h : tellK r n k = false) : tellW r n k = whn0 := by
 cases hB : tellB r n k
 · exact (tell_no hB).1
 · rw [(tell_yes hB).1]
   rw [(tell_yes hB).2.2] at h
   unfold whrB at h
   unfold whrW
   by_cases h0 : k = 0
   · rw [decide_eq_true h0] at h
     exact absurd h (by simp)
   by_cases h1 : k = 1
   · rw [decide_eq_true h1] at h
     exact absurd h (by simp)
   rw [if_neg h0, if_neg h1]
   by_cases h2 : k = 2
   · rw [if_pos h2]
     refine feaWhn_no (fun hh => ?_)
     rw [decide_eq_true h2, decide_eq_true hh] at h
     exact absurd h (by simp)
   · rw [if_neg h2]
theorem tellK_kind {r : Rgm} {n k : Int} : (tellW r n k).kind ≠ -1 := by
 unfold tellW whrW feaWhn
 repeat' split
 all_goals (intro h; first | exact absurd h (show ¬ ((0 : Int) = -1) by decide) | exact absurd h (show ¬ ((1 : Int) = -1) by decide) | exact absurd h (show ¬ ((2 : Int) = -1) by decide))
set_option maxRecDepth 100000 in
set_option maxHeartbeats 16000000 in
theorem specL12Whens (v : Value) (r : Rgm) (n k : Int) (w : World) (h : GRow w v r) (hf : -9223372036854775808 ≤ r.fr) (ht : r.to ≤ 9223372036854775807) : CR 36 #[v, .int .i64 n, .int .i64 k] w (whnV (tellN r n k)) := by
 by_cases hin : regimeB r = true ∧ r.fr ≤ n ∧ n ≤ r.to
 case neg =>
  have hG := h
  obtain ⟨v1, v2, v3, rfl, _⟩ := h
  obtain ⟨W0, hW0, hD, hC, hB⟩ := boxR w #[.string r.name, .int .i64 r.fr, .int .i64 r.to, v1, v2, v3, .int .i64 r.rule] 38 #[.int .i64 0, .int .i64 0, .int .i64 0, .int .i64 0, .int .i64 0, .int .i64 0, .bool false, .string ⟨#[]⟩, .int .i64 0] 31
  have HBl := hideP hB.out
  have HC := hideP hC.out
  have HW0 := hideP hW0
  obtain ⟨d0, d1, d2, d3, d4, d5, d6⟩ := sevenL hD.out
  have KR : ∀ z : Later W0, CR 62 #[.agg #[.string r.name, .int .i64 r.fr, .int .i64 r.to, v1, v2, v3, .int .i64 r.rule], .int .i64 n] z.w (readR r n) := fun z => specReadingOf _ r n z.w (hG.below (HBl.out z)) hf ht
  rw [readR_no hin] at KR
  have hno : tellB r n k = false := by
   have : (regimeB r && (decide (r.fr ≤ n) && decide (n ≤ r.to))) = false := by
    cases h0 : (regimeB r && (decide (r.fr ≤ n) && decide (n ≤ r.to)))
    · rfl
    · simp only [Bool.and_eq_true, decide_eq_true_eq] at h0
      exact absurd h0 hin
   unfold tellB
   rw [this, Bool.false_and]
  rw [show tellN r n k = whnN by unfold tellN; rw [(tell_no hno).2.2]; rfl]
  clear hno hin hW0 hD hC hB hG hf ht
  go_enter Tryz.func36, Tryz.ntmps36
  go_wp2_with fail
  rw [← HW0.out]
  refine latO (KR ⟨W0, Below.refl _ _⟩) fun x1 => ?_
  obtain ⟨x2, hx2, Z2⟩ := x1.fresh #[.int .i64 0, .int .i64 0, .int .i64 0, .int .i64 0, .int .i64 0] 69
  have HX2 := hideP hx2
  clear hx2
  go_upto_region 2 with fail
  rw [HX2.out]
  clear HX2
  obtain ⟨x3, hx3, N3⟩ := x2.fresh #[.int .i64 (-1), .int .i64 0, .int .i64 0, .int .i64 0, .int .i64 0, .int .i64 0, .bool false, .string ⟨#[]⟩, .int .i64 0] 31
  have Z3 : Hid (Blk x3.w x1.w.heap.size #[.int .i64 0, .int .i64 0, .int .i64 0, .int .i64 0, .int .i64 0] 69) := by unfold Hid; rw [← hx3]; exact Z2.out.alloc _
  have HX3 := hideP hx3
  clear hx3 Z2
  go_upto_region 3 with fail
  rw [HX3.out]
  clear HX3
  obtain ⟨y0, y1, y2, y3, y4, y5, y6, y7, y8⟩ := N3.out.cells9
  obtain ⟨c0, c1, c2, c3, c4, c5, c6, c7, c8, t0, t1, t2, t3, t4, t5, t6, t7, t8⟩ := nine_facts HC.out x3
  go_wp2
  exact ret9 (HC.out x3) (HBl.out x3) (by omega) rfl (fun _ q0 q1 q2 q3 q4 q5 q6 q7 q8 B9 => ⟨by simp [results, Tryz.results36, go_sem, q0, q1, q2, q3, q4, q5, q6, q7, q8]; try rfl, rfl, B9⟩)
 obtain ⟨hr, h1, h2⟩ := hin
 obtain ⟨j, hj, hjS, hj1, hj2⟩ : ∃ j : Nat, j < r.segs.length ∧ segAt r.segs n = (j : Int) ∧ (atK segK r.segs j).fr ≤ n ∧ n ≤ (atK segK r.segs j).to := by
  have h0 := (seg_fact hr n).2 ⟨h1, h2⟩
  rcases segAt_cases r.segs n with ⟨h3, _⟩ | ⟨i, hi, h3, h4, h5⟩
  · omega
  · exact ⟨i, hi, h3, h4, h5⟩
 have hsn : segN r n = atK segK r.segs j := by unfold segN; rw [hjS, Int.toNat_natCast]
 obtain ⟨n1, n2, n3, n4, _, n5, n6⟩ := segOk_nums (right_seg hr hj).1
 obtain ⟨Y, M, D, he⟩ := mid_date n4 (n := n + (atK segK r.segs j).off) (by omega) (by omega)
 have hG := h
 obtain ⟨v1, v2, v3, rfl, _, x1, x2, x3⟩ := h
 have hbase : tellB r n k = (decide (k = 0) || !decide (0 ≤ patAt r.pats n)) := by
  unfold tellB
  rw [hr, decide_eq_true h1, decide_eq_true h2]
  rfl
 have hrd : ¬ 0 ≤ patAt r.pats n → (rdgOn r n).cal = (atK segK r.segs j).cal ∧ (rdgOn r n).sol = Y ∧ (rdgOn r n).mon = M ∧ (rdgOn r n).day = D ∧ dayOf (rdgOn r n).cal (rdgOn r n).sol (rdgOn r n).mon (rdgOn r n).day = n + (atK segK r.segs j).off := fun hp => by
  obtain ⟨Y', M', D', e0, e1, e2, e3, e4, e5, e6⟩ := rdg_date hr h1 h2 hp
  rw [hsn] at e0 e1 e6
  rw [he] at e0
  have q1 : Y = Y' := congrArg (fun z => z.2.1) e0
  have q2 : M = M' := congrArg (fun z => z.2.2.1) e0
  have q3 : D = D' := congrArg (fun z => z.2.2.2.1) e0
  subst q1 q2 q3
  exact ⟨e1, e2, e3, e4, by rw [e1, e2, e3, e4]; exact e6⟩
 have KS : ∀ W, Below w.heap.size w W → CR 63 #[.agg #[.string r.name, .int .i64 r.fr, .int .i64 r.to, v1, v2, v3, .int .i64 r.rule], .int .i64 n] W (.int .i64 (j : Int)) := fun W hb => by
  have q := specSegAt _ r n W (hG.below hb)
  rw [hjS] at q
  exact q
 have KA : ∀ W, Below w.heap.size w W → CR 65 #[.agg #[.string r.name, .int .i64 r.fr, .int .i64 r.to, v1, v2, v3, .int .i64 r.rule], .int .i64 n] W (.int .i64 (patAt r.pats n)) := fun W hb => specPatAt _ r n W (hG.below hb)
 have KD : ∀ W, CR 64 #[.int .i64 (atK segK r.segs j).cal, .int .i64 (n + (atK segK r.segs j).off)] W (.tuple #[.agg #[.int .i64 (atK segK r.segs j).cal, .int .i64 Y, .int .i64 M, .int .i64 D], .bool true]) := fun W => by
  have q := specDateOf (atK segK r.segs j).cal (n + (atK segK r.segs j).off) W
  rw [dateR_yes he] at q
  exact q
 have KRw : ∀ W, Below w.heap.size w W → CR 62 #[.agg #[.string r.name, .int .i64 r.fr, .int .i64 r.to, v1, v2, v3, .int .i64 r.rule], .int .i64 n] W (.tuple #[rdgV (rdgOn r n), .bool true]) := fun W hb => by
  have q := specReadingOf _ r n W (hG.below hb) hf ht
  rw [readR_yes hr h1 h2] at q
  exact q
 obtain ⟨a1, c1, rfl, _, _, hcS⟩ := x1
 obtain ⟨gs, rfl, hgs, xsg⟩ := hcS j hj
 have hjz : (j : Int) < (r.segs.length : Int) := by omega
 have hans : ∃ A : Whn, A = tellN r n k := ⟨_, rfl⟩
 obtain ⟨A, hA⟩ := hans
 rw [← hA]
 unfold tellN at hA
 -- what it is, case by case
 have HQ : (k = 0 → A = ⟨0, (rdgOn r n).mon, (rdgOn r n).day, rom0, ⟨#[]⟩, 0⟩) ∧ (k ≠ 0 → 0 ≤ patAt r.pats n → A = whnN) ∧ (k = 1 → ¬ 0 ≤ patAt r.pats n → A = ⟨1, 0, 0, romanOf (atK segK r.segs j).cal Y M D, ⟨#[]⟩, 0⟩) ∧ (k = 2 → ¬ 0 ≤ patAt r.pats n → A = if 0 ≤ (feaF (atK segK r.segs j).cal (n + (atK segK r.segs j).off)).1 then feaWhn (atK segK r.segs j).cal (n + (atK segK r.segs j).off) else whnN) ∧ (k ≠ 0 → k ≠ 1 → k ≠ 2 → A = whnN) := by
  refine ⟨fun h0 => ?_, fun h0 hp => ?_, fun hk hp => ?_, fun hk hp => ?_, fun h0 h1 h2 => ?_⟩
  · have hy : tellB r n k = true := by rw [hbase, decide_eq_true h0]; rfl
    rw [hA, (tell_yes hy).1, (tell_yes hy).2.2]
    subst h0
    rfl
  · have hn : tellB r n k = false := by rw [hbase, decide_eq_false h0, decide_eq_true hp]; rfl
    rw [hA, (tell_no hn).2.2]
    rfl
  · have hy : tellB r n k = true := by rw [hbase, decide_eq_false hp]; exact Bool.or_true _
    obtain ⟨e1, e2, e3, e4, _⟩ := hrd hp
    rw [hA, (tell_yes hy).1, (tell_yes hy).2.2, ← e1, ← e2, ← e3, ← e4]
    subst hk
    rfl
  · have hy : tellB r n k = true := by rw [hbase, decide_eq_false hp]; exact Bool.or_true _
    obtain ⟨e1, e2, e3, e4, e5⟩ := hrd hp
    rw [hA, (tell_yes hy).1, (tell_yes hy).2.2]
    subst hk
    unfold whrW whrB
    rw [e5, e1]
    by_cases hh : 0 ≤ (feaF (atK segK r.segs j).cal (n + (atK segK r.segs j).off)).1
    · rw [if_pos hh, decide_eq_true hh]
      rfl
    · rw [if_neg hh, decide_eq_false hh]
      rfl
  · have hn : tellK r n k = false := by
     unfold tellK whrB
     rw [decide_eq_false h0, decide_eq_false h1, decide_eq_false h2]
     exact Bool.and_false _
    rw [hA, hn]
    rfl
 replace HQ := hideP HQ
 clear hA hbase hrd hr hf ht x2 x3 hjS hsn hj he
 have hb2 := feaF_b (atK segK r.segs j).cal (n + (atK segK r.segs j).off)
 have hE : feaWhn (atK segK r.segs j).cal (n + (atK segK r.segs j).off) = if (feaF (atK segK r.segs j).cal (n + (atK segK r.segs j).off)).1 < 0 then whn0 else ⟨2, 0, 0, rom0, (feaAt (feaF (atK segK r.segs j).cal (n + (atK segK r.segs j).off)).1.toNat).name, (feaF (atK segK r.segs j).cal (n + (atK segK r.segs j).off)).2⟩ := rfl
 rw [hE] at HQ
 clear hE
 have KT : ∀ W, CR 68 #[.int .i64 (atK segK r.segs j).cal, .int .i64 (n + (atK segK r.segs j).off), .bool true] W (.string (feastText (atK segK r.segs j).cal (n + (atK segK r.segs j).off) true)) := fun W => specFeastText _ _ true W
 have KF : ∀ W, CR 67 #[.string (feastText (atK segK r.segs j).cal (n + (atK segK r.segs j).off) true)] W (.tuple #[.int .i64 (feaF (atK segK r.segs j).cal (n + (atK segK r.segs j).off)).1, .int .i64 (feaF (atK segK r.segs j).cal (n + (atK segK r.segs j).off)).2]) := fun W => specReadF _ W (Nat.le_trans (feastText_short _ _ _) (by omega))
 have KM : ∀ W, CR 66 #[.agg #[.int .i64 (atK segK r.segs j).cal, .int .i64 Y, .int .i64 M, .int .i64 D]] W (romV (romanOf (atK segK r.segs j).cal Y M D)) := fun W => specRomanOf _ Y M D W
 obtain ⟨W0, hW0, hD, hC, hB⟩ := boxR w #[.string r.name, .int .i64 r.fr, .int .i64 r.to, .slice (some ⟨gs, 0, none⟩) r.segs.length c1, v2, v3, .int .i64 r.rule] 38 #[.int .i64 0, .int .i64 0, .int .i64 0, .int .i64 0, .int .i64 0, .int .i64 0, .bool false, .string ⟨#[]⟩, .int .i64 0] 31
 have HBl0 := hideP hB.out
 have HC0 := hideP hC.out
 have HD0 := hideP hD.out
 have HW0 := hideP hW0
 obtain ⟨d0, d1, d2, d3, d4, d5, d6⟩ := sevenL hD.out
 have KR : ∀ z : Later W0, CR 62 #[.agg #[.string r.name, .int .i64 r.fr, .int .i64 r.to, .slice (some ⟨gs, 0, none⟩) r.segs.length c1, v2, v3, .int .i64 r.rule], .int .i64 n] z.w (.tuple #[rdgV (rdgOn r n), .bool true]) := fun z => KRw z.w (HBl0.out z)
 clear KRw hW0 hD hC hB hG
 generalize rdgOn r n = x at *
 obtain ⟨xc, xy, xs, xm, xd⟩ := x
 go_enter Tryz.func36, Tryz.ntmps36
 go_wp2_with fail
 rw [← HW0.out]
 refine latO (KR ⟨W0, Below.refl _ _⟩) fun x1 => ?_
 obtain ⟨x2, hx2, Z2⟩ := x1.fresh #[.int .i64 xc, .int .i64 xy, .int .i64 xs, .int .i64 xm, .int .i64 xd] 69
 have HX2 := hideP hx2
 clear hx2
 go_upto_region 2 with fail
 rw [HX2.out]
 clear HX2
 obtain ⟨x3, hx3, N3⟩ := x2.fresh #[.int .i64 (-1), .int .i64 0, .int .i64 0, .int .i64 0, .int .i64 0, .int .i64 0, .bool false, .string ⟨#[]⟩, .int .i64 0] 31
 have Z3 : Hid (Blk x3.w x1.w.heap.size #[.int .i64 xc, .int .i64 xy, .int .i64 xs, .int .i64 xm, .int .i64 xd] 69) := by unfold Hid; rw [← hx3]; exact Z2.out.alloc _
 have HX3 := hideP hx3
 clear hx3 Z2
 go_upto_region 3 with fail
 rw [HX3.out]
 clear HX3
 go_upto_region 5 with fail
 obtain ⟨WA, hWA⟩ : ∃ WA, WA = x3.w := ⟨_, rfl⟩
 have L : ∀ x : Later WA, ∃ y : Later W0, x.w = y.w := by
  have qL : ∀ W, W = x3.w → ∀ x : Later W, Below W0.heap.size W0 x.w := by
   rintro _ rfl x
   exact x3.below.trans (x.below.mono x3.below.size)
  exact fun x => ⟨⟨x.w, qL WA hWA x⟩, rfl⟩
 have HBl : Hid (∀ x : Later WA, Below w.heap.size w x.w) := fun x => by
  obtain ⟨y, hy⟩ := L x
  rw [hy]
  exact HBl0.out y
 have HC : Hid (∀ x : Later WA, Blk x.w (w.heap.size + 1) #[.int .i64 0, .int .i64 0, .int .i64 0, .int .i64 0, .int .i64 0, .int .i64 0, .bool false, .string ⟨#[]⟩, .int .i64 0] 31) := fun x => by
  obtain ⟨y, hy⟩ := L x
  rw [hy]
  exact HC0.out y
 have HP2 : Hid (∀ x : Later WA, Blk x.w w.heap.size #[.string r.name, .int .i64 r.fr, .int .i64 r.to, .slice (some ⟨gs, 0, none⟩) r.segs.length c1, v2, v3, .int .i64 r.rule] 38) := fun x => by
  obtain ⟨y, hy⟩ := L x
  rw [hy]
  exact HD0.out y
 have HXr : Hid (∀ x : Later WA, Blk x.w x1.w.heap.size #[.int .i64 xc, .int .i64 xy, .int .i64 xs, .int .i64 xm, .int .i64 xd] 69) := fun x => by
  have hz := Z3.out
  rw [← hWA] at hz
  exact hz.later x
 have HNn : Hid (∀ x : Later WA, Blk x.w x2.w.heap.size #[.int .i64 (-1), .int .i64 0, .int .i64 0, .int .i64 0, .int .i64 0, .int .i64 0, .bool false, .string ⟨#[]⟩, .int .i64 0] 31) := fun x => by
  have hz := N3.out
  rw [← hWA] at hz
  exact hz.later x
 obtain ⟨cr0, cr1, cr2, cr3, cr4, cr5, cr6⟩ := cells7 HP2.out
 have hgS : Hid (∀ x : Later WA, IAt segK x.w gs j (atK segK r.segs j)) := fun x => xsg.below (HBl.out x) hgs
 have g0 : ∀ x : Later WA, x.w.cell? ⟨gs, j * 5, none⟩ = some (.int .i64 (atK segK r.segs j).fr) := fun x => ((hgS.out x).seg).1
 have g1 : ∀ x : Later WA, x.w.cell? ⟨gs, j * 5 + 1, none⟩ = some (.int .i64 (atK segK r.segs j).to) := fun x => ((hgS.out x).seg).2.1
 have g2 : ∀ x : Later WA, x.w.cell? ⟨gs, j * 5 + 2, none⟩ = some (.int .i64 (atK segK r.segs j).cal) := fun x => ((hgS.out x).seg).2.2.1
 have g3 : ∀ x : Later WA, x.w.cell? ⟨gs, j * 5 + 3, none⟩ = some (.int .i64 (atK segK r.segs j).sty) := fun x => ((hgS.out x).seg).2.2.2.1
 have g4 : ∀ x : Later WA, x.w.cell? ⟨gs, j * 5 + 4, none⟩ = some (.int .i64 (atK segK r.segs j).off) := fun x => ((hgS.out x).seg).2.2.2.2
 obtain ⟨y0, hy0⟩ : ∃ y0 : Later WA, WA = y0.w := ⟨⟨WA, Below.refl _ _⟩, rfl⟩
 have HX0 := hideP (hWA.symm.trans hy0)
 clear hWA L HD0 HC0 HBl0 Z3 N3 d0 d1 d2 d3 d4 d5 d6 KR hy0 HW0 hgS xsg hcS
 generalize feastText (atK segK r.segs j).cal (n + (atK segK r.segs j).off) true = tx at *
 generalize (feaF (atK segK r.segs j).cal (n + (atK segK r.segs j).off)).1 = ix at *
 generalize (feaF (atK segK r.segs j).cal (n + (atK segK r.segs j).off)).2 = pl at *
 generalize romanOf (atK segK r.segs j).cal Y M D = R at *
 obtain ⟨ra, rb, rc, rt⟩ := R
 generalize atK segK r.segs j = s at *
 generalize patAt r.pats n = pt at *
 rw [HX0.out]
 obtain ⟨St, hSt⟩ : ∃ St : World → Prop, St = fun V => Hid (Below WA.heap.size WA V) := ⟨_, rfl⟩
 obtain ⟨Zs, hZs⟩ : ∃ Zs : World → Nat → Prop, Zs = fun V q => Hid (Blk V q i5z 97 ∧ WA.heap.size ≤ q) := ⟨_, rfl⟩
 have KA' : Hid (∀ V o, St V → St (V.alloc o)) := by rw [hSt]; exact fun V o h => h.out.alloc h.out.size o
 have KL : Hid (∀ V, St V → ∃ z : Later WA, V = z.w) := by rw [hSt]; exact fun V h => ⟨⟨V, h.out⟩, rfl⟩
 have KB : Hid (∀ V V', St V → Below V.heap.size V V' → St V' ∧ Hid (∀ q, Zs V q → Zs V' q)) := by
  rw [hSt, hZs]
  exact fun V V' h hb => ⟨h.out.trans (hb.mono h.out.size), fun q hq => ⟨hq.out.1.below hb hq.out.1.lt, hq.out.2⟩⟩
 have KZ : Hid (∀ V, St V → Zs (V.alloc (.cells i5z 97)) V.heap.size) := by rw [hSt, hZs]; exact fun V h => ⟨Blk.new _ _ _, h.out.size⟩
 have KE : Hid (∀ V, St V → V.cell? ⟨w.heap.size, 0, none⟩ = some (.string r.name) ∧ V.cell? ⟨w.heap.size, 1, none⟩ = some (.int .i64 r.fr) ∧ V.cell? ⟨w.heap.size, 2, none⟩ = some (.int .i64 r.to) ∧ V.cell? ⟨w.heap.size, 3, none⟩ = some (.slice (some ⟨gs, 0, none⟩) r.segs.length c1) ∧ V.cell? ⟨w.heap.size, 4, none⟩ = some (v2) ∧ V.cell? ⟨w.heap.size, 5, none⟩ = some (v3) ∧ V.cell? ⟨w.heap.size, 6, none⟩ = some (.int .i64 r.rule) ∧ V.cell? ⟨gs, j * 5, none⟩ = some (.int .i64 s.fr) ∧ V.cell? ⟨gs, j * 5 + 1, none⟩ = some (.int .i64 s.to) ∧ V.cell? ⟨gs, j * 5 + 2, none⟩ = some (.int .i64 s.cal) ∧ V.cell? ⟨gs, j * 5 + 3, none⟩ = some (.int .i64 s.sty) ∧ V.cell? ⟨gs, j * 5 + 4, none⟩ = some (.int .i64 s.off)) := fun V h => by
  obtain ⟨z, rfl⟩ := KL.out V h
  exact ⟨cr0 z, cr1 z, cr2 z, cr3 z, cr4 z, cr5 z, cr6 z, g0 z, g1 z, g2 z, g3 z, g4 z⟩
 have KC : Hid (∀ V, St V → CR 63 #[.agg #[.string r.name, .int .i64 r.fr, .int .i64 r.to, .slice (some ⟨gs, 0, none⟩) r.segs.length c1, v2, v3, .int .i64 r.rule], .int .i64 n] V (.int .i64 (j : Int))) := fun V h => by
  obtain ⟨z, rfl⟩ := KL.out V h
  exact KS z.w (HBl.out z)
 have HZs : Hid (∀ V q, Zs V q → Blk V q i5z 97 ∧ WA.heap.size ≤ q) := by rw [hZs]; exact fun V q h => h.out
 have KF' : Hid (∀ V q, St V → Zs V q → Hid (Blk ((((((V).setCell ⟨q, 0, none⟩ (.int .i64 s.fr)).setCell ⟨q, 1, none⟩ (.int .i64 s.to)).setCell ⟨q, 2, none⟩ (.int .i64 s.cal)).setCell ⟨q, 3, none⟩ (.int .i64 s.sty)).setCell ⟨q, 4, none⟩ (.int .i64 s.off)) q #[.int .i64 s.fr, .int .i64 s.to, .int .i64 s.cal, .int .i64 s.sty, .int .i64 s.off] 97) ∧ St ((((((V).setCell ⟨q, 0, none⟩ (.int .i64 s.fr)).setCell ⟨q, 1, none⟩ (.int .i64 s.to)).setCell ⟨q, 2, none⟩ (.int .i64 s.cal)).setCell ⟨q, 3, none⟩ (.int .i64 s.sty)).setCell ⟨q, 4, none⟩ (.int .i64 s.off))) := by
  rw [hSt, hZs]
  intro V q h hq
  obtain ⟨b1, b2⟩ := hq.out
  exact ⟨((((b1.set 0 _).set 1 _).set 2 _).set 3 _).set 4 _, below_store (below_store (below_store (below_store (below_store h.out _ b2) _ b2) _ b2) _ b2) _ b2⟩
 have KG : Hid (∀ V, St V → Hid (Blk (V.alloc (.cells #[.int .i64 s.fr, .int .i64 s.to, .int .i64 s.cal, .int .i64 s.sty, .int .i64 s.off] 97)) V.heap.size #[.int .i64 s.fr, .int .i64 s.to, .int .i64 s.cal, .int .i64 s.sty, .int .i64 s.off] 97) ∧ St (V.alloc (.cells #[.int .i64 s.fr, .int .i64 s.to, .int .i64 s.cal, .int .i64 s.sty, .int .i64 s.off] 97))) := fun V h => ⟨Blk.new _ _ _, KA'.out _ _ h⟩
 have T0 : St y0.w := by rw [hSt]; exact y0.below
 have T0d : St y0.w.drew := by rw [hSt]; exact Below.drew y0.below
 have T0z : St (y0.w.alloc (.cells i5z 97)) := KA'.out _ _ T0
 have T0y : St (y0.w.alloc (.cells i5z 97)).drew := by rw [hSt] at T0z ⊢; exact Below.drew T0z.out
 have HZ1 : Zs (y0.w.alloc (.cells i5z 97)).drew y0.w.heap.size := by
  have h := KZ.out y0.w T0
  rw [hZs] at h ⊢
  exact h
 have HSL : Hid (∀ V, St V → Below WA.heap.size WA V) := by rw [hSt]; exact fun V h => h.out
 clear hSt hZs
 obtain ⟨E0, E1, E2, E3, E4, E5, E6, E7, E8, E9, E10, E11⟩ := KE.out _ T0
 go_cut [10] (fun s9 wx => ∃ q : Nat, s9 = .pointer (some ⟨q, 0, none⟩) ∧ Hid (Blk wx q #[.int .i64 s.fr, .int .i64 s.to, .int .i64 s.cal, .int .i64 s.sty, .int .i64 s.off] 97) ∧ St wx)
 case first =>
  go_region_held (fun w' => w'.cell? ⟨w.heap.size, 0, none⟩ = some (.string r.name) ∧ w'.cell? ⟨w.heap.size, 1, none⟩ = some (.int .i64 r.fr) ∧ w'.cell? ⟨w.heap.size, 2, none⟩ = some (.int .i64 r.to) ∧ w'.cell? ⟨w.heap.size, 3, none⟩ = some (.slice (some ⟨gs, 0, none⟩) r.segs.length c1) ∧ w'.cell? ⟨w.heap.size, 4, none⟩ = some (v2) ∧ w'.cell? ⟨w.heap.size, 5, none⟩ = some (v3) ∧ w'.cell? ⟨w.heap.size, 6, none⟩ = some (.int .i64 r.rule) ∧ w'.cell? ⟨gs, j * 5, none⟩ = some (.int .i64 s.fr) ∧ w'.cell? ⟨gs, j * 5 + 1, none⟩ = some (.int .i64 s.to) ∧ w'.cell? ⟨gs, j * 5 + 2, none⟩ = some (.int .i64 s.cal) ∧ w'.cell? ⟨gs, j * 5 + 3, none⟩ = some (.int .i64 s.sty) ∧ w'.cell? ⟨gs, j * 5 + 4, none⟩ = some (.int .i64 s.off)) (first | exact KE.out _ (by assumption) | exact KE.out _ (KA'.out _ _ (by assumption)) | exact KE.out _ (KF'.out _ _ (by assumption) (by assumption)).2) ((go_at_call 63; refine Calls.mono (KC.out _ ?_) ?_; (first | assumption | exact KA'.out _ _ (by assumption)); rintro e V ⟨rfl, hb⟩; obtain ⟨T, HY⟩ := KB.out _ _ (by first | assumption | exact KA'.out _ _ (by assumption)) hb; clear hb; (try (have HX := HY.out _ (KZ.out _ (by assumption)); have z0 := (HZs.out _ _ HX).1.cell 0 rfl; have z1 := (HZs.out _ _ HX).1.cell 1 rfl; have z2 := (HZs.out _ _ HX).1.cell 2 rfl; have z3 := (HZs.out _ _ HX).1.cell 3 rfl; have z4 := (HZs.out _ _ HX).1.cell 4 rfl; have u0 := (HZs.out _ _ HX).1.thaw 0; have u1 := (HZs.out _ _ HX).1.thaw 1; have u2 := (HZs.out _ _ HX).1.thaw 2; have u3 := (HZs.out _ _ HX).1.thaw 3; have u4 := (HZs.out _ _ HX).1.thaw 4)); (try (have HX := HY.out _ (by assumption); have z0 := (HZs.out _ _ HX).1.cell 0 rfl; have z1 := (HZs.out _ _ HX).1.cell 1 rfl; have z2 := (HZs.out _ _ HX).1.cell 2 rfl; have z3 := (HZs.out _ _ HX).1.cell 3 rfl; have z4 := (HZs.out _ _ HX).1.cell 4 rfl; have u0 := (HZs.out _ _ HX).1.thaw 0; have u1 := (HZs.out _ _ HX).1.thaw 1; have u2 := (HZs.out _ _ HX).1.thaw 2; have u3 := (HZs.out _ _ HX).1.thaw 3; have u4 := (HZs.out _ _ HX).1.thaw 4))))
  all_goals (go_wp2_with fail; go_meet)
  all_goals refine ⟨_, rfl, ?_⟩
  all_goals first | (with_reducible exact KG.out _ (by assumption)) | (with_reducible exact KF'.out _ _ (by assumption) (by assumption))
 case rest =>
 obtain ⟨q, rfl, D1, T1⟩ := hcut
 obtain ⟨z1, rfl⟩ : ∃ z1 : Later WA, wc = z1.w := ⟨⟨wc, HSL.out _ T1⟩, rfl⟩
 clear KA' KL KB KZ KE KC HZs KF' KG T0 T0d T0z T0y HZ1 T1 HSL E0 E1 E2 E3 E4 E5 E6 E7 E8 E9 E10 E11
 have a0 := D1.out.cell 0 rfl
 have a1 := D1.out.cell 1 rfl
 have a2 := D1.out.cell 2 rfl
 have a3 := D1.out.cell 3 rfl
 have a4 := D1.out.cell 4 rfl
 go_wp2_with fail
 refine (KD _).mono ?_
 rintro e w2 ⟨rfl, hb⟩
 have D2 := hideP (D1.out.below hb D1.out.lt)
 obtain ⟨z2, rfl⟩ := z1.next hb
 clear hb a0 a1 a2 a3 a4 D1
 obtain ⟨z3, hz3, Z3⟩ := z2.fresh #[.int .i64 s.cal, .int .i64 Y, .int .i64 M, .int .i64 D] 99
 have D3 : Hid (Blk z3.w q #[.int .i64 s.fr, .int .i64 s.to, .int .i64 s.cal, .int .i64 s.sty, .int .i64 s.off] 97) := by unfold Hid; rw [← hz3]; exact D2.out.alloc _
 have HX3 := hideP hz3
 clear hz3 D2
 go_upto_region 7 with fail
 rw [HX3.out]
 clear HX3
 go_wp2_with fail
 refine (KA _ (HBl.out z3)).mono ?_
 rintro e w4 ⟨rfl, hb⟩
 have Z4 := hideP (Z3.out.below hb Z3.out.lt)
 have D4 := hideP (D3.out.below hb D3.out.lt)
 obtain ⟨z4, rfl⟩ := z3.next hb
 clear hb Z3 D3 KA KD KS
 by_cases h0 : k = 0
 case pos =>
  obtain rfl := HQ.out.1 h0
  subst h0
  clear HQ KT KF KM
  have y0 := (HXr.out z4).cell 0 rfl
  have y1 := (HXr.out z4).cell 1 rfl
  have y2 := (HXr.out z4).cell 2 rfl
  have y3 := (HXr.out z4).cell 3 rfl
  have y4 := (HXr.out z4).cell 4 rfl
  obtain ⟨c0, c1, c2, c3, c4, c5, c6, c7, c8, t0, t1, t2, t3, t4, t5, t6, t7, t8⟩ := nine_facts HC.out z4
  go_wp2
  exact ret9 (HC.out z4) (HBl.out z4) (by omega) rfl (fun _ q0 q1 q2 q3 q4 q5 q6 q7 q8 B9 => ⟨by simp [results, Tryz.results36, go_sem, q0, q1, q2, q3, q4, q5, q6, q7, q8]; try rfl, rfl, B9⟩)
 have hd0 : decide (k = 0) = false := decide_eq_false h0
 by_cases hp : 0 ≤ pt
 case pos =>
  obtain rfl := HQ.out.2.1 h0 hp
  have hdp : decide (0 ≤ pt) = true := decide_eq_true hp
  clear HQ KT KF KM
  by_cases h1 : k = 1
  case pos =>
   have hd1 : decide (k = 1) = true := decide_eq_true h1
   have hd2 : decide (k = 2) = false := decide_eq_false (by omega)
   have y0 := (HNn.out z4).cell 0 rfl
   have y1 := (HNn.out z4).cell 1 rfl
   have y2 := (HNn.out z4).cell 2 rfl
   have y3 := (HNn.out z4).cell 3 rfl
   have y4 := (HNn.out z4).cell 4 rfl
   have y5 := (HNn.out z4).cell 5 rfl
   have y6 := (HNn.out z4).cell 6 rfl
   have y7 := (HNn.out z4).cell 7 rfl
   have y8 := (HNn.out z4).cell 8 rfl
   obtain ⟨c0, c1, c2, c3, c4, c5, c6, c7, c8, t0, t1, t2, t3, t4, t5, t6, t7, t8⟩ := nine_facts HC.out z4
   go_wp2
   exact ret9 (HC.out z4) (HBl.out z4) (by omega) rfl (fun _ q0 q1 q2 q3 q4 q5 q6 q7 q8 B9 => ⟨by simp [results, Tryz.results36, go_sem, q0, q1, q2, q3, q4, q5, q6, q7, q8]; try rfl, rfl, B9⟩)
  have hd1 : decide (k = 1) = false := decide_eq_false h1
  by_cases h2 : k = 2
  case pos =>
   have hd2 : decide (k = 2) = true := decide_eq_true h2
   have y0 := (HNn.out z4).cell 0 rfl
   have y1 := (HNn.out z4).cell 1 rfl
   have y2 := (HNn.out z4).cell 2 rfl
   have y3 := (HNn.out z4).cell 3 rfl
   have y4 := (HNn.out z4).cell 4 rfl
   have y5 := (HNn.out z4).cell 5 rfl
   have y6 := (HNn.out z4).cell 6 rfl
   have y7 := (HNn.out z4).cell 7 rfl
   have y8 := (HNn.out z4).cell 8 rfl
   obtain ⟨c0, c1, c2, c3, c4, c5, c6, c7, c8, t0, t1, t2, t3, t4, t5, t6, t7, t8⟩ := nine_facts HC.out z4
   go_wp2
   exact ret9 (HC.out z4) (HBl.out z4) (by omega) rfl (fun _ q0 q1 q2 q3 q4 q5 q6 q7 q8 B9 => ⟨by simp [results, Tryz.results36, go_sem, q0, q1, q2, q3, q4, q5, q6, q7, q8]; try rfl, rfl, B9⟩)
  have hd2 : decide (k = 2) = false := decide_eq_false h2
  have y0 := (HNn.out z4).cell 0 rfl
  have y1 := (HNn.out z4).cell 1 rfl
  have y2 := (HNn.out z4).cell 2 rfl
  have y3 := (HNn.out z4).cell 3 rfl
  have y4 := (HNn.out z4).cell 4 rfl
  have y5 := (HNn.out z4).cell 5 rfl
  have y6 := (HNn.out z4).cell 6 rfl
  have y7 := (HNn.out z4).cell 7 rfl
  have y8 := (HNn.out z4).cell 8 rfl
  obtain ⟨c0, c1, c2, c3, c4, c5, c6, c7, c8, t0, t1, t2, t3, t4, t5, t6, t7, t8⟩ := nine_facts HC.out z4
  go_wp2
  exact ret9 (HC.out z4) (HBl.out z4) (by omega) rfl (fun _ q0 q1 q2 q3 q4 q5 q6 q7 q8 B9 => ⟨by simp [results, Tryz.results36, go_sem, q0, q1, q2, q3, q4, q5, q6, q7, q8]; try rfl, rfl, B9⟩)
 have hdp : decide (0 ≤ pt) = false := decide_eq_false hp
 by_cases h1 : k = 1
 case pos =>
  obtain rfl := HQ.out.2.2.1 h1 (by omega)
  have hd1 : decide (k = 1) = true := decide_eq_true h1
  clear HQ KT KF
  obtain ⟨e0, e1, e2, e3⟩ := Z4.out.cells4
  go_wp2_with fail
  refine lat (KM _) fun z5 => ?_
  clear e0 e1 e2 e3
  obtain ⟨c0, c1, c2, c3, c4, c5, c6, c7, c8, t0, t1, t2, t3, t4, t5, t6, t7, t8⟩ := nine_facts HC.out z5
  go_wp2
  exact ret9 (HC.out z5) (HBl.out z5) (by omega) rfl (fun _ q0 q1 q2 q3 q4 q5 q6 q7 q8 B9 => ⟨by simp [results, Tryz.results36, go_sem, q0, q1, q2, q3, q4, q5, q6, q7, q8]; try rfl, rfl, B9⟩)
 have hd1 : decide (k = 1) = false := decide_eq_false h1
 clear KM
 by_cases h2 : k = 2
 case neg =>
  obtain rfl := HQ.out.2.2.2.2 h0 h1 h2
  have hd2 : decide (k = 2) = false := decide_eq_false h2
  clear HQ KT KF
  have y0 := (HNn.out z4).cell 0 rfl
  have y1 := (HNn.out z4).cell 1 rfl
  have y2 := (HNn.out z4).cell 2 rfl
  have y3 := (HNn.out z4).cell 3 rfl
  have y4 := (HNn.out z4).cell 4 rfl
  have y5 := (HNn.out z4).cell 5 rfl
  have y6 := (HNn.out z4).cell 6 rfl
  have y7 := (HNn.out z4).cell 7 rfl
  have y8 := (HNn.out z4).cell 8 rfl
  obtain ⟨c0, c1, c2, c3, c4, c5, c6, c7, c8, t0, t1, t2, t3, t4, t5, t6, t7, t8⟩ := nine_facts HC.out z4
  go_wp2
  exact ret9 (HC.out z4) (HBl.out z4) (by omega) rfl (fun _ q0 q1 q2 q3 q4 q5 q6 q7 q8 B9 => ⟨by simp [results, Tryz.results36, go_sem, q0, q1, q2, q3, q4, q5, q6, q7, q8]; try rfl, rfl, B9⟩)
 have hd2 : decide (k = 2) = true := decide_eq_true h2
 have HA := hideP (HQ.out.2.2.2.1 h2 (by omega))
 clear HQ
 have o2 := D4.out.cell 2 rfl
 have o4 := D4.out.cell 4 rfl
 go_wp2_with fail
 refine lat (KT _) fun z5 => ?_
 clear o2 o4
 go_wp2_with fail
 refine lat (KF _) fun z6 => ?_
 by_cases h3 : 0 ≤ ix
 case neg =>
  obtain rfl := HA.out.trans (if_neg h3)
  have hd3 : decide (0 ≤ ix) = false := decide_eq_false h3
  clear HA
  have y0 := (HNn.out z6).cell 0 rfl
  have y1 := (HNn.out z6).cell 1 rfl
  have y2 := (HNn.out z6).cell 2 rfl
  have y3 := (HNn.out z6).cell 3 rfl
  have y4 := (HNn.out z6).cell 4 rfl
  have y5 := (HNn.out z6).cell 5 rfl
  have y6 := (HNn.out z6).cell 6 rfl
  have y7 := (HNn.out z6).cell 7 rfl
  have y8 := (HNn.out z6).cell 8 rfl
  obtain ⟨c0, c1, c2, c3, c4, c5, c6, c7, c8, t0, t1, t2, t3, t4, t5, t6, t7, t8⟩ := nine_facts HC.out z6
  go_wp2
  exact ret9 (HC.out z6) (HBl.out z6) (by omega) rfl (fun _ q0 q1 q2 q3 q4 q5 q6 q7 q8 B9 => ⟨by simp [results, Tryz.results36, go_sem, q0, q1, q2, q3, q4, q5, q6, q7, q8]; try rfl, rfl, B9⟩)
 obtain ⟨kk, rfl⟩ : ∃ kk : Nat, ix = (kk : Int) := ⟨ix.toNat, by omega⟩
 have hk : kk < 20 := by omega
 have hki : (kk : Int) < 20 := by omega
 obtain rfl := HA.out.trans ((if_pos h3).trans (if_neg (by omega)))
 have hd3 : decide (0 ≤ (kk : Int)) = true := decide_eq_true h3
 clear HA
 go_wp2_with fail
 refine (specFeasts _).mono ?_
 rintro e w7 ⟨v, rfl, ho, hb⟩
 obtain ⟨z7, rfl⟩ := z6.next hb
 obtain ⟨g, cap, rfl, hg, hcell⟩ := ho.row
 have e0 : z7.w.cell? ⟨g, kk * 5, none⟩ = some (.string (feaAt kk).name) := by rw [show kk * 5 = kk * 5 + 0 from rfl, hcell kk hk 0 (by omega)]; rfl
 clear hb ho hcell
 obtain ⟨c0, c1, c2, c3, c4, c5, c6, c7, c8, t0, t1, t2, t3, t4, t5, t6, t7, t8⟩ := nine_facts HC.out z7
 go_wp2
 exact ret9 (HC.out z7) (HBl.out z7) (by omega) rfl (fun _ q0 q1 q2 q3 q4 q5 q6 q7 q8 B9 => ⟨by simp [results, Tryz.results36, go_sem, q0, q1, q2, q3, q4, q5, q6, q7, q8]; try rfl, rfl, B9⟩)
set_option maxRecDepth 100000 in
set_option maxHeartbeats 8000000 in
theorem specWhens (v : Value) (r : Rgm) (n k : Int) (w : World) (h : GRow w v r) (hf : -9223372036854775808 ≤ r.fr) (ht : r.to ≤ 9223372036854775807) : CR 10 #[v, .int .i64 n, .int .i64 k] w (.tuple #[whnV (tellW r n k), .bool (tellK r n k)]) := by
 have hG := h
 obtain ⟨v1, v2, v3, rfl, _⟩ := h
 obtain ⟨W0, hW0, hD, hC, hB⟩ := boxR w #[.string r.name, .int .i64 r.fr, .int .i64 r.to, v1, v2, v3, .int .i64 r.rule] 38 #[.int .i64 0, .int .i64 0, .int .i64 0, .int .i64 0, .int .i64 0, .int .i64 0, .bool false, .string ⟨#[]⟩, .int .i64 0] 31
 have HBl := hideP hB.out
 have HC := hideP hC.out
 have HW0 := hideP hW0
 obtain ⟨d0, d1, d2, d3, d4, d5, d6⟩ := sevenL hD.out
 have KR : ∀ z : Later W0, CR 36 #[.agg #[.string r.name, .int .i64 r.fr, .int .i64 r.to, v1, v2, v3, .int .i64 r.rule], .int .i64 n, .int .i64 k] z.w (whnV (tellN r n k)) := fun z => specL12Whens _ r n k z.w (hG.below (HBl.out z)) hf ht
 clear hW0 hD hC hB hG hf ht
 cases hK : tellK r n k
 focus
   rw [tellK_no hK]
   have hN : tellN r n k = whnN := by unfold tellN; rw [hK]; rfl
   rw [hN] at KR
   clear hN hK
   go_enter Tryz.func10, Tryz.ntmps10
   go_wp2_with fail
   rw [← HW0.out]
   refine latO (KR ⟨W0, Below.refl _ _⟩) fun x1 => ?_
   obtain ⟨x2, hx2, Y5⟩ := x1.fresh #[.int .i64 (-1), .int .i64 0, .int .i64 0, .int .i64 0, .int .i64 0, .int .i64 0, .bool false, .string ⟨#[]⟩, .int .i64 0] 31
   have HX2 := hideP hx2
   clear hx2
   go_upto_region 2 with fail
   rw [HX2.out]
   clear HX2
   obtain ⟨y0, y1, y2, y3, y4, y5, y6, y7, y8⟩ := Y5.out.cells9
   obtain ⟨c0, c1, c2, c3, c4, c5, c6, c7, c8, t0, t1, t2, t3, t4, t5, t6, t7, t8⟩ := nine_facts HC.out x2
   go_wp2
   obtain ⟨W9, e9⟩ : ∃ W9, W9 = ((((((((x2.w.setCell ⟨w.heap.size + 1, 0, none⟩ (.int .i64 0)).setCell ⟨w.heap.size + 1, 1, none⟩ (.int .i64 0)).setCell ⟨w.heap.size + 1, 2, none⟩ (.int .i64 0)).setCell ⟨w.heap.size + 1, 3, none⟩ (.int .i64 0)).setCell ⟨w.heap.size + 1, 4, none⟩ (.int .i64 0)).setCell ⟨w.heap.size + 1, 5, none⟩ (.int .i64 0)).setCell ⟨w.heap.size + 1, 6, none⟩ (.bool false)).setCell ⟨w.heap.size + 1, 7, none⟩ (.string ⟨#[]⟩)).setCell ⟨w.heap.size + 1, 8, none⟩ (.int .i64 0) := ⟨_, rfl⟩
   have Z9 : Blk W9 (w.heap.size + 1) #[.int .i64 0, .int .i64 0, .int .i64 0, .int .i64 0, .int .i64 0, .int .i64 0, .bool false, .string ⟨#[]⟩, .int .i64 0] 31 := by rw [e9]; exact nine_set (HC.out x2)
 rotate_left
 focus
   have hN : tellN r n k = tellW r n k := by unfold tellN; rw [hK]; rfl
   have hk := tellK_kind (r := r) (n := n) (k := k)
   rw [hN] at KR
   clear hN hK
   generalize tellW r n k = R at *
   obtain ⟨rk, rm, rd, ⟨ra, rb, rc, rt⟩, rf, rp⟩ := R
   have hd : decide (rk = -1) = false := decide_eq_false hk
   go_enter Tryz.func10, Tryz.ntmps10
   go_wp2_with fail
   rw [← HW0.out]
   refine latO (KR ⟨W0, Below.refl _ _⟩) fun x1 => ?_
   obtain ⟨x2, hx2, Y5⟩ := x1.fresh #[.int .i64 rk, .int .i64 rm, .int .i64 rd, .int .i64 ra, .int .i64 rb, .int .i64 rc, .bool rt, .string rf, .int .i64 rp] 31
   have HX2 := hideP hx2
   clear hx2
   go_upto_region 2 with fail
   rw [HX2.out]
   clear HX2
   obtain ⟨y0, y1, y2, y3, y4, y5, y6, y7, y8⟩ := Y5.out.cells9
   obtain ⟨c0, c1, c2, c3, c4, c5, c6, c7, c8, t0, t1, t2, t3, t4, t5, t6, t7, t8⟩ := nine_facts HC.out x2
   go_wp2
   obtain ⟨W9, e9⟩ : ∃ W9, W9 = ((((((((x2.w.setCell ⟨w.heap.size + 1, 0, none⟩ (.int .i64 rk)).setCell ⟨w.heap.size + 1, 1, none⟩ (.int .i64 rm)).setCell ⟨w.heap.size + 1, 2, none⟩ (.int .i64 rd)).setCell ⟨w.heap.size + 1, 3, none⟩ (.int .i64 ra)).setCell ⟨w.heap.size + 1, 4, none⟩ (.int .i64 rb)).setCell ⟨w.heap.size + 1, 5, none⟩ (.int .i64 rc)).setCell ⟨w.heap.size + 1, 6, none⟩ (.bool rt)).setCell ⟨w.heap.size + 1, 7, none⟩ (.string rf)).setCell ⟨w.heap.size + 1, 8, none⟩ (.int .i64 rp) := ⟨_, rfl⟩
   have Z9 : Blk W9 (w.heap.size + 1) #[.int .i64 rk, .int .i64 rm, .int .i64 rd, .int .i64 ra, .int .i64 rb, .int .i64 rc, .bool rt, .string rf, .int .i64 rp] 31 := by rw [e9]; exact nine_set (HC.out x2)
 rotate_left
 all_goals
  have B9 : Below w.heap.size w W9 := by rw [e9]; exact nine_below (HBl.out x2) (by omega)
  rw [← e9]
  clear e9
  obtain ⟨q0, q1, q2, q3, q4, q5, q6, q7, q8⟩ := Z9.cells9
  exact bodyPost_ret (by simp [results, Tryz.results10, go_sem, q0, q1, q2, q3, q4, q5, q6, q7, q8]; try rfl) rfl ⟨rfl, B9⟩
end Go.Proofs.YtdmlhiailjnhcaaGreatDoor.ctr
