/- The model's l12Is: in a right regime, at a day of it and a right When, whether the day is told by it. -/
import Derived.Test.YtpclaceefapppaaGreatDoorJnZad
import Derived.Test.YtpclaceefapppaaGreatDoorJnZbm
import Derived.Test.YtpclaceefapppaaGreatDoorJnZbf
import Derived.Test.YtpclaceefapppaaGreatDoorRomSpecZ
import Derived.Test.YtpclaceefapppaaGreatDoorJnZag
import Derived.Deep.DeepCutAuto
import Derived.Deep.CutBlock
import Derived.Deep.RegionHeld2
import Derived.PlainAid
import Derived.Shelf.Abstract
set_option maxRecDepth 100000
set_option maxHeartbeats 8000000
namespace Go.Proofs.YtpclaceefapppaaGreatDoor.ctr
open Go.RowKit
theorem op_val {P : Program} {ops : Array Oper} {Q : Exit → Act → World → Prop} {i : Nat} {o : Oper} {d : Tmp} {v : Value} {K : Act → World → Prop} {a : Act} {w : World} (hi : ops[i]? = some o) (hd : o.dst = some d) (hw : Region.wanted o (yielded ops a.tmps) = true) (hx : (execOp a.eval o).run P w = .ok (.value v) w) (h : K (a.put (some d) v) w) : wpOp P ops Q i K a w := by
 unfold wpOp
 simp only [hi, hw, if_true]
 left
 unfold Oper.wp
 rw [hx, Oper.upon_value, hd]
 exact h
abbrev i5z : Array Value := #[.int .i64 0, .int .i64 0, .int .i64 0, .int .i64 0, .int .i64 0]
theorem specWhenIs (v : Value) (r : Rgm) (wh : Whn) (n : Int) (w : World) (h : GRow w v r) (hr : regimeB r = true) (h1 : r.fr ≤ n) (h2 : n ≤ r.to) (hw : whnB wh = true) : CR 113 #[v, whnV wh, rdgV (rdgOn r n), .int .i64 n] w (.bool (whenIsB r wh n)) := by
 obtain ⟨j, hj, hjS, hj1, hj2⟩ : ∃ j : Nat, j < r.segs.length ∧ segAt r.segs n = (j : Int) ∧ (atK segK r.segs j).fr ≤ n ∧ n ≤ (atK segK r.segs j).to := by
  have h0 := (seg_fact hr n).2 ⟨h1, h2⟩
  rcases segAt_cases r.segs n with ⟨h3, _⟩ | ⟨i, hi, h3, h4, h5⟩
  · omega
  · exact ⟨i, hi, h3, h4, h5⟩
 have hsn : segN r n = atK segK r.segs j := by unfold segN; rw [hjS, Int.toNat_natCast]
 obtain ⟨n1, n2, n3, n4, _, n5, n6⟩ := segOk_nums (right_seg hr hj).1
 obtain ⟨Y, M, D, he⟩ := mid_date n4 (n := n + (atK segK r.segs j).off) (by omega) (by omega)
 have hG := h
 obtain ⟨v1, v2, v3, rfl, _, x1, x2, x3⟩ := h
 obtain ⟨k, m, d, ⟨a, b, c, t⟩, f, p⟩ := wh
 obtain ⟨ans, hans⟩ : ∃ ans, ans = whenIsB r ⟨k, m, d, ⟨a, b, c, t⟩, f, p⟩ n := ⟨_, rfl⟩
 rw [← hans]
 unfold whenIsB at hans
 rw [hsn, he] at hans
 have HQ := hideP hans
 clear hans
 have KS : ∀ W, Below w.heap.size w W → CR 159 #[.agg #[.string r.name, .int .i64 r.fr, .int .i64 r.to, v1, v2, v3, .int .i64 r.rule], .int .i64 n] W (.int .i64 (j : Int)) := fun W hb => by
  have q := specSegAt _ r n W (hG.below hb)
  rw [hjS] at q
  exact q
 have KA : ∀ W, Below w.heap.size w W → CR 161 #[.agg #[.string r.name, .int .i64 r.fr, .int .i64 r.to, v1, v2, v3, .int .i64 r.rule], .int .i64 n] W (.int .i64 (patAt r.pats n)) := fun W hb => specPatAt _ r n W (hG.below hb)
 have KD : ∀ W, CR 154 #[.int .i64 (atK segK r.segs j).cal, .int .i64 (n + (atK segK r.segs j).off)] W (.tuple #[.agg #[.int .i64 (atK segK r.segs j).cal, .int .i64 Y, .int .i64 M, .int .i64 D], .bool true]) := fun W => by
  have q := specDateOf (atK segK r.segs j).cal (n + (atK segK r.segs j).off) W
  rw [dateR_yes he] at q
  exact q
 obtain ⟨a1, c1, rfl, _, _, hcS⟩ := x1
 obtain ⟨gs, rfl, hgs, xsg⟩ := hcS j hj
 have hjz : (j : Int) < (r.segs.length : Int) := by omega
 generalize hx : rdgOn r n = x at *
 obtain ⟨xc, xy, xs, xm, xd⟩ := x
 obtain ⟨WA, eA, HPa, HWa, HXa, HBa⟩ := boxes3 w #[.string r.name, .int .i64 r.fr, .int .i64 r.to, .slice (some ⟨gs, 0, none⟩) r.segs.length c1, v2, v3, .int .i64 r.rule] #[.int .i64 k, .int .i64 m, .int .i64 d, .int .i64 a, .int .i64 b, .int .i64 c, .bool t, .string f, .int .i64 p] #[.int .i64 xc, .int .i64 xy, .int .i64 xs, .int .i64 xm, .int .i64 xd] 35 56 110
 have HBl : Hid (∀ x : Later WA, Below w.heap.size w x.w) := fun x => HBa.trans (x.below.mono HBa.size)
 have HP2 : Hid (∀ x : Later WA, Blk x.w w.heap.size #[.string r.name, .int .i64 r.fr, .int .i64 r.to, .slice (some ⟨gs, 0, none⟩) r.segs.length c1, v2, v3, .int .i64 r.rule] 35) := fun x => HPa.later x
 have HW2 : Hid (∀ x : Later WA, Blk x.w (w.heap.size + 1) #[.int .i64 k, .int .i64 m, .int .i64 d, .int .i64 a, .int .i64 b, .int .i64 c, .bool t, .string f, .int .i64 p] 56) := fun x => HWa.later x
 have HX2 : Hid (∀ x : Later WA, Blk x.w (w.heap.size + 2) #[.int .i64 xc, .int .i64 xy, .int .i64 xs, .int .i64 xm, .int .i64 xd] 110) := fun x => HXa.later x
 obtain ⟨cr0, cr1, cr2, cr3, cr4, cr5, cr6⟩ := cells7 HP2.out
 obtain ⟨cw0, cw1, cw2, cw3, cw4, cw5, cw6, cw7, cw8⟩ := cells9 HW2.out
 obtain ⟨cx0, cx1, cx2, cx3, cx4⟩ := cells5 HX2.out
 have hgA : gs < WA.heap.size := Nat.lt_of_lt_of_le hgs HBa.size
 have hgS : Hid (∀ x : Later WA, IAt segK x.w gs j (atK segK r.segs j)) := fun x => xsg.below (HBl.out x) hgs
 have g0 : ∀ x : Later WA, x.w.cell? ⟨gs, j * 5, none⟩ = some (.int .i64 (atK segK r.segs j).fr) := fun x => ((hgS.out x).seg).1
 have g1 : ∀ x : Later WA, x.w.cell? ⟨gs, j * 5 + 1, none⟩ = some (.int .i64 (atK segK r.segs j).to) := fun x => ((hgS.out x).seg).2.1
 have g2 : ∀ x : Later WA, x.w.cell? ⟨gs, j * 5 + 2, none⟩ = some (.int .i64 (atK segK r.segs j).cal) := fun x => ((hgS.out x).seg).2.2.1
 have g3 : ∀ x : Later WA, x.w.cell? ⟨gs, j * 5 + 3, none⟩ = some (.int .i64 (atK segK r.segs j).sty) := fun x => ((hgS.out x).seg).2.2.2.1
 have g4 : ∀ x : Later WA, x.w.cell? ⟨gs, j * 5 + 4, none⟩ = some (.int .i64 (atK segK r.segs j).off) := fun x => ((hgS.out x).seg).2.2.2.2
 obtain ⟨y0, hy0⟩ : ∃ y0 : Later WA, WA = y0.w := ⟨⟨WA, Below.refl _ _⟩, rfl⟩
 have HX0 := hideP (eA.symm.trans hy0)
 have HWH := hideP (whn_cases hw)
 have HR := hideP hx
 have KFd : ∀ (c y : Int) (q : Fea) W, q.name.size ≤ 16 → CR 163 #[.int .i64 c, .int .i64 y, .agg #[.string q.name, .bool q.mv, .int .i64 q.off, .int .i64 q.m, .int .i64 q.d]] W (.int .i64 (feaDay c y q.name q.mv q.off q.m q.d)) := fun c y q W hq => specFeaDay c y q.name q.mv q.off q.m q.d W (Nat.le_trans hq (by decide))
 clear eA HPa HWa HXa HBa hcS xsg hG hr hw hx x2 x3 hjS hsn h1 h2 hj he hgs
 generalize atK segK r.segs j = s at *
 rcases HWH.out with ⟨rfl, rfl, rfl, rfl, rfl, rfl, rfl, m1, m2, d1, d2⟩ | hw2
 · have HA : Hid (ans = (xm == m && xd == d)) := HQ.out.trans (by rw [if_pos rfl])
   clear HQ HR HWH m1 m2 d1 d2 KS KA KD KFd
   cases e1 : (xm == m)
   · obtain rfl : ans = false := HA.out.trans (by rw [e1, Bool.false_and])
     go_enter Tryz.func113, Tryz.ntmps113
     go_upto_region 1 with fail
     rw [HX0.out]
     go_wp2_with fail
     go_ret
     exact ⟨rfl, HBl.out y0⟩
   · have HA' : Hid (ans = (xd == d)) := HA.out.trans (by rw [e1, Bool.true_and])
     clear HA
     obtain rfl : ans = (xd == d) := HA'.out
     go_enter Tryz.func113, Tryz.ntmps113
     go_upto_region 1 with fail
     rw [HX0.out]
     go_wp2_with fail
     go_ret
     exact ⟨rfl, HBl.out y0⟩
 have HWH2 := hideP hw2
 have hk0 : ¬ k = 0 := by rcases hw2 with q | q <;> (have := q.1; omega)
 have hk0' : (k == 0) = false := by simpa using hk0
 clear HWH hw2
 generalize patAt r.pats n = pt at *
 go_enter Tryz.func113, Tryz.ntmps113
 go_upto_region 1 with fail
 rw [HX0.out]
 obtain ⟨St, hSt⟩ : ∃ St : World → Prop, St = fun V => Hid (Below WA.heap.size WA V) := ⟨_, rfl⟩
 obtain ⟨Zs, hZs⟩ : ∃ Zs : World → Nat → Prop, Zs = fun V q => Hid (Blk V q i5z 91 ∧ WA.heap.size ≤ q) := ⟨_, rfl⟩
 have KA' : Hid (∀ V o, St V → St (V.alloc o)) := by rw [hSt]; exact fun V o h => h.out.alloc h.out.size o
 have KL : Hid (∀ V, St V → ∃ z : Later WA, V = z.w) := by rw [hSt]; exact fun V h => ⟨⟨V, h.out⟩, rfl⟩
 have KB : Hid (∀ V V', St V → Below V.heap.size V V' → St V' ∧ Hid (∀ q, Zs V q → Zs V' q)) := by
  rw [hSt, hZs]
  exact fun V V' h hb => ⟨h.out.trans (hb.mono h.out.size), fun q hq => ⟨hq.out.1.below hb hq.out.1.lt, hq.out.2⟩⟩
 have KZ : Hid (∀ V, St V → Zs (V.alloc (.cells i5z 91)) V.heap.size) := by rw [hSt, hZs]; exact fun V h => ⟨Blk.new _ _ _, h.out.size⟩
 have KE : Hid (∀ V, St V → V.cell? ⟨w.heap.size, 0, none⟩ = some (.string r.name) ∧ V.cell? ⟨w.heap.size, 1, none⟩ = some (.int .i64 r.fr) ∧ V.cell? ⟨w.heap.size, 2, none⟩ = some (.int .i64 r.to) ∧ V.cell? ⟨w.heap.size, 3, none⟩ = some (.slice (some ⟨gs, 0, none⟩) r.segs.length c1) ∧ V.cell? ⟨w.heap.size, 4, none⟩ = some (v2) ∧ V.cell? ⟨w.heap.size, 5, none⟩ = some (v3) ∧ V.cell? ⟨w.heap.size, 6, none⟩ = some (.int .i64 r.rule) ∧ V.cell? ⟨gs, j * 5, none⟩ = some (.int .i64 s.fr) ∧ V.cell? ⟨gs, j * 5 + 1, none⟩ = some (.int .i64 s.to) ∧ V.cell? ⟨gs, j * 5 + 2, none⟩ = some (.int .i64 s.cal) ∧ V.cell? ⟨gs, j * 5 + 3, none⟩ = some (.int .i64 s.sty) ∧ V.cell? ⟨gs, j * 5 + 4, none⟩ = some (.int .i64 s.off)) := fun V h => by
  obtain ⟨z, rfl⟩ := KL.out V h
  exact ⟨cr0 z, cr1 z, cr2 z, cr3 z, cr4 z, cr5 z, cr6 z, g0 z, g1 z, g2 z, g3 z, g4 z⟩
 have KC : Hid (∀ V, St V → CR 159 #[.agg #[.string r.name, .int .i64 r.fr, .int .i64 r.to, .slice (some ⟨gs, 0, none⟩) r.segs.length c1, v2, v3, .int .i64 r.rule], .int .i64 n] V (.int .i64 (j : Int))) := fun V h => by
  obtain ⟨z, rfl⟩ := KL.out V h
  exact KS z.w (HBl.out z)
 have HZs : Hid (∀ V q, Zs V q → Blk V q i5z 91 ∧ WA.heap.size ≤ q) := by rw [hZs]; exact fun V q h => h.out
 have KF : Hid (∀ V q, St V → Zs V q → Hid (Blk ((((((V).setCell ⟨q, 0, none⟩ (.int .i64 s.fr)).setCell ⟨q, 1, none⟩ (.int .i64 s.to)).setCell ⟨q, 2, none⟩ (.int .i64 s.cal)).setCell ⟨q, 3, none⟩ (.int .i64 s.sty)).setCell ⟨q, 4, none⟩ (.int .i64 s.off)) q #[.int .i64 s.fr, .int .i64 s.to, .int .i64 s.cal, .int .i64 s.sty, .int .i64 s.off] 91) ∧ St ((((((V).setCell ⟨q, 0, none⟩ (.int .i64 s.fr)).setCell ⟨q, 1, none⟩ (.int .i64 s.to)).setCell ⟨q, 2, none⟩ (.int .i64 s.cal)).setCell ⟨q, 3, none⟩ (.int .i64 s.sty)).setCell ⟨q, 4, none⟩ (.int .i64 s.off))) := by
  rw [hSt, hZs]
  intro V q h hq
  obtain ⟨b1, b2⟩ := hq.out
  exact ⟨((((b1.set 0 _).set 1 _).set 2 _).set 3 _).set 4 _, below_store (below_store (below_store (below_store (below_store h.out _ b2) _ b2) _ b2) _ b2) _ b2⟩
 have KG : Hid (∀ V, St V → Hid (Blk (V.alloc (.cells #[.int .i64 s.fr, .int .i64 s.to, .int .i64 s.cal, .int .i64 s.sty, .int .i64 s.off] 91)) V.heap.size #[.int .i64 s.fr, .int .i64 s.to, .int .i64 s.cal, .int .i64 s.sty, .int .i64 s.off] 91) ∧ St (V.alloc (.cells #[.int .i64 s.fr, .int .i64 s.to, .int .i64 s.cal, .int .i64 s.sty, .int .i64 s.off] 91))) := fun V h => ⟨Blk.new _ _ _, KA'.out _ _ h⟩
 have T0 : St y0.w := by rw [hSt]; exact y0.below
 have T0d : St y0.w.drew := by rw [hSt]; exact Below.drew y0.below
 have T0z : St (y0.w.alloc (.cells i5z 91)) := KA'.out _ _ T0
 have T0y : St (y0.w.alloc (.cells i5z 91)).drew := by rw [hSt] at T0z ⊢; exact Below.drew T0z.out
 have HZ1 : Zs (y0.w.alloc (.cells i5z 91)).drew y0.w.heap.size := by
  have h := KZ.out y0.w T0
  rw [hZs] at h ⊢
  exact h
 have HSL : Hid (∀ V, St V → Below WA.heap.size WA V) := by rw [hSt]; exact fun V h => h.out
 clear hSt hZs
 obtain ⟨E0, E1, E2, E3, E4, E5, E6, E7, E8, E9, E10, E11⟩ := KE.out _ T0
 go_upto_region 3 with fail
 go_cut [9] (fun s9 wx => ∃ q : Nat, s9 = .pointer (some ⟨q, 0, none⟩) ∧ Hid (Blk wx q #[.int .i64 s.fr, .int .i64 s.to, .int .i64 s.cal, .int .i64 s.sty, .int .i64 s.off] 91) ∧ St wx)
 case first =>
  go_region_held (fun w' => w'.cell? ⟨w.heap.size, 0, none⟩ = some (.string r.name) ∧ w'.cell? ⟨w.heap.size, 1, none⟩ = some (.int .i64 r.fr) ∧ w'.cell? ⟨w.heap.size, 2, none⟩ = some (.int .i64 r.to) ∧ w'.cell? ⟨w.heap.size, 3, none⟩ = some (.slice (some ⟨gs, 0, none⟩) r.segs.length c1) ∧ w'.cell? ⟨w.heap.size, 4, none⟩ = some (v2) ∧ w'.cell? ⟨w.heap.size, 5, none⟩ = some (v3) ∧ w'.cell? ⟨w.heap.size, 6, none⟩ = some (.int .i64 r.rule) ∧ w'.cell? ⟨gs, j * 5, none⟩ = some (.int .i64 s.fr) ∧ w'.cell? ⟨gs, j * 5 + 1, none⟩ = some (.int .i64 s.to) ∧ w'.cell? ⟨gs, j * 5 + 2, none⟩ = some (.int .i64 s.cal) ∧ w'.cell? ⟨gs, j * 5 + 3, none⟩ = some (.int .i64 s.sty) ∧ w'.cell? ⟨gs, j * 5 + 4, none⟩ = some (.int .i64 s.off)) (first | exact KE.out _ (by assumption) | exact KE.out _ (KA'.out _ _ (by assumption)) | exact KE.out _ (KF.out _ _ (by assumption) (by assumption)).2) ((go_at_call 159; refine Calls.mono (KC.out _ ?_) ?_; (first | assumption | exact KA'.out _ _ (by assumption)); rintro e V ⟨rfl, hb⟩; obtain ⟨T, HY⟩ := KB.out _ _ (by first | assumption | exact KA'.out _ _ (by assumption)) hb; clear hb; (try (have HX := HY.out _ (KZ.out _ (by assumption)); have z0 := (HZs.out _ _ HX).1.cell 0 rfl; have z1 := (HZs.out _ _ HX).1.cell 1 rfl; have z2 := (HZs.out _ _ HX).1.cell 2 rfl; have z3 := (HZs.out _ _ HX).1.cell 3 rfl; have z4 := (HZs.out _ _ HX).1.cell 4 rfl; have u0 := (HZs.out _ _ HX).1.thaw 0; have u1 := (HZs.out _ _ HX).1.thaw 1; have u2 := (HZs.out _ _ HX).1.thaw 2; have u3 := (HZs.out _ _ HX).1.thaw 3; have u4 := (HZs.out _ _ HX).1.thaw 4)); (try (have HX := HY.out _ (by assumption); have z0 := (HZs.out _ _ HX).1.cell 0 rfl; have z1 := (HZs.out _ _ HX).1.cell 1 rfl; have z2 := (HZs.out _ _ HX).1.cell 2 rfl; have z3 := (HZs.out _ _ HX).1.cell 3 rfl; have z4 := (HZs.out _ _ HX).1.cell 4 rfl; have u0 := (HZs.out _ _ HX).1.thaw 0; have u1 := (HZs.out _ _ HX).1.thaw 1; have u2 := (HZs.out _ _ HX).1.thaw 2; have u3 := (HZs.out _ _ HX).1.thaw 3; have u4 := (HZs.out _ _ HX).1.thaw 4))))
  all_goals (go_wp2_with fail; go_meet)
  all_goals refine ⟨_, rfl, ?_⟩
  all_goals first | (with_reducible exact KG.out _ (by assumption)) | (with_reducible exact KF.out _ _ (by assumption) (by assumption))
 case rest =>
 obtain ⟨q, rfl, D1, T1⟩ := hcut
 obtain ⟨z1, rfl⟩ : ∃ z1 : Later WA, wc = z1.w := ⟨⟨wc, HSL.out _ T1⟩, rfl⟩
 clear KA' KL KB KZ KE KC HZs KF KG T0 T0d T0z T0y HZ1 T1 HSL E0 E1 E2 E3 E4 E5 E6 E7 E8 E9 E10 E11
 have a0 := D1.out.cell 0 rfl
 have a1 := D1.out.cell 1 rfl
 have a2 := D1.out.cell 2 rfl
 have a3 := D1.out.cell 3 rfl
 have a4 := D1.out.cell 4 rfl
 go_wp2_with fail
 refine (KD _).mono ?_
 rintro e w2 ⟨rfl, hb⟩
 have D2 := hideP (D1.out.below hb D1.out.lt)
 obtain ⟨z2, rfl⟩ := z1.next hb
 clear hb a0 a1 a2 a3 a4 D1
 obtain ⟨z3, hz3, Z3⟩ := z2.fresh #[.int .i64 s.cal, .int .i64 Y, .int .i64 M, .int .i64 D] 161
 have D3 : Hid (Blk z3.w q #[.int .i64 s.fr, .int .i64 s.to, .int .i64 s.cal, .int .i64 s.sty, .int .i64 s.off] 91) := by unfold Hid; rw [← hz3]; exact D2.out.alloc _
 have HX3 := hideP hz3
 clear hz3 D2
 go_upto_region 5 with fail
 rw [HX3.out]
 clear HX3
 go_wp2_with fail
 refine (KA _ (HBl.out z3)).mono ?_
 rintro e w4 ⟨rfl, hb⟩
 have Z4 := hideP (Z3.out.below hb Z3.out.lt)
 have D4 := hideP (D3.out.below hb D3.out.lt)
 obtain ⟨z4, rfl⟩ := z3.next hb
 clear hb Z3 D3 KA KD KS
 by_cases hp : 0 ≤ pt
 · obtain rfl : ans = false := HQ.out.trans (by rw [if_neg hk0, if_pos hp])
   clear HQ HR HWH2 KFd
   go_wp2
   go_ret
   exact ⟨rfl, HBl.out z4⟩
 have hpn : pt < 0 := by omega
 rcases HWH2.out with ⟨rfl, rfl, rfl, rfl, rfl, _⟩ | ⟨rfl, rfl, rfl, rfl, rfl, rfl, rfl, hz, p1, p2⟩
 · have HA : Hid (ans = romEq (romanOf s.cal Y M D) ⟨a, b, c, t⟩) := HQ.out.trans (by rw [if_neg (show ¬ (1 : Int) = 0 by omega), if_neg hp, if_pos rfl])
   clear HQ HR HWH2 KFd hp
   have KM : ∀ W, CR 162 #[.agg #[.int .i64 s.cal, .int .i64 Y, .int .i64 M, .int .i64 D]] W (romV (romanOf s.cal Y M D)) := fun W => specRomanOf s.cal Y M D W
   generalize romanOf s.cal Y M D = q4 at *
   obtain ⟨q0, q1, q2, q3⟩ := q4
   have KM' : ∀ W, CR 162 #[.agg #[.int .i64 s.cal, .int .i64 Y, .int .i64 M, .int .i64 D]] W (.agg #[.int .i64 q0, .int .i64 q1, .int .i64 q2, .bool q3]) := KM
   clear KM
   obtain ⟨e0, e1, e2, e3⟩ := Z4.out.cells4
   have D0 : Below z4.w.heap.size z4.w z4.w.drew := (Below.refl _ _).drew
   go_upto_region 8 with fail
   go_cut [8] (fun s8 wx => s8 = .bool ans ∧ ∃ z : Later WA, wx = z.w)
   case first =>
    by_cases h0 : q0 = a
    case neg =>
     obtain rfl : ans = false := HA.out.trans (by simp [romEq, h0])
     clear HA
     go_region_with (go_at_call 162; refine (KM' _).mono ?_; rintro e w1 ⟨rfl, hb⟩; obtain ⟨z5, rfl⟩ : ∃ z5 : Later WA, w1 = z5.w := ⟨⟨w1, (z4.below.trans (D0.mono z4.below.size)).trans (hb.mono (z4.below.trans (D0.mono z4.below.size)).size)⟩, rfl⟩; clear hb)
     all_goals (go_wp2_with fail; go_meet)
     all_goals exact ⟨rfl, _, rfl⟩
    by_cases h1 : q1 = b
    case neg =>
     obtain rfl : ans = false := HA.out.trans (by simp [romEq, h0, h1])
     clear HA
     go_region_with (go_at_call 162; refine (KM' _).mono ?_; rintro e w1 ⟨rfl, hb⟩; obtain ⟨z5, rfl⟩ : ∃ z5 : Later WA, w1 = z5.w := ⟨⟨w1, (z4.below.trans (D0.mono z4.below.size)).trans (hb.mono (z4.below.trans (D0.mono z4.below.size)).size)⟩, rfl⟩; clear hb)
     all_goals (go_wp2_with fail; go_meet)
     all_goals exact ⟨rfl, _, rfl⟩
    by_cases h2 : q2 = c
    case neg =>
     obtain rfl : ans = false := HA.out.trans (by simp [romEq, h0, h1, h2])
     clear HA
     go_region_with (go_at_call 162; refine (KM' _).mono ?_; rintro e w1 ⟨rfl, hb⟩; obtain ⟨z5, rfl⟩ : ∃ z5 : Later WA, w1 = z5.w := ⟨⟨w1, (z4.below.trans (D0.mono z4.below.size)).trans (hb.mono (z4.below.trans (D0.mono z4.below.size)).size)⟩, rfl⟩; clear hb)
     all_goals (go_wp2_with fail; go_meet)
     all_goals exact ⟨rfl, _, rfl⟩
    by_cases h3 : q3 = t
    case neg =>
     obtain rfl : ans = false := HA.out.trans (by simp [romEq, h0, h1, h2, h3])
     clear HA
     go_region_with (go_at_call 162; refine (KM' _).mono ?_; rintro e w1 ⟨rfl, hb⟩; obtain ⟨z5, rfl⟩ : ∃ z5 : Later WA, w1 = z5.w := ⟨⟨w1, (z4.below.trans (D0.mono z4.below.size)).trans (hb.mono (z4.below.trans (D0.mono z4.below.size)).size)⟩, rfl⟩; clear hb)
     all_goals (go_wp2_with fail; go_meet)
     all_goals exact ⟨rfl, _, rfl⟩
    obtain rfl : ans = true := HA.out.trans (by simp [romEq, h0, h1, h2, h3])
    clear HA
    go_region_with (go_at_call 162; refine (KM' _).mono ?_; rintro e w1 ⟨rfl, hb⟩; obtain ⟨z5, rfl⟩ : ∃ z5 : Later WA, w1 = z5.w := ⟨⟨w1, (z4.below.trans (D0.mono z4.below.size)).trans (hb.mono (z4.below.trans (D0.mono z4.below.size)).size)⟩, rfl⟩; clear hb)
    all_goals (go_wp2_with fail; go_meet)
    all_goals exact ⟨rfl, _, rfl⟩
   case rest =>
   obtain ⟨rfl, z, rfl⟩ := hcut
   go_wp2
   go_ret
   exact ⟨rfl, HBl.out z⟩
 · skip
   obtain ⟨i, hi⟩ := Int.eq_ofNat_of_zero_le hz
   have hi20 : i < 20 := by have := find_b f; omega
   have hfe : feaOf f = feaAt i := by unfold feaOf; rw [if_neg (by omega), hi, Int.toNat_natCast]
   have HA : Hid (ans = (feaDay s.cal Y (feaAt i).name (feaAt i).mv (feaAt i).off (feaAt i).m (feaAt i).d + p == n + s.off)) := HQ.out.trans (by rw [if_neg (show ¬ (2 : Int) = 0 by omega), if_neg hp, if_neg (show ¬ (2 : Int) = 1 by omega), hfe])
   have KI : ∀ W, CR 148 #[.string f] W (.int .i64 (i : Int)) := fun W => by
    have q := specFind f W
    rw [hi] at q
    exact q
   have KD5 := fun W => KFd s.cal Y (feaAt i) W (feaAt_len ⟨i, hi20⟩)
   have bd := feaDay_b s.cal Y (feaAt i).name (feaAt i).mv (feaAt i).off (feaAt i).m (feaAt i).d
   generalize feaDay s.cal Y (feaAt i).name (feaAt i).mv (feaAt i).off (feaAt i).m (feaAt i).d = fd at *
   clear HQ HR HWH2 KFd hp hfe hz hi
   obtain ⟨e0, e1, e2, e3⟩ := Z4.out.cells4
   have o2 := D4.out.cell 2 rfl
   have o4 := D4.out.cell 4 rfl
   have T4 : Below z4.w.heap.size z4.w z4.w.drew := (Below.refl _ _).drew
   have hq4 : q < z4.w.heap.size := D4.out.lt
   have hd4 : z2.w.heap.size < z4.w.heap.size := Z4.out.lt
   have KCL : Hid (∀ V, Below z4.w.heap.size z4.w V → V.cell? ⟨q, 2, none⟩ = some (.int .i64 s.cal) ∧ V.cell? ⟨q, 4, none⟩ = some (.int .i64 s.off) ∧ V.cell? ⟨z2.w.heap.size, 1, none⟩ = some (.int .i64 Y) ∧ V.cell? ⟨w.heap.size + 1, 7, none⟩ = some (.string f) ∧ V.cell? ⟨w.heap.size + 1, 8, none⟩ = some (.int .i64 p)) := fun V hb => by
    obtain ⟨z, rfl⟩ := z4.next hb
    exact ⟨(D4.out.below hb hq4).cell 2 rfl, (D4.out.below hb hq4).cell 4 rfl, (Z4.out.below hb hd4).cell 1 rfl, cw7 z, cw8 z⟩
   have e5 := cw7 z4
   have e6 := cw8 z4
   go_upto_region 9 with fail
   go_cut [8] (fun s8 wx => s8 = .bool ans ∧ ∃ z : Later WA, wx = z.w)
   case first =>
    have hiz : (i : Int) < 20 := by omega
    refine wp_region_held_drew (S := (fun w' => w'.cell? ⟨q, 2, none⟩ = some (.int .i64 s.cal) ∧ w'.cell? ⟨q, 4, none⟩ = some (.int .i64 s.off) ∧ w'.cell? ⟨z2.w.heap.size, 1, none⟩ = some (.int .i64 Y) ∧ w'.cell? ⟨w.heap.size + 1, 7, none⟩ = some (.string f) ∧ w'.cell? ⟨w.heap.size + 1, 8, none⟩ = some (.int .i64 p))) (by kernel_rfl) (KCL.out _ T4) (fun hHeld => ?_)
    refine held_take (i := 0) (d := 56) (v := ?_) rfl rfl (by kernel_rfl) (by decide +kernel) (by decide +kernel) (fun _ _ _ h => h) (by rfl) ?_ (by assumption) ?_
    rotate_left
    · intro wq hSw
      obtain ⟨r1, r2, r3, r4, r5⟩ := hSw
      go_simp
      (try rfl)
    simp only [Act.put, List.setIfInBounds_toArray, List.set_cons_zero, List.set_cons_succ]
    refine held_take (i := 1) (d := 57) (v := ?_) rfl rfl (by kernel_rfl) (by decide +kernel) (by decide +kernel) (fun _ _ _ h => h) (by rfl) ?_ (by assumption) ?_
    rotate_left
    · intro wq hSw
      obtain ⟨r1, r2, r3, r4, r5⟩ := hSw
      go_simp
      (try rfl)
    simp only [Act.put, List.setIfInBounds_toArray, List.set_cons_zero, List.set_cons_succ]
    refine held_take (i := 2) (d := 58) (v := ?_) rfl rfl (by kernel_rfl) (by decide +kernel) (by decide +kernel) (fun _ _ _ h => h) (by rfl) ?_ (by assumption) ?_
    rotate_left
    · intro wq hSw
      obtain ⟨r1, r2, r3, r4, r5⟩ := hSw
      go_simp
      (try rfl)
    simp only [Act.put, List.setIfInBounds_toArray, List.set_cons_zero, List.set_cons_succ]
    refine held_take (i := 3) (d := 59) (v := ?_) rfl rfl (by kernel_rfl) (by decide +kernel) (by decide +kernel) (fun _ _ _ h => h) (by rfl) ?_ (by assumption) ?_
    rotate_left
    · intro wq hSw
      obtain ⟨r1, r2, r3, r4, r5⟩ := hSw
      go_simp
      (try rfl)
    simp only [Act.put, List.setIfInBounds_toArray, List.set_cons_zero, List.set_cons_succ]
    refine held_take (i := 5) (d := 61) (v := ?_) rfl rfl (by kernel_rfl) (by decide +kernel) (by decide +kernel) (fun _ _ _ h => h) (by rfl) ?_ (by assumption) ?_
    rotate_left
    · intro wq hSw
      obtain ⟨r1, r2, r3, r4, r5⟩ := hSw
      go_simp
      (try rfl)
    simp only [Act.put, List.setIfInBounds_toArray, List.set_cons_zero, List.set_cons_succ]
    refine held_take (i := 6) (d := 62) (v := ?_) rfl rfl (by kernel_rfl) (by decide +kernel) (by decide +kernel) (fun _ _ _ h => h) (by rfl) ?_ (by assumption) ?_
    rotate_left
    · intro wq hSw
      obtain ⟨r1, r2, r3, r4, r5⟩ := hSw
      go_simp
      (try rfl)
    simp only [Act.put, List.setIfInBounds_toArray, List.set_cons_zero, List.set_cons_succ]
    refine held_take (i := 11) (d := 67) (v := ?_) rfl rfl (by kernel_rfl) (by decide +kernel) (by decide +kernel) (fun _ _ _ h => h) (by rfl) ?_ (by assumption) ?_
    rotate_left
    · intro wq hSw
      obtain ⟨r1, r2, r3, r4, r5⟩ := hSw
      go_simp
      (try rfl)
    simp only [Act.put, List.setIfInBounds_toArray, List.set_cons_zero, List.set_cons_succ]
    refine held_take (i := 12) (d := 68) (v := ?_) rfl rfl (by kernel_rfl) (by decide +kernel) (by decide +kernel) (fun _ _ _ h => h) (by rfl) ?_ (by assumption) ?_
    rotate_left
    · intro wq hSw
      obtain ⟨r1, r2, r3, r4, r5⟩ := hSw
      go_simp
      (try rfl)
    simp only [Act.put, List.setIfInBounds_toArray, List.set_cons_zero, List.set_cons_succ]
    refine held_take (i := 14) (d := 70) (v := ?_) rfl rfl (by kernel_rfl) (by decide +kernel) (by decide +kernel) (fun _ _ _ h => h) (by rfl) ?_ (by assumption) ?_
    rotate_left
    · intro wq hSw
      obtain ⟨r1, r2, r3, r4, r5⟩ := hSw
      go_simp
      (try rfl)
    simp only [Act.put, List.setIfInBounds_toArray, List.set_cons_zero, List.set_cons_succ]
    refine held_take (i := 15) (d := 71) (v := ?_) rfl rfl (by kernel_rfl) (by decide +kernel) (by decide +kernel) (fun _ _ _ h => h) (by rfl) ?_ (by assumption) ?_
    rotate_left
    · intro wq hSw
      obtain ⟨r1, r2, r3, r4, r5⟩ := hSw
      go_simp
      (try rfl)
    simp only [Act.put, List.setIfInBounds_toArray, List.set_cons_zero, List.set_cons_succ]
    refine held_take (i := 16) (d := 72) (v := ?_) rfl rfl (by kernel_rfl) (by decide +kernel) (by decide +kernel) (fun _ _ _ h => h) (by rfl) ?_ (by assumption) ?_
    rotate_left
    · intro wq hSw
      obtain ⟨r1, r2, r3, r4, r5⟩ := hSw
      go_simp
      (try rfl)
    simp only [Act.put, List.setIfInBounds_toArray, List.set_cons_zero, List.set_cons_succ]
    refine held_take (i := 17) (d := 73) (v := ?_) rfl rfl (by kernel_rfl) (by decide +kernel) (by decide +kernel) (fun _ _ _ h => h) (by rfl) ?_ (by assumption) ?_
    rotate_left
    · intro wq hSw
      obtain ⟨r1, r2, r3, r4, r5⟩ := hSw
      go_simp
      (try rfl)
    simp only [Act.put, List.setIfInBounds_toArray, List.set_cons_zero, List.set_cons_succ]
    refine held_one (i := 4) (by decide +kernel) (op_call (args := #[]) (T := fun u w' => FeaRow w' u ∧ Below z4.w.heap.size z4.w w') rfl rfl rfl (by rfl) (by simp) (enters_of Tryz.func102 (by kernel_rfl) rfl) ((specFeasts _).mono ?_) ?_)
    · rintro e V ⟨vf, rfl, ho, hb⟩
      exact ⟨vf, rfl, ho.row, T4.trans (hb.mono T4.size)⟩
    rintro u V5 ⟨hrow, B5⟩
    obtain ⟨gf, cap, rfl, hgf, hcell⟩ := hrow
    have FR5 : Hid (FeaRow V5 (.slice (some ⟨gf, 0, none⟩) 20 cap)) := ⟨gf, cap, rfl, hgf, hcell⟩
    have hS5 := KCL.out V5 B5
    refine ⟨hS5, ?_⟩
    clear hHeld hcell
    simp only [Act.put, List.setIfInBounds_toArray, List.set_cons_zero, List.set_cons_succ]
    refine held_one (i := 7) (by decide +kernel) (op_call (args := #[.string f]) (T := fun u w' => u = .int .i64 (i : Int) ∧ Below V5.heap.size V5 w') rfl rfl rfl (by rfl) (by simp only [List.map_toArray, List.map_cons, List.map_nil]; rfl) (enters_of Tryz.func148 (by kernel_rfl) rfl) ((KI _).mono ?_) ?_)
    · rintro e V ⟨rfl, hb⟩
      exact ⟨_, rfl, rfl, hb⟩
    rintro u V6 ⟨rfl, hb6⟩
    have B6 := B5.trans (hb6.mono B5.size)
    obtain ⟨gg, cc, he6, hg6, hc6⟩ := FR5.out.below hb6
    cases he6
    have y0 : V6.cell? ⟨gf, i * 5, none⟩ = some (.string (feaAt i).name) := by rw [show i * 5 = i * 5 + 0 from rfl, hc6 i hi20 0 (by omega)]; rfl
    have y1 : V6.cell? ⟨gf, i * 5 + 1, none⟩ = some (.bool (feaAt i).mv) := by rw [hc6 i hi20 1 (by omega)]; rfl
    have y2 : V6.cell? ⟨gf, i * 5 + 2, none⟩ = some (.int .i64 (feaAt i).off) := by rw [hc6 i hi20 2 (by omega)]; rfl
    have y3 : V6.cell? ⟨gf, i * 5 + 3, none⟩ = some (.int .i64 (feaAt i).m) := by rw [hc6 i hi20 3 (by omega)]; rfl
    have y4 : V6.cell? ⟨gf, i * 5 + 4, none⟩ = some (.int .i64 (feaAt i).d) := by rw [hc6 i hi20 4 (by omega)]; rfl
    have hS6 := KCL.out V6 B6
    refine ⟨hS6, ?_⟩
    clear hS5 hc6 FR5 hb6
    simp only [Act.put, List.setIfInBounds_toArray, List.set_cons_zero, List.set_cons_succ]
    refine held_take (i := 8) (d := 64) (v := ?_) rfl rfl (by kernel_rfl) (by decide +kernel) (by decide +kernel) (fun _ _ _ h => h) (by rfl) ?_ (by assumption) ?_
    rotate_left
    · intro wq hSw
      obtain ⟨r1, r2, r3, r4, r5⟩ := hSw
      go_simp
      (try rfl)
    simp only [Act.put, List.setIfInBounds_toArray, List.set_cons_zero, List.set_cons_succ]
    refine held_one (i := 9) (by decide +kernel) (op_val (v := .agg #[.string (feaAt i).name, .bool (feaAt i).mv, .int .i64 (feaAt i).off, .int .i64 (feaAt i).m, .int .i64 (feaAt i).d]) rfl rfl (by rfl) (by simp [execOp, go_sem, y0, y1, y2, y3, y4]) ?_)
    refine ⟨hS6, ?_⟩
    simp only [Act.put, List.setIfInBounds_toArray, List.set_cons_zero, List.set_cons_succ]
    refine held_one (i := 10) (by decide +kernel) (op_call (args := #[.int .i64 s.cal, .int .i64 Y, .agg #[.string (feaAt i).name, .bool (feaAt i).mv, .int .i64 (feaAt i).off, .int .i64 (feaAt i).m, .int .i64 (feaAt i).d]]) (T := fun u w' => u = .int .i64 fd ∧ Below V6.heap.size V6 w') rfl rfl rfl (by rfl) (by simp only [List.map_toArray, List.map_cons, List.map_nil]; rfl) (enters_of Tryz.func163 (by kernel_rfl) rfl) ((KD5 _).mono ?_) ?_)
    · rintro e V ⟨rfl, hb⟩
      exact ⟨_, rfl, rfl, hb⟩
    rintro u V7 ⟨rfl, hb7⟩
    have B7 := B6.trans (hb7.mono B6.size)
    have hS7 := KCL.out V7 B7
    refine ⟨hS7, ?_⟩
    clear hS6 hb7 y0 y1 y2 y3 y4
    simp only [Act.put, List.setIfInBounds_toArray, List.set_cons_zero, List.set_cons_succ]
    refine held_take (i := 13) (d := 69) (v := ?_) rfl rfl (by kernel_rfl) (by decide +kernel) (by decide +kernel) (fun _ _ _ h => h) (by rfl) ?_ (by assumption) ?_
    rotate_left
    · intro wq hSw
      obtain ⟨r1, r2, r3, r4, r5⟩ := hSw
      go_simp
      (try rfl)
    simp only [Act.put, List.setIfInBounds_toArray, List.set_cons_zero, List.set_cons_succ]
    refine held_take (i := 18) (d := 74) (v := ?_) rfl rfl (by kernel_rfl) (by decide +kernel) (by decide +kernel) (fun _ _ _ h => h) (by rfl) ?_ (by assumption) ?_
    rotate_left
    · intro wq hSw
      obtain ⟨r1, r2, r3, r4, r5⟩ := hSw
      go_simp
      (try rfl)
    simp only [Act.put, List.setIfInBounds_toArray, List.set_cons_zero, List.set_cons_succ]
    refine held_take (i := 19) (d := 8) (v := ?_) rfl rfl (by kernel_rfl) (by decide +kernel) (by decide +kernel) (fun _ _ _ h => h) (by rfl) ?_ (by assumption) ?_
    rotate_left
    · intro wq hSw
      obtain ⟨r1, r2, r3, r4, r5⟩ := hSw
      go_simp
      (try rfl)
    simp only [Act.put, List.setIfInBounds_toArray, List.set_cons_zero, List.set_cons_succ]
    refine wpAnyH_done (by kernel_rfl) ?_ _
    go_wp2_with fail
    go_meet
    exact ⟨(by rw [HA.out, PlainAid.i64_is, PlainAid.i64_is, show wrap64 (fd + p) = fd + p by unfold wrap64; omega, show wrap64 (n + s.off) = n + s.off by unfold wrap64; omega]), ⟨_, z4.below.trans (B7.mono z4.below.size)⟩, rfl⟩
   case rest =>
   obtain ⟨rfl, z, rfl⟩ := hcut
   go_wp2
   go_ret
   exact ⟨rfl, HBl.out z⟩
end Go.Proofs.YtpclaceefapppaaGreatDoor.ctr
