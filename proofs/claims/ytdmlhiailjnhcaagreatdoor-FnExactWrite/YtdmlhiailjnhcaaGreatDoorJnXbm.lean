/- The program's isSaid: in a right regime, at a day of it and a right saying, whether the day is told; and what else the law reaches. -/
import Derived.Test.YtdmlhiailjnhcaaGreatDoorJnXaa
import Derived.Test.YtdmlhiailjnhcaaGreatDoorJnXbj
import Derived.Test.YtdmlhiailjnhcaaGreatDoorJnXbe
import Derived.Deep.DeepCutAuto
import Derived.Deep.CutBlock
import Derived.Stop.Asserts
import Derived.Test.YtdmlhiailjnhcaaGreatDoorJnXbh
namespace Go.Proofs.YtdmlhiailjnhcaaGreatDoor.ctr
open Go.RowKit
theorem irD (v : Value) (w : World) : (Instr.typeAssert (.iface 191 v) 158 162 true).run Tryz.prog w = .ok (.tuple #[.iface 191 v, .bool true]) w := run_typeAssert_hasB Tryz.underlying162 (by kernel_rfl) v _ w
theorem irR (v : Value) (w : World) : (Instr.typeAssert (.iface 193 v) 158 162 true).run Tryz.prog w = .ok (.tuple #[.nilIface, .bool false]) w := run_typeAssert_lacksB Tryz.underlying162 (by kernel_rfl) (by kernel_rfl) v _ w
theorem irF (v : Value) (w : World) : (Instr.typeAssert (.iface 196 v) 158 162 true).run Tryz.prog w = .ok (.tuple #[.nilIface, .bool false]) w := run_typeAssert_lacksB Tryz.underlying162 (by kernel_rfl) (by kernel_rfl) v _ w
theorem idR (v : Value) (w : World) : (Instr.typeAssert (.iface 193 v) 158 166 true).run Tryz.prog w = .ok (.tuple #[.iface 193 v, .bool true]) w := run_typeAssert_hasB Tryz.underlying166 (by kernel_rfl) v _ w
theorem idF (v : Value) (w : World) : (Instr.typeAssert (.iface 196 v) 158 166 true).run Tryz.prog w = .ok (.tuple #[.iface 196 v, .bool true]) w := run_typeAssert_hasB Tryz.underlying166 (by kernel_rfl) v _ w
set_option maxRecDepth 100000 in
set_option maxHeartbeats 8000000 in
theorem implIsSaid (v : Value) (r : Rgm) (s : Say) (n : Int) (w : World) (h : GRow w v r) (hr : regimeB r = true) (h1 : r.fr ≤ n) (h2 : n ≤ r.to) (hs : sayB s = true) (hT : Tab w) : CR 92 #[v, sayV s, .int .i64 n, rdgV (rdgOn r n)] w (.bool (saidB r s n)) := by
 have hG := h
 obtain ⟨v1, v2, v3, rfl, _⟩ := h
 obtain ⟨⟨k, m, d, ⟨a, b, c, t⟩, f, p⟩, y, so, ca⟩ := s
 have hw : whnB ⟨k, m, d, ⟨a, b, c, t⟩, f, p⟩ = true := by unfold sayB at hs; simp only [Bool.and_eq_true] at hs; exact hs.1
 have HRD := fun hp => rdg_date (n := n) hr h1 h2 hp
 have KA : ∀ W, Below w.heap.size w W → CR 74 #[.agg #[.string r.name, .int .i64 r.fr, .int .i64 r.to, v1, v2, v3, .int .i64 r.rule], .int .i64 n] W (.int .i64 (patAt r.pats n)) := fun W hb => implPatAt _ r n W (hG.below hb)
 have KPl : ∀ (x : Rdg) W, Below w.heap.size w W → CR 128 #[rdgV x] W (plainR x.cal x) := fun x W hb => implPlain x W (hT.later hb)
 have HS : Hid (saidB r ⟨⟨k, m, d, ⟨a, b, c, t⟩, f, p⟩, y, so, ca⟩ n = (headB (rdgOn r n) ⟨⟨k, m, d, ⟨a, b, c, t⟩, f, p⟩, y, so, ca⟩ && whenIsB r ⟨k, m, d, ⟨a, b, c, t⟩, f, p⟩ n)) := rfl
 generalize saidB r ⟨⟨k, m, d, ⟨a, b, c, t⟩, f, p⟩, y, so, ca⟩ n = ans at *
 generalize hx : rdgOn r n = x at *
 obtain ⟨xc, xy, xs, xm, xd⟩ := x
 obtain ⟨WA, eA, HPa, HSa, HXa, HBa⟩ := boxes3 w #[.string r.name, .int .i64 r.fr, .int .i64 r.to, v1, v2, v3, .int .i64 r.rule] #[.int .i64 k, .int .i64 m, .int .i64 d, .int .i64 a, .int .i64 b, .int .i64 c, .bool t, .string f, .int .i64 p, .int .i64 y, .int .i64 so, .int .i64 ca] #[.int .i64 xc, .int .i64 xy, .int .i64 xs, .int .i64 xm, .int .i64 xd] 38 44 69
 have HA := hideP eA
 have HBl : Hid (∀ x : Later WA, Below w.heap.size w x.w) := fun x => HBa.trans (x.below.mono HBa.size)
 have HP2 : Hid (∀ x : Later WA, Blk x.w w.heap.size #[.string r.name, .int .i64 r.fr, .int .i64 r.to, v1, v2, v3, .int .i64 r.rule] 38) := fun x => HPa.later x
 have HS2 : Hid (∀ x : Later WA, Blk x.w (w.heap.size + 1) #[.int .i64 k, .int .i64 m, .int .i64 d, .int .i64 a, .int .i64 b, .int .i64 c, .bool t, .string f, .int .i64 p, .int .i64 y, .int .i64 so, .int .i64 ca] 44) := fun x => HSa.later x
 have HX2 : Hid (∀ x : Later WA, Blk x.w (w.heap.size + 2) #[.int .i64 xc, .int .i64 xy, .int .i64 xs, .int .i64 xm, .int .i64 xd] 69) := fun x => HXa.later x
 obtain ⟨cr0, cr1, cr2, cr3, cr4, cr5, cr6⟩ := cells7 HP2.out
 obtain ⟨cs0, cs1, cs2, cs3, cs4, cs5, cs6, cs7, cs8, cs9, cs10, cs11⟩ := cells12 HS2.out
 obtain ⟨cx0, cx1, cx2, cx3, cx4⟩ := cells5 HX2.out
 obtain ⟨x0, hx0⟩ : ∃ x0 : Later WA, WA = x0.w := ⟨⟨WA, Below.refl _ _⟩, rfl⟩
 have HX0 := hideP (eA.symm.trans hx0)
 obtain ⟨B, hB⟩ : ∃ B, B = headB ⟨xc, xy, xs, xm, xd⟩ ⟨⟨k, m, d, ⟨a, b, c, t⟩, f, p⟩, y, so, ca⟩ := ⟨_, rfl⟩
 have HB : Hid (B = (xy == y && ((so == -1 || xs == so) && (ca == -1 || xc == ca)))) := hB
 rw [← hB] at HS
 clear hB eA hx0 HPa HSa HXa HBa
 have HWH := hideP (whn_cases hw)
 have HX := hideP hx
 clear hw hs hx
 go_enter Tryz.func92, Tryz.ntmps92
 go_upto_region 1 with fail
 rw [HX0.out]
 generalize sayV ⟨⟨k, m, d, ⟨a, b, c, t⟩, f, p⟩, y, so, ca⟩ = VS
 generalize rdgV ⟨xc, xy, xs, xm, xd⟩ = VX
 go_cut [44] from 16 to 43 (fun s44 wx => s44 = .bool (!B) ∧ wx = x0.w)
 case first =>
  clear HRD KA KPl HS HWH HX HP2 HS2 HX2
  go_wp2_with fail
  all_goals (go_meet; exact ⟨by rw [HB.out]; first | (simp_all; done) | (simp_all; rfl), rfl⟩)
 case rest =>
 obtain ⟨rfl, rfl⟩ := hcut
 clear HB
 cases B
 · obtain rfl : ans = false := HS.out.trans rfl
   go_wp2
   go_ret
   exact ⟨rfl, HBl.out x0⟩
 have HQ : Hid (ans = whenIsB r ⟨k, m, d, ⟨a, b, c, t⟩, f, p⟩ n) := HS.out.trans (by rw [Bool.true_and])
 clear HS HX0 HA
 rcases HWH.out with ⟨rfl, rfl, rfl, rfl, rfl, rfl, rfl, m1, m2, d1, d2⟩ | ⟨rfl, rfl, rfl, rfl, rfl, _⟩ | ⟨rfl, rfl, rfl, rfl, rfl, rfl, rfl, hz, p1, p2⟩
 · have KK : ∀ W, CR 139 #[.agg #[.int .i64 0, .int .i64 m, .int .i64 d, .int .i64 0, .int .i64 0, .int .i64 0, .bool false, .string ⟨#[]⟩, .int .i64 0]] W (.iface 191 (.agg #[.int .i64 m, .int .i64 d])) := fun W => kindDay m d W
   obtain ⟨R, hR⟩ : ∃ R, R = (xm == m && xd == d) := ⟨_, rfl⟩
   have KM : ∀ W, CR 341 #[.agg #[.int .i64 m, .int .i64 d], .agg #[.int .i64 xc, .int .i64 xy, .int .i64 xs, .int .i64 xm, .int .i64 xd]] W (.bool R) := fun W => by rw [hR]; exact dayIsReading m d ⟨xc, xy, xs, xm, xd⟩ W
   have q1 := irD
   obtain rfl : ans = R := HQ.out.trans (by unfold whenIsB; rw [if_pos rfl, HX.out, hR])
   clear HQ hR HRD KA KPl HWH m1 m2 d1 d2
   go_wp2_with fail
   refine lat (KK _) fun x1 => ?_
   go_wp2_with fail
   refine lat (KM _) fun x2 => ?_
   go_wp2
   go_ret
   exact ⟨rfl, HBl.out x2⟩
 focus
   have KK : ∀ W, CR 139 #[.agg #[.int .i64 1, .int .i64 0, .int .i64 0, .int .i64 a, .int .i64 b, .int .i64 c, .bool t, .string ⟨#[]⟩, .int .i64 0]] W (.iface 193 (.agg #[.int .i64 a, .int .i64 b, .int .i64 c, .bool t])) := fun W => kindRom a b c t W
   have q1 := irR
   have q2 := idR
   by_cases hp : 0 ≤ patAt r.pats n
   · obtain rfl : ans = false := HQ.out.trans (by unfold whenIsB; rw [if_neg (show ¬ (1 : Int) = 0 by omega), if_pos hp])
     obtain ⟨e0, e1, e2, e3, ok, hpl⟩ := plain_tuple xc ⟨xc, xy, xs, xm, xd⟩
     have KPx : ∀ W, Below w.heap.size w W → CR 128 #[.agg #[.int .i64 xc, .int .i64 xy, .int .i64 xs, .int .i64 xm, .int .i64 xd]] W (.tuple #[.agg #[.int .i64 e0, .int .i64 e1, .int .i64 e2, .int .i64 e3], .bool ok]) := fun W hb => by rw [← hpl]; exact KPl ⟨xc, xy, xs, xm, xd⟩ W hb
     generalize patAt r.pats n = pt at *
     clear HQ HRD KPl HWH hpl
     go_wp2_with fail
     refine lat (KK _) fun x1 => ?_
     go_wp2_with fail
     refine lat (KPx _ (HBl.out x1)) fun x2 => ?_
     obtain ⟨x3, hx3, Z3⟩ := x2.fresh #[.int .i64 e0, .int .i64 e1, .int .i64 e2, .int .i64 e3] 99
     have HX3 := hideP hx3
     clear hx3
     go_upto_region 10 with fail
     rw [HX3.out]
     go_wp2_with fail
     refine (KA _ (HBl.out x3)).mono ?_
     rintro e w4 ⟨rfl, hb⟩
     have Z4 : Hid (Blk w4 x2.w.heap.size #[.int .i64 e0, .int .i64 e1, .int .i64 e2, .int .i64 e3] 99) := Z3.out.below hb Z3.out.lt
     obtain ⟨x4, rfl⟩ := x3.next hb
     clear hb HX3 Z3
     go_wp2
     go_ret
     exact ⟨rfl, HBl.out x4⟩
   obtain ⟨Y, M, D, he, hc, hY, hM, hD, hok, hday⟩ := HRD hp
   simp only at hc hY hM hD
   subst hY hM hD
   have KPx : ∀ W, Below w.heap.size w W → CR 128 #[.agg #[.int .i64 xc, .int .i64 xy, .int .i64 xs, .int .i64 xm, .int .i64 xd]] W (.tuple #[.agg #[.int .i64 xc, .int .i64 xs, .int .i64 xm, .int .i64 xd], .bool true]) := fun W hb => by rw [← plainR_yes (c := xc) (x := ⟨xc, xy, xs, xm, xd⟩) (by rw [hc]; exact hok)]; exact KPl ⟨xc, xy, xs, xm, xd⟩ W hb
   obtain ⟨R, hR⟩ : ∃ R, R = romEq (romanOf xc xs xm xd) ⟨a, b, c, t⟩ := ⟨_, rfl⟩
   have KM : ∀ W, Below w.heap.size w W → CR 344 #[.agg #[.int .i64 a, .int .i64 b, .int .i64 c, .bool t], .agg #[.int .i64 xc, .int .i64 xs, .int .i64 xm, .int .i64 xd]] W (.bool R) := fun W hb => by rw [hR]; exact romIsDate a b c t xc xs xm xd W (hT.later hb)
   obtain rfl : ans = R := HQ.out.trans (by unfold whenIsB; rw [if_neg (show ¬ (1 : Int) = 0 by omega), if_neg hp, if_pos rfl, he, ← hc, hR])
 rotate_left
 focus
   have KK : ∀ W, CR 139 #[.agg #[.int .i64 2, .int .i64 0, .int .i64 0, .int .i64 0, .int .i64 0, .int .i64 0, .bool false, .string f, .int .i64 p]] W (.iface 196 (.agg #[.string (feaOf f).name, .bool (feaOf f).mv, .int .i64 (feaOf f).off, .int .i64 (feaOf f).m, .int .i64 (feaOf f).d, .int .i64 p])) := fun W => kindFea f p W
   have q1 := irF
   have q2 := idF
   by_cases hp : 0 ≤ patAt r.pats n
   · obtain rfl : ans = false := HQ.out.trans (by unfold whenIsB; rw [if_neg (show ¬ (2 : Int) = 0 by omega), if_pos hp])
     obtain ⟨e0, e1, e2, e3, ok, hpl⟩ := plain_tuple xc ⟨xc, xy, xs, xm, xd⟩
     have KPx : ∀ W, Below w.heap.size w W → CR 128 #[.agg #[.int .i64 xc, .int .i64 xy, .int .i64 xs, .int .i64 xm, .int .i64 xd]] W (.tuple #[.agg #[.int .i64 e0, .int .i64 e1, .int .i64 e2, .int .i64 e3], .bool ok]) := fun W hb => by rw [← hpl]; exact KPl ⟨xc, xy, xs, xm, xd⟩ W hb
     generalize patAt r.pats n = pt at *
     clear HQ HRD KPl HWH hpl
     go_wp2_with fail
     refine lat (KK _) fun x1 => ?_
     go_wp2_with fail
     refine lat (KPx _ (HBl.out x1)) fun x2 => ?_
     obtain ⟨x3, hx3, Z3⟩ := x2.fresh #[.int .i64 e0, .int .i64 e1, .int .i64 e2, .int .i64 e3] 99
     have HX3 := hideP hx3
     clear hx3
     go_upto_region 10 with fail
     rw [HX3.out]
     go_wp2_with fail
     refine (KA _ (HBl.out x3)).mono ?_
     rintro e w4 ⟨rfl, hb⟩
     have Z4 : Hid (Blk w4 x2.w.heap.size #[.int .i64 e0, .int .i64 e1, .int .i64 e2, .int .i64 e3] 99) := Z3.out.below hb Z3.out.lt
     obtain ⟨x4, rfl⟩ := x3.next hb
     clear hb HX3 Z3
     go_wp2
     go_ret
     exact ⟨rfl, HBl.out x4⟩
   obtain ⟨Y, M, D, he, hc, hY, hM, hD, hok, hday⟩ := HRD hp
   simp only at hc hY hM hD
   subst hY hM hD
   have KPx : ∀ W, Below w.heap.size w W → CR 128 #[.agg #[.int .i64 xc, .int .i64 xy, .int .i64 xs, .int .i64 xm, .int .i64 xd]] W (.tuple #[.agg #[.int .i64 xc, .int .i64 xs, .int .i64 xm, .int .i64 xd], .bool true]) := fun W hb => by rw [← plainR_yes (c := xc) (x := ⟨xc, xy, xs, xm, xd⟩) (by rw [hc]; exact hok)]; exact KPl ⟨xc, xy, xs, xm, xd⟩ W hb
   obtain ⟨R, hR⟩ : ∃ R, R = (feaDay xc xs (feaOf f).name (feaOf f).mv (feaOf f).off (feaOf f).m (feaOf f).d + p == dayOf xc xs xm xd) := ⟨_, rfl⟩
   have KM : ∀ W, Below w.heap.size w W → CR 347 #[.agg #[.string (feaOf f).name, .bool (feaOf f).mv, .int .i64 (feaOf f).off, .int .i64 (feaOf f).m, .int .i64 (feaOf f).d, .int .i64 p], .agg #[.int .i64 xc, .int .i64 xs, .int .i64 xm, .int .i64 xd]] W (.bool R) := fun W hb => by rw [hR]; exact feaIsDate _ _ _ _ _ p xc xs xm xd W (Nat.le_trans (feaOf_len f) (by decide)) (hT.later hb) (by have := feaDay_b xc xs (feaOf f).name (feaOf f).mv (feaOf f).off (feaOf f).m (feaOf f).d; omega) (by have := feaDay_b xc xs (feaOf f).name (feaOf f).mv (feaOf f).off (feaOf f).m (feaOf f).d; omega) p1 p2
   obtain rfl : ans = R := HQ.out.trans (by unfold whenIsB; rw [if_neg (show ¬ (2 : Int) = 0 by omega), if_neg hp, if_neg (show ¬ (2 : Int) = 1 by omega), he, ← hc, hR, show dayOf xc xs xm xd = n + (segN r n).off by rw [hc]; exact hday])
 rotate_left
 all_goals
  have hpn : patAt r.pats n < 0 := by omega
  generalize patAt r.pats n = pt at *
  clear HQ HRD KPl HWH hR he hc hok hday hp
  go_wp2_with fail
  refine lat (KK _) fun x1 => ?_
  go_wp2_with fail
  refine lat (KPx _ (HBl.out x1)) fun x2 => ?_
  obtain ⟨x3, hx3, Z3⟩ := x2.fresh #[.int .i64 xc, .int .i64 xs, .int .i64 xm, .int .i64 xd] 99
  have HX3 := hideP hx3
  clear hx3
  go_upto_region 10 with fail
  rw [HX3.out]
  go_wp2_with fail
  refine (KA _ (HBl.out x3)).mono ?_
  rintro e w4 ⟨rfl, hb⟩
  have Z4 : Hid (Blk w4 x2.w.heap.size #[.int .i64 xc, .int .i64 xs, .int .i64 xm, .int .i64 xd] 99) := Z3.out.below hb Z3.out.lt
  obtain ⟨x4, rfl⟩ := x3.next hb
  clear hb HX3 Z3
  have z0 : x4.w.cell? ⟨x2.w.heap.size, 0, none⟩ = some (.int .i64 xc) := Z4.out.cell 0 rfl
  have z1 : x4.w.cell? ⟨x2.w.heap.size, 1, none⟩ = some (.int .i64 xs) := Z4.out.cell 1 rfl
  have z2 : x4.w.cell? ⟨x2.w.heap.size, 2, none⟩ = some (.int .i64 xm) := Z4.out.cell 2 rfl
  have z3 : x4.w.cell? ⟨x2.w.heap.size, 3, none⟩ = some (.int .i64 xd) := Z4.out.cell 3 rfl
  go_wp2_with fail
  refine lat (KM _ (HBl.out x4)) fun x5 => ?_
  go_wp2
  go_ret
  exact ⟨rfl, HBl.out x5⟩

end Go.Proofs.YtdmlhiailjnhcaaGreatDoor.ctr
