/- The program's isSaid: in a right regime, at a day of it and a right saying, whether the day is told. The program's Means. The model's l12Means and Means. What a tied card's proof wants of the listed handle errors.errorType. What a tied card's proof wants of listed variables: two or three of them are so many data; the one row of the type that errors.New makes; the listed sentinel. -/
import Derived.Test.YtjojgfdfbkmlkaaGreatDoorJnMbk
import Derived.Test.YtjojgfdfbkmlkaaGreatDoorWhnToM
import Derived.Deep.DeepCutAuto
import Derived.Deep.CutBlock
import Derived.Stop.Asserts
import Derived.Test.YtjojgfdfbkmlkaaGreatDoorMnsSM
import Derived.Test.YtjojgfdfbkmlkaaGreatDoorJnMbg
import Derived.LaidLaws
import Derived.LaidHandle
import Derived.Test.YtjojgfdfbkmlkaaGreatDoorJnMaa
import Derived.Test.YtjojgfdfbkmlkaaGreatDoorJnMbc
import Derived.Stop.LaidErr
namespace Go.Proofs.YtjojgfdfbkmlkaaGreatDoor.ctr
open Go.RowKit
theorem irD (v : Value) (w : World) : (Instr.typeAssert (.iface 227 v) 170 173 true).run Tryz.prog w = .ok (.tuple #[.iface 227 v, .bool true]) w := run_typeAssert_hasB Tryz.underlying173 (by kernel_rfl) v _ w
theorem irR (v : Value) (w : World) : (Instr.typeAssert (.iface 229 v) 170 173 true).run Tryz.prog w = .ok (.tuple #[.nilIface, .bool false]) w := run_typeAssert_lacksB Tryz.underlying173 (by kernel_rfl) (by kernel_rfl) v _ w
theorem irF (v : Value) (w : World) : (Instr.typeAssert (.iface 232 v) 170 173 true).run Tryz.prog w = .ok (.tuple #[.nilIface, .bool false]) w := run_typeAssert_lacksB Tryz.underlying173 (by kernel_rfl) (by kernel_rfl) v _ w
theorem idR (v : Value) (w : World) : (Instr.typeAssert (.iface 229 v) 170 176 true).run Tryz.prog w = .ok (.tuple #[.iface 229 v, .bool true]) w := run_typeAssert_hasB Tryz.underlying176 (by kernel_rfl) v _ w
theorem idF (v : Value) (w : World) : (Instr.typeAssert (.iface 232 v) 170 176 true).run Tryz.prog w = .ok (.tuple #[.iface 232 v, .bool true]) w := run_typeAssert_hasB Tryz.underlying176 (by kernel_rfl) v _ w
set_option maxRecDepth 100000 in
set_option maxHeartbeats 8000000 in
theorem implIsSaid (v : Value) (r : Rgm) (s : Say) (n : Int) (w : World) (h : GRow w v r) (hr : regimeB r = true) (h1 : r.fr ≤ n) (h2 : n ≤ r.to) (hs : sayB s = true) (hT : Tab w) : Calls Tryz.prog 88 #[v, sayV s, .int .i64 n, rdgV (rdgOn r n)] w fun e w' => e = .returned (.bool (saidB r s n)) ∧ Below w.heap.size w w' := by
  have hG := h
  obtain ⟨v1, v2, v3, rfl, _⟩ := h
  obtain ⟨⟨k, m, d, ⟨a, b, c, t⟩, f, p⟩, y, so, ca⟩ := s
  have hw : whnB ⟨k, m, d, ⟨a, b, c, t⟩, f, p⟩ = true := by unfold sayB at hs; simp only [Bool.and_eq_true] at hs; exact hs.1
  have HRD := fun hp => rdg_date (n := n) hr h1 h2 hp
  have KA : ∀ W, Below w.heap.size w W → Calls Tryz.prog 130 #[.agg #[.string r.name, .int .i64 r.fr, .int .i64 r.to, v1, v2, v3, .int .i64 r.rule], .int .i64 n] W fun e w' => e = .returned (.int .i64 (patAt r.pats n)) ∧ Below W.heap.size W w' := fun W hb => implPatAt _ r n W (hG.below hb)
  have KPl : ∀ (x : Rdg) W, Below w.heap.size w W → Calls Tryz.prog 124 #[rdgV x] W fun e w' => e = .returned (plainR x.cal x) ∧ Below W.heap.size W w' := fun x W hb => implPlain x W (hT.later hb)
  have HS : Hid (saidB r ⟨⟨k, m, d, ⟨a, b, c, t⟩, f, p⟩, y, so, ca⟩ n = (headB (rdgOn r n) ⟨⟨k, m, d, ⟨a, b, c, t⟩, f, p⟩, y, so, ca⟩ && whenIsB r ⟨k, m, d, ⟨a, b, c, t⟩, f, p⟩ n)) := rfl
  generalize saidB r ⟨⟨k, m, d, ⟨a, b, c, t⟩, f, p⟩, y, so, ca⟩ n = ans at *
  generalize hx : rdgOn r n = x at *
  obtain ⟨xc, xy, xs, xm, xd⟩ := x
  obtain ⟨WA, eA, HPa, HSa, HXa, HBa⟩ := boxes3 w #[.string r.name, .int .i64 r.fr, .int .i64 r.to, v1, v2, v3, .int .i64 r.rule] #[.int .i64 k, .int .i64 m, .int .i64 d, .int .i64 a, .int .i64 b, .int .i64 c, .bool t, .string f, .int .i64 p, .int .i64 y, .int .i64 so, .int .i64 ca] #[.int .i64 xc, .int .i64 xy, .int .i64 xs, .int .i64 xm, .int .i64 xd] 36 59 38
  have HA := hideP eA
  have HBl : Hid (∀ x : Later WA, Below w.heap.size w x.w) := fun x => HBa.trans (x.below.mono HBa.size)
  have HP2 : Hid (∀ x : Later WA, Blk x.w w.heap.size #[.string r.name, .int .i64 r.fr, .int .i64 r.to, v1, v2, v3, .int .i64 r.rule] 36) := fun x => HPa.later x
  have HS2 : Hid (∀ x : Later WA, Blk x.w (w.heap.size + 1) #[.int .i64 k, .int .i64 m, .int .i64 d, .int .i64 a, .int .i64 b, .int .i64 c, .bool t, .string f, .int .i64 p, .int .i64 y, .int .i64 so, .int .i64 ca] 59) := fun x => HSa.later x
  have HX2 : Hid (∀ x : Later WA, Blk x.w (w.heap.size + 2) #[.int .i64 xc, .int .i64 xy, .int .i64 xs, .int .i64 xm, .int .i64 xd] 38) := fun x => HXa.later x
  have cr0 : ∀ x : Later WA, x.w.cell? ⟨w.heap.size, 0, none⟩ = some (.string r.name) := fun x => (HP2.out x).cell 0 rfl
  have cr1 : ∀ x : Later WA, x.w.cell? ⟨w.heap.size, 1, none⟩ = some (.int .i64 r.fr) := fun x => (HP2.out x).cell 1 rfl
  have cr2 : ∀ x : Later WA, x.w.cell? ⟨w.heap.size, 2, none⟩ = some (.int .i64 r.to) := fun x => (HP2.out x).cell 2 rfl
  have cr3 : ∀ x : Later WA, x.w.cell? ⟨w.heap.size, 3, none⟩ = some (v1) := fun x => (HP2.out x).cell 3 rfl
  have cr4 : ∀ x : Later WA, x.w.cell? ⟨w.heap.size, 4, none⟩ = some (v2) := fun x => (HP2.out x).cell 4 rfl
  have cr5 : ∀ x : Later WA, x.w.cell? ⟨w.heap.size, 5, none⟩ = some (v3) := fun x => (HP2.out x).cell 5 rfl
  have cr6 : ∀ x : Later WA, x.w.cell? ⟨w.heap.size, 6, none⟩ = some (.int .i64 r.rule) := fun x => (HP2.out x).cell 6 rfl
  have cs0 : ∀ x : Later WA, x.w.cell? ⟨w.heap.size + 1, 0, none⟩ = some (.int .i64 k) := fun x => (HS2.out x).cell 0 rfl
  have cs1 : ∀ x : Later WA, x.w.cell? ⟨w.heap.size + 1, 1, none⟩ = some (.int .i64 m) := fun x => (HS2.out x).cell 1 rfl
  have cs2 : ∀ x : Later WA, x.w.cell? ⟨w.heap.size + 1, 2, none⟩ = some (.int .i64 d) := fun x => (HS2.out x).cell 2 rfl
  have cs3 : ∀ x : Later WA, x.w.cell? ⟨w.heap.size + 1, 3, none⟩ = some (.int .i64 a) := fun x => (HS2.out x).cell 3 rfl
  have cs4 : ∀ x : Later WA, x.w.cell? ⟨w.heap.size + 1, 4, none⟩ = some (.int .i64 b) := fun x => (HS2.out x).cell 4 rfl
  have cs5 : ∀ x : Later WA, x.w.cell? ⟨w.heap.size + 1, 5, none⟩ = some (.int .i64 c) := fun x => (HS2.out x).cell 5 rfl
  have cs6 : ∀ x : Later WA, x.w.cell? ⟨w.heap.size + 1, 6, none⟩ = some (.bool t) := fun x => (HS2.out x).cell 6 rfl
  have cs7 : ∀ x : Later WA, x.w.cell? ⟨w.heap.size + 1, 7, none⟩ = some (.string f) := fun x => (HS2.out x).cell 7 rfl
  have cs8 : ∀ x : Later WA, x.w.cell? ⟨w.heap.size + 1, 8, none⟩ = some (.int .i64 p) := fun x => (HS2.out x).cell 8 rfl
  have cs9 : ∀ x : Later WA, x.w.cell? ⟨w.heap.size + 1, 9, none⟩ = some (.int .i64 y) := fun x => (HS2.out x).cell 9 rfl
  have cs10 : ∀ x : Later WA, x.w.cell? ⟨w.heap.size + 1, 10, none⟩ = some (.int .i64 so) := fun x => (HS2.out x).cell 10 rfl
  have cs11 : ∀ x : Later WA, x.w.cell? ⟨w.heap.size + 1, 11, none⟩ = some (.int .i64 ca) := fun x => (HS2.out x).cell 11 rfl
  have cx0 : ∀ x : Later WA, x.w.cell? ⟨w.heap.size + 2, 0, none⟩ = some (.int .i64 xc) := fun x => (HX2.out x).cell 0 rfl
  have cx1 : ∀ x : Later WA, x.w.cell? ⟨w.heap.size + 2, 1, none⟩ = some (.int .i64 xy) := fun x => (HX2.out x).cell 1 rfl
  have cx2 : ∀ x : Later WA, x.w.cell? ⟨w.heap.size + 2, 2, none⟩ = some (.int .i64 xs) := fun x => (HX2.out x).cell 2 rfl
  have cx3 : ∀ x : Later WA, x.w.cell? ⟨w.heap.size + 2, 3, none⟩ = some (.int .i64 xm) := fun x => (HX2.out x).cell 3 rfl
  have cx4 : ∀ x : Later WA, x.w.cell? ⟨w.heap.size + 2, 4, none⟩ = some (.int .i64 xd) := fun x => (HX2.out x).cell 4 rfl
  obtain ⟨x0, hx0⟩ : ∃ x0 : Later WA, WA = x0.w := ⟨⟨WA, Below.refl _ _⟩, rfl⟩
  have HX0 := hideP (eA.symm.trans hx0)
  obtain ⟨B, hB⟩ : ∃ B, B = headB ⟨xc, xy, xs, xm, xd⟩ ⟨⟨k, m, d, ⟨a, b, c, t⟩, f, p⟩, y, so, ca⟩ := ⟨_, rfl⟩
  have HB : Hid (B = (xy == y && ((so == -1 || xs == so) && (ca == -1 || xc == ca)))) := hB
  rw [← hB] at HS
  clear hB eA hx0 HPa HSa HXa HBa
  have HWH := hideP (whn_cases hw)
  have HX := hideP hx
  clear hw hs hx
  go_enter Tryz.func88, Tryz.ntmps88
  go_upto_region 1 with fail
  rw [HX0.out]
  generalize sayV ⟨⟨k, m, d, ⟨a, b, c, t⟩, f, p⟩, y, so, ca⟩ = VS
  generalize rdgV ⟨xc, xy, xs, xm, xd⟩ = VX
  go_cut [44] from 16 to 43 (fun s44 wx => s44 = .bool (!B) ∧ wx = x0.w)
  case first =>
    clear HRD KA KPl HS HWH HX HP2 HS2 HX2
    go_wp2_with fail
    all_goals (go_meet; exact ⟨by rw [HB.out]; first | (simp_all; done) | (simp_all; rfl), rfl⟩)
  case rest =>
  obtain ⟨rfl, rfl⟩ := hcut
  clear HB
  cases B
  · obtain rfl : ans = false := HS.out.trans rfl
    go_wp2
    go_ret
    exact ⟨rfl, HBl.out x0⟩
  have HQ : Hid (ans = whenIsB r ⟨k, m, d, ⟨a, b, c, t⟩, f, p⟩ n) := HS.out.trans (by rw [Bool.true_and])
  clear HS HX0 HA
  rcases HWH.out with ⟨rfl, rfl, rfl, rfl, rfl, rfl, rfl, m1, m2, d1, d2⟩ | ⟨rfl, rfl, rfl, rfl, rfl, _⟩ | ⟨rfl, rfl, rfl, rfl, rfl, rfl, rfl, hz, p1, p2⟩
  · have KK : ∀ W, Calls Tryz.prog 145 #[.agg #[.int .i64 0, .int .i64 m, .int .i64 d, .int .i64 0, .int .i64 0, .int .i64 0, .bool false, .string ⟨#[]⟩, .int .i64 0]] W fun e w' => e = .returned (.iface 227 (.agg #[.int .i64 m, .int .i64 d])) ∧ Below W.heap.size W w' := fun W => kindDay m d W
    obtain ⟨R, hR⟩ : ∃ R, R = (xm == m && xd == d) := ⟨_, rfl⟩
    have KM : ∀ W, Calls Tryz.prog 398 #[.agg #[.int .i64 m, .int .i64 d], .agg #[.int .i64 xc, .int .i64 xy, .int .i64 xs, .int .i64 xm, .int .i64 xd]] W fun e w' => e = .returned (.bool R) ∧ Below W.heap.size W w' := fun W => by rw [hR]; exact dayIsReading m d ⟨xc, xy, xs, xm, xd⟩ W
    have q1 := irD
    obtain rfl : ans = R := HQ.out.trans (by unfold whenIsB; rw [if_pos rfl, HX.out, hR])
    clear HQ hR HRD KA KPl HWH m1 m2 d1 d2
    go_wp2_with fail
    refine (KK _).mono ?_
    rintro e w1 ⟨rfl, hb⟩
    obtain ⟨x1, rfl⟩ := x0.next hb
    clear hb
    go_wp2_with fail
    refine (KM _).mono ?_
    rintro e w2 ⟨rfl, hb⟩
    obtain ⟨x2, rfl⟩ := x1.next hb
    clear hb
    go_wp2
    go_ret
    exact ⟨rfl, HBl.out x2⟩
  · have KK : ∀ W, Calls Tryz.prog 145 #[.agg #[.int .i64 1, .int .i64 0, .int .i64 0, .int .i64 a, .int .i64 b, .int .i64 c, .bool t, .string ⟨#[]⟩, .int .i64 0]] W fun e w' => e = .returned (.iface 229 (.agg #[.int .i64 a, .int .i64 b, .int .i64 c, .bool t])) ∧ Below W.heap.size W w' := fun W => kindRom a b c t W
    have q1 := irR
    have q2 := idR
    by_cases hp : 0 ≤ patAt r.pats n
    · obtain rfl : ans = false := HQ.out.trans (by unfold whenIsB; rw [if_neg (show ¬ (1 : Int) = 0 by omega), if_pos hp])
      obtain ⟨e0, e1, e2, e3, ok, hpl⟩ := plain_tuple xc ⟨xc, xy, xs, xm, xd⟩
      have KPx : ∀ W, Below w.heap.size w W → Calls Tryz.prog 124 #[.agg #[.int .i64 xc, .int .i64 xy, .int .i64 xs, .int .i64 xm, .int .i64 xd]] W fun e w' => e = .returned (.tuple #[.agg #[.int .i64 e0, .int .i64 e1, .int .i64 e2, .int .i64 e3], .bool ok]) ∧ Below W.heap.size W w' := fun W hb => by rw [← hpl]; exact KPl ⟨xc, xy, xs, xm, xd⟩ W hb
      generalize patAt r.pats n = pt at *
      clear HQ HRD KPl HWH hpl
      go_wp2_with fail
      refine (KK _).mono ?_
      rintro e w1 ⟨rfl, hb⟩
      obtain ⟨x1, rfl⟩ := x0.next hb
      clear hb
      go_wp2_with fail
      refine (KPx _ (HBl.out x1)).mono ?_
      rintro e w2 ⟨rfl, hb⟩
      obtain ⟨x2, rfl⟩ := x1.next hb
      clear hb
      obtain ⟨x3, hx3⟩ : ∃ x3 : Later WA, x2.w.alloc (.cells #[.int .i64 e0, .int .i64 e1, .int .i64 e2, .int .i64 e3] 88) = x3.w := ⟨⟨_, x2.below.alloc x2.below.size _⟩, rfl⟩
      have Z3 : Hid (Blk x3.w x2.w.heap.size #[.int .i64 e0, .int .i64 e1, .int .i64 e2, .int .i64 e3] 88) := by unfold Hid; rw [← hx3]; exact Blk.new _ _ _
      have HX3 := hideP hx3
      clear hx3
      go_upto_region 10 with fail
      rw [HX3.out]
      go_wp2_with fail
      refine (KA _ (HBl.out x3)).mono ?_
      rintro e w4 ⟨rfl, hb⟩
      have Z4 : Hid (Blk w4 x2.w.heap.size #[.int .i64 e0, .int .i64 e1, .int .i64 e2, .int .i64 e3] 88) := Z3.out.below hb Z3.out.lt
      obtain ⟨x4, rfl⟩ := x3.next hb
      clear hb HX3 Z3
      go_wp2
      go_ret
      exact ⟨rfl, HBl.out x4⟩
    obtain ⟨Y, M, D, he, hc, hY, hM, hD, hok, hday⟩ := HRD hp
    simp only at hc hY hM hD
    subst hY hM hD
    have KPx : ∀ W, Below w.heap.size w W → Calls Tryz.prog 124 #[.agg #[.int .i64 xc, .int .i64 xy, .int .i64 xs, .int .i64 xm, .int .i64 xd]] W fun e w' => e = .returned (.tuple #[.agg #[.int .i64 xc, .int .i64 xs, .int .i64 xm, .int .i64 xd], .bool true]) ∧ Below W.heap.size W w' := fun W hb => by rw [← plainR_yes (c := xc) (x := ⟨xc, xy, xs, xm, xd⟩) (by rw [hc]; exact hok)]; exact KPl ⟨xc, xy, xs, xm, xd⟩ W hb
    obtain ⟨R, hR⟩ : ∃ R, R = romEq (romanOf xc xs xm xd) ⟨a, b, c, t⟩ := ⟨_, rfl⟩
    have KM : ∀ W, Below w.heap.size w W → Calls Tryz.prog 401 #[.agg #[.int .i64 a, .int .i64 b, .int .i64 c, .bool t], .agg #[.int .i64 xc, .int .i64 xs, .int .i64 xm, .int .i64 xd]] W fun e w' => e = .returned (.bool R) ∧ Below W.heap.size W w' := fun W hb => by rw [hR]; exact romIsDate a b c t xc xs xm xd W (hT.later hb)
    obtain rfl : ans = R := HQ.out.trans (by unfold whenIsB; rw [if_neg (show ¬ (1 : Int) = 0 by omega), if_neg hp, if_pos rfl, he, ← hc, hR])
    have hpn : patAt r.pats n < 0 := by omega
    generalize patAt r.pats n = pt at *
    clear HQ HRD KPl HWH hR he hc hok hday hp
    go_wp2_with fail
    refine (KK _).mono ?_
    rintro e w1 ⟨rfl, hb⟩
    obtain ⟨x1, rfl⟩ := x0.next hb
    clear hb
    go_wp2_with fail
    refine (KPx _ (HBl.out x1)).mono ?_
    rintro e w2 ⟨rfl, hb⟩
    obtain ⟨x2, rfl⟩ := x1.next hb
    clear hb
    obtain ⟨x3, hx3⟩ : ∃ x3 : Later WA, x2.w.alloc (.cells #[.int .i64 xc, .int .i64 xs, .int .i64 xm, .int .i64 xd] 88) = x3.w := ⟨⟨_, x2.below.alloc x2.below.size _⟩, rfl⟩
    have Z3 : Hid (Blk x3.w x2.w.heap.size #[.int .i64 xc, .int .i64 xs, .int .i64 xm, .int .i64 xd] 88) := by unfold Hid; rw [← hx3]; exact Blk.new _ _ _
    have HX3 := hideP hx3
    clear hx3
    go_upto_region 10 with fail
    rw [HX3.out]
    go_wp2_with fail
    refine (KA _ (HBl.out x3)).mono ?_
    rintro e w4 ⟨rfl, hb⟩
    have Z4 : Hid (Blk w4 x2.w.heap.size #[.int .i64 xc, .int .i64 xs, .int .i64 xm, .int .i64 xd] 88) := Z3.out.below hb Z3.out.lt
    obtain ⟨x4, rfl⟩ := x3.next hb
    clear hb HX3 Z3
    have z0 : x4.w.cell? ⟨x2.w.heap.size, 0, none⟩ = some (.int .i64 xc) := Z4.out.cell 0 rfl
    have z1 : x4.w.cell? ⟨x2.w.heap.size, 1, none⟩ = some (.int .i64 xs) := Z4.out.cell 1 rfl
    have z2 : x4.w.cell? ⟨x2.w.heap.size, 2, none⟩ = some (.int .i64 xm) := Z4.out.cell 2 rfl
    have z3 : x4.w.cell? ⟨x2.w.heap.size, 3, none⟩ = some (.int .i64 xd) := Z4.out.cell 3 rfl
    go_wp2_with fail
    refine (KM _ (HBl.out x4)).mono ?_
    rintro e w5 ⟨rfl, hb⟩
    obtain ⟨x5, rfl⟩ := x4.next hb
    clear hb
    go_wp2
    go_ret
    exact ⟨rfl, HBl.out x5⟩
  · have KK : ∀ W, Calls Tryz.prog 145 #[.agg #[.int .i64 2, .int .i64 0, .int .i64 0, .int .i64 0, .int .i64 0, .int .i64 0, .bool false, .string f, .int .i64 p]] W fun e w' => e = .returned (.iface 232 (.agg #[.string (feaOf f).name, .bool (feaOf f).mv, .int .i64 (feaOf f).off, .int .i64 (feaOf f).m, .int .i64 (feaOf f).d, .int .i64 p])) ∧ Below W.heap.size W w' := fun W => kindFea f p W
    have q1 := irF
    have q2 := idF
    by_cases hp : 0 ≤ patAt r.pats n
    · obtain rfl : ans = false := HQ.out.trans (by unfold whenIsB; rw [if_neg (show ¬ (2 : Int) = 0 by omega), if_pos hp])
      obtain ⟨e0, e1, e2, e3, ok, hpl⟩ := plain_tuple xc ⟨xc, xy, xs, xm, xd⟩
      have KPx : ∀ W, Below w.heap.size w W → Calls Tryz.prog 124 #[.agg #[.int .i64 xc, .int .i64 xy, .int .i64 xs, .int .i64 xm, .int .i64 xd]] W fun e w' => e = .returned (.tuple #[.agg #[.int .i64 e0, .int .i64 e1, .int .i64 e2, .int .i64 e3], .bool ok]) ∧ Below W.heap.size W w' := fun W hb => by rw [← hpl]; exact KPl ⟨xc, xy, xs, xm, xd⟩ W hb
      generalize patAt r.pats n = pt at *
      clear HQ HRD KPl HWH hpl
      go_wp2_with fail
      refine (KK _).mono ?_
      rintro e w1 ⟨rfl, hb⟩
      obtain ⟨x1, rfl⟩ := x0.next hb
      clear hb
      go_wp2_with fail
      refine (KPx _ (HBl.out x1)).mono ?_
      rintro e w2 ⟨rfl, hb⟩
      obtain ⟨x2, rfl⟩ := x1.next hb
      clear hb
      obtain ⟨x3, hx3⟩ : ∃ x3 : Later WA, x2.w.alloc (.cells #[.int .i64 e0, .int .i64 e1, .int .i64 e2, .int .i64 e3] 88) = x3.w := ⟨⟨_, x2.below.alloc x2.below.size _⟩, rfl⟩
      have Z3 : Hid (Blk x3.w x2.w.heap.size #[.int .i64 e0, .int .i64 e1, .int .i64 e2, .int .i64 e3] 88) := by unfold Hid; rw [← hx3]; exact Blk.new _ _ _
      have HX3 := hideP hx3
      clear hx3
      go_upto_region 10 with fail
      rw [HX3.out]
      go_wp2_with fail
      refine (KA _ (HBl.out x3)).mono ?_
      rintro e w4 ⟨rfl, hb⟩
      have Z4 : Hid (Blk w4 x2.w.heap.size #[.int .i64 e0, .int .i64 e1, .int .i64 e2, .int .i64 e3] 88) := Z3.out.below hb Z3.out.lt
      obtain ⟨x4, rfl⟩ := x3.next hb
      clear hb HX3 Z3
      go_wp2
      go_ret
      exact ⟨rfl, HBl.out x4⟩
    obtain ⟨Y, M, D, he, hc, hY, hM, hD, hok, hday⟩ := HRD hp
    simp only at hc hY hM hD
    subst hY hM hD
    have KPx : ∀ W, Below w.heap.size w W → Calls Tryz.prog 124 #[.agg #[.int .i64 xc, .int .i64 xy, .int .i64 xs, .int .i64 xm, .int .i64 xd]] W fun e w' => e = .returned (.tuple #[.agg #[.int .i64 xc, .int .i64 xs, .int .i64 xm, .int .i64 xd], .bool true]) ∧ Below W.heap.size W w' := fun W hb => by rw [← plainR_yes (c := xc) (x := ⟨xc, xy, xs, xm, xd⟩) (by rw [hc]; exact hok)]; exact KPl ⟨xc, xy, xs, xm, xd⟩ W hb
    obtain ⟨R, hR⟩ : ∃ R, R = (feaDay xc xs (feaOf f).name (feaOf f).mv (feaOf f).off (feaOf f).m (feaOf f).d + p == dayOf xc xs xm xd) := ⟨_, rfl⟩
    have KM : ∀ W, Below w.heap.size w W → Calls Tryz.prog 404 #[.agg #[.string (feaOf f).name, .bool (feaOf f).mv, .int .i64 (feaOf f).off, .int .i64 (feaOf f).m, .int .i64 (feaOf f).d, .int .i64 p], .agg #[.int .i64 xc, .int .i64 xs, .int .i64 xm, .int .i64 xd]] W fun e w' => e = .returned (.bool R) ∧ Below W.heap.size W w' := fun W hb => by rw [hR]; exact feaIsDate _ _ _ _ _ p xc xs xm xd W (Nat.le_trans (feaOf_len f) (by decide)) (hT.later hb) (by have := feaDay_b xc xs (feaOf f).name (feaOf f).mv (feaOf f).off (feaOf f).m (feaOf f).d; omega) (by have := feaDay_b xc xs (feaOf f).name (feaOf f).mv (feaOf f).off (feaOf f).m (feaOf f).d; omega) p1 p2
    obtain rfl : ans = R := HQ.out.trans (by unfold whenIsB; rw [if_neg (show ¬ (2 : Int) = 0 by omega), if_neg hp, if_neg (show ¬ (2 : Int) = 1 by omega), he, ← hc, hR, show dayOf xc xs xm xd = n + (segN r n).off by rw [hc]; exact hday])
    have hpn : patAt r.pats n < 0 := by omega
    generalize patAt r.pats n = pt at *
    clear HQ HRD KPl HWH hR he hc hok hday hp
    go_wp2_with fail
    refine (KK _).mono ?_
    rintro e w1 ⟨rfl, hb⟩
    obtain ⟨x1, rfl⟩ := x0.next hb
    clear hb
    go_wp2_with fail
    refine (KPx _ (HBl.out x1)).mono ?_
    rintro e w2 ⟨rfl, hb⟩
    obtain ⟨x2, rfl⟩ := x1.next hb
    clear hb
    obtain ⟨x3, hx3⟩ : ∃ x3 : Later WA, x2.w.alloc (.cells #[.int .i64 xc, .int .i64 xs, .int .i64 xm, .int .i64 xd] 88) = x3.w := ⟨⟨_, x2.below.alloc x2.below.size _⟩, rfl⟩
    have Z3 : Hid (Blk x3.w x2.w.heap.size #[.int .i64 xc, .int .i64 xs, .int .i64 xm, .int .i64 xd] 88) := by unfold Hid; rw [← hx3]; exact Blk.new _ _ _
    have HX3 := hideP hx3
    clear hx3
    go_upto_region 10 with fail
    rw [HX3.out]
    go_wp2_with fail
    refine (KA _ (HBl.out x3)).mono ?_
    rintro e w4 ⟨rfl, hb⟩
    have Z4 : Hid (Blk w4 x2.w.heap.size #[.int .i64 xc, .int .i64 xs, .int .i64 xm, .int .i64 xd] 88) := Z3.out.below hb Z3.out.lt
    obtain ⟨x4, rfl⟩ := x3.next hb
    clear hb HX3 Z3
    have z0 : x4.w.cell? ⟨x2.w.heap.size, 0, none⟩ = some (.int .i64 xc) := Z4.out.cell 0 rfl
    have z1 : x4.w.cell? ⟨x2.w.heap.size, 1, none⟩ = some (.int .i64 xs) := Z4.out.cell 1 rfl
    have z2 : x4.w.cell? ⟨x2.w.heap.size, 2, none⟩ = some (.int .i64 xm) := Z4.out.cell 2 rfl
    have z3 : x4.w.cell? ⟨x2.w.heap.size, 3, none⟩ = some (.int .i64 xd) := Z4.out.cell 3 rfl
    go_wp2_with fail
    refine (KM _ (HBl.out x4)).mono ?_
    rintro e w5 ⟨rfl, hb⟩
    obtain ⟨x5, rfl⟩ := x4.next hb
    clear hb
    go_wp2
    go_ret
    exact ⟨rfl, HBl.out x5⟩
end Go.Proofs.YtjojgfdfbkmlkaaGreatDoor.ctr
namespace Go.Proofs.YtjojgfdfbkmlkaaGreatDoor.ctr
open Go.RowKit
noncomputable def meansB (r : Rgm) (s : Say) (n : Int) : Bool := (regimeB r && (decide (r.fr ≤ n) && decide (n ≤ r.to))) && (sayB s && saidB r s n)
set_option maxRecDepth 100000 in
set_option maxHeartbeats 8000000 in
theorem implMeans (v : Value) (r : Rgm) (s : Say) (n : Int) (q : Addr) (w : World) (h : GRow w v r) (ht : r.to ≤ 9223372036854775807) (hE : ErrT w) (hT : Tab w) (hS : Sent w q) : Calls Tryz.prog 30 #[v, sayV s, .int .i64 n] w fun e w' => e = .returned (.bool (meansB r s n)) ∧ Below w.heap.size w w' := by
  have hG := h
  obtain ⟨v1, v2, v3, rfl, _⟩ := h
  obtain ⟨⟨k, m, d, ⟨a, b, c, t⟩, f, p⟩, y, so, ca⟩ := s
  have KR : ∀ W, Below w.heap.size w W → Calls Tryz.prog 86 #[.agg #[.string r.name, .int .i64 r.fr, .int .i64 r.to, v1, v2, v3, .int .i64 r.rule], .int .i64 n] W fun e w' => e = .returned (readR r n) ∧ Below W.heap.size W w' := fun W hb => implReadingOf _ r n q W (hG.below hb) ht (hE.below hb) (hT.later hb) (hS.later hb)
  have KO : ∀ W, Below w.heap.size w W → Calls Tryz.prog 87 #[.agg #[.int .i64 k, .int .i64 m, .int .i64 d, .int .i64 a, .int .i64 b, .int .i64 c, .bool t, .string f, .int .i64 p, .int .i64 y, .int .i64 so, .int .i64 ca]] W fun e w' => e = .returned (.bool (sayB ⟨⟨k, m, d, ⟨a, b, c, t⟩, f, p⟩, y, so, ca⟩)) ∧ Below W.heap.size W w' := fun W hb => implSayingOk ⟨⟨k, m, d, ⟨a, b, c, t⟩, f, p⟩, y, so, ca⟩ W (hT.later hb)
  have KI : regimeB r = true → r.fr ≤ n → n ≤ r.to → sayB ⟨⟨k, m, d, ⟨a, b, c, t⟩, f, p⟩, y, so, ca⟩ = true → ∀ W, Below w.heap.size w W → Calls Tryz.prog 88 #[.agg #[.string r.name, .int .i64 r.fr, .int .i64 r.to, v1, v2, v3, .int .i64 r.rule], .agg #[.int .i64 k, .int .i64 m, .int .i64 d, .int .i64 a, .int .i64 b, .int .i64 c, .bool t, .string f, .int .i64 p, .int .i64 y, .int .i64 so, .int .i64 ca], .int .i64 n, rdgV (rdgOn r n)] W fun e w' => e = .returned (.bool (saidB r ⟨⟨k, m, d, ⟨a, b, c, t⟩, f, p⟩, y, so, ca⟩ n)) ∧ Below W.heap.size W w' := fun a1 a2 a3 a4 W hb => implIsSaid _ r ⟨⟨k, m, d, ⟨a, b, c, t⟩, f, p⟩, y, so, ca⟩ n W (hG.below hb) a1 a2 a3 a4 (hT.later hb)
  obtain ⟨ans, hans⟩ : ∃ ans, ans = meansB r ⟨⟨k, m, d, ⟨a, b, c, t⟩, f, p⟩, y, so, ca⟩ n := ⟨_, rfl⟩
  rw [← hans]
  have HM : Hid (ans = ((regimeB r && (decide (r.fr ≤ n) && decide (n ≤ r.to))) && (sayB ⟨⟨k, m, d, ⟨a, b, c, t⟩, f, p⟩, y, so, ca⟩ && saidB r ⟨⟨k, m, d, ⟨a, b, c, t⟩, f, p⟩, y, so, ca⟩ n))) := hans
  obtain ⟨W0, hW0, hD, hR, hBl⟩ := two_box w #[.string r.name, .int .i64 r.fr, .int .i64 r.to, v1, v2, v3, .int .i64 r.rule] #[.int .i64 k, .int .i64 m, .int .i64 d, .int .i64 a, .int .i64 b, .int .i64 c, .bool t, .string f, .int .i64 p, .int .i64 y, .int .i64 so, .int .i64 ca] 36 59
  have cr0 : ∀ x : Later W0, x.w.cell? ⟨w.heap.size, 0, none⟩ = some (.string r.name) := fun x => (hD x).cell 0 rfl
  have cr1 : ∀ x : Later W0, x.w.cell? ⟨w.heap.size, 1, none⟩ = some (.int .i64 r.fr) := fun x => (hD x).cell 1 rfl
  have cr2 : ∀ x : Later W0, x.w.cell? ⟨w.heap.size, 2, none⟩ = some (.int .i64 r.to) := fun x => (hD x).cell 2 rfl
  have cr3 : ∀ x : Later W0, x.w.cell? ⟨w.heap.size, 3, none⟩ = some (v1) := fun x => (hD x).cell 3 rfl
  have cr4 : ∀ x : Later W0, x.w.cell? ⟨w.heap.size, 4, none⟩ = some (v2) := fun x => (hD x).cell 4 rfl
  have cr5 : ∀ x : Later W0, x.w.cell? ⟨w.heap.size, 5, none⟩ = some (v3) := fun x => (hD x).cell 5 rfl
  have cr6 : ∀ x : Later W0, x.w.cell? ⟨w.heap.size, 6, none⟩ = some (.int .i64 r.rule) := fun x => (hD x).cell 6 rfl
  have cs0 : ∀ x : Later W0, x.w.cell? ⟨w.heap.size + 1, 0, none⟩ = some (.int .i64 k) := fun x => (hR x).cell 0 rfl
  have cs1 : ∀ x : Later W0, x.w.cell? ⟨w.heap.size + 1, 1, none⟩ = some (.int .i64 m) := fun x => (hR x).cell 1 rfl
  have cs2 : ∀ x : Later W0, x.w.cell? ⟨w.heap.size + 1, 2, none⟩ = some (.int .i64 d) := fun x => (hR x).cell 2 rfl
  have cs3 : ∀ x : Later W0, x.w.cell? ⟨w.heap.size + 1, 3, none⟩ = some (.int .i64 a) := fun x => (hR x).cell 3 rfl
  have cs4 : ∀ x : Later W0, x.w.cell? ⟨w.heap.size + 1, 4, none⟩ = some (.int .i64 b) := fun x => (hR x).cell 4 rfl
  have cs5 : ∀ x : Later W0, x.w.cell? ⟨w.heap.size + 1, 5, none⟩ = some (.int .i64 c) := fun x => (hR x).cell 5 rfl
  have cs6 : ∀ x : Later W0, x.w.cell? ⟨w.heap.size + 1, 6, none⟩ = some (.bool t) := fun x => (hR x).cell 6 rfl
  have cs7 : ∀ x : Later W0, x.w.cell? ⟨w.heap.size + 1, 7, none⟩ = some (.string f) := fun x => (hR x).cell 7 rfl
  have cs8 : ∀ x : Later W0, x.w.cell? ⟨w.heap.size + 1, 8, none⟩ = some (.int .i64 p) := fun x => (hR x).cell 8 rfl
  have cs9 : ∀ x : Later W0, x.w.cell? ⟨w.heap.size + 1, 9, none⟩ = some (.int .i64 y) := fun x => (hR x).cell 9 rfl
  have cs10 : ∀ x : Later W0, x.w.cell? ⟨w.heap.size + 1, 10, none⟩ = some (.int .i64 so) := fun x => (hR x).cell 10 rfl
  have cs11 : ∀ x : Later W0, x.w.cell? ⟨w.heap.size + 1, 11, none⟩ = some (.int .i64 ca) := fun x => (hR x).cell 11 rfl
  have HW0 := hideP hW0
  have HBl := hideP hBl
  clear hW0 hD hR hBl hans hE hT hS hG
  by_cases hin : regimeB r = true ∧ r.fr ≤ n ∧ n ≤ r.to
  case neg =>
    obtain rfl : ans = false := HM.out.trans (by
      have : (regimeB r && (decide (r.fr ≤ n) && decide (n ≤ r.to))) = false := by
        cases h0 : (regimeB r && (decide (r.fr ≤ n) && decide (n ≤ r.to)))
        · rfl
        · simp only [Bool.and_eq_true, decide_eq_true_eq] at h0
          exact absurd h0 hin
      rw [this, Bool.false_and])
    rw [readR_no hin] at KR
    clear HM KI KO hin
    go_enter Tryz.func30, Tryz.ntmps30
    go_wp2_with fail
    rw [← HW0.out]
    refine (KR _ (HBl.out ⟨W0, Below.refl _ _⟩)).mono ?_
    rintro e w1 ⟨rfl, hb⟩
    obtain ⟨x1, rfl⟩ := Later.of hb
    clear hb
    obtain ⟨x2, hx2⟩ : ∃ x2 : Later W0, x1.w.alloc (.cells #[.int .i64 0, .int .i64 0, .int .i64 0, .int .i64 0, .int .i64 0] 38) = x2.w := ⟨⟨_, x1.below.alloc x1.below.size _⟩, rfl⟩
    have Z2 : Hid (Blk x2.w x1.w.heap.size #[.int .i64 0, .int .i64 0, .int .i64 0, .int .i64 0, .int .i64 0] 38) := by unfold Hid; rw [← hx2]; exact Blk.new _ _ _
    have HX2 := hideP hx2
    clear hx2
    go_upto_region 2 with fail
    rw [HX2.out]
    clear HX2
    go_wp2
    go_ret
    exact ⟨rfl, HBl.out x2⟩
  rw [readR_yes hin.1 hin.2.1 hin.2.2] at KR
  rw [hin.1, decide_eq_true hin.2.1, decide_eq_true hin.2.2, Bool.true_and, Bool.true_and, Bool.true_and] at HM
  have KJ0 := KI hin.1 hin.2.1 hin.2.2
  clear KI hin
  generalize saidB r ⟨⟨k, m, d, ⟨a, b, c, t⟩, f, p⟩, y, so, ca⟩ n = Q at *
  generalize rdgOn r n = x at *
  obtain ⟨xc, xy, xs, xm, xd⟩ := x
  generalize sayB ⟨⟨k, m, d, ⟨a, b, c, t⟩, f, p⟩, y, so, ca⟩ = O at *
  cases O
  · obtain rfl : ans = false := HM.out.trans (by rw [Bool.false_and])
    clear HM KJ0
    go_enter Tryz.func30, Tryz.ntmps30
    go_wp2_with fail
    rw [← HW0.out]
    refine (KR _ (HBl.out ⟨W0, Below.refl _ _⟩)).mono ?_
    rintro e w1 ⟨rfl, hb⟩
    obtain ⟨x1, rfl⟩ := Later.of hb
    clear hb
    obtain ⟨x2, hx2⟩ : ∃ x2 : Later W0, x1.w.alloc (.cells #[.int .i64 xc, .int .i64 xy, .int .i64 xs, .int .i64 xm, .int .i64 xd] 38) = x2.w := ⟨⟨_, x1.below.alloc x1.below.size _⟩, rfl⟩
    have Z2 : Hid (Blk x2.w x1.w.heap.size #[.int .i64 xc, .int .i64 xy, .int .i64 xs, .int .i64 xm, .int .i64 xd] 38) := by unfold Hid; rw [← hx2]; exact Blk.new _ _ _
    have HX2 := hideP hx2
    clear hx2
    go_upto_region 2 with fail
    rw [HX2.out]
    clear HX2
    go_wp2_with fail
    refine (KO _ (HBl.out x2)).mono ?_
    rintro e w3 ⟨rfl, hb⟩
    have Z3 : Hid (Blk w3 x1.w.heap.size #[.int .i64 xc, .int .i64 xy, .int .i64 xs, .int .i64 xm, .int .i64 xd] 38) := Z2.out.below hb Z2.out.lt
    obtain ⟨x3, rfl⟩ := x2.next hb
    clear hb
    go_wp2
    go_ret
    exact ⟨rfl, HBl.out x3⟩
  obtain rfl : ans = Q := HM.out.trans (by rw [Bool.true_and])
  have KJ : ∀ W, Below w.heap.size w W → Calls Tryz.prog 88 #[.agg #[.string r.name, .int .i64 r.fr, .int .i64 r.to, v1, v2, v3, .int .i64 r.rule], .agg #[.int .i64 k, .int .i64 m, .int .i64 d, .int .i64 a, .int .i64 b, .int .i64 c, .bool t, .string f, .int .i64 p, .int .i64 y, .int .i64 so, .int .i64 ca], .int .i64 n, .agg #[.int .i64 xc, .int .i64 xy, .int .i64 xs, .int .i64 xm, .int .i64 xd]] W fun e w' => e = .returned (.bool ans) ∧ Below W.heap.size W w' := KJ0 rfl
  clear HM KJ0
  go_enter Tryz.func30, Tryz.ntmps30
  go_wp2_with fail
  rw [← HW0.out]
  refine (KR _ (HBl.out ⟨W0, Below.refl _ _⟩)).mono ?_
  rintro e w1 ⟨rfl, hb⟩
  obtain ⟨x1, rfl⟩ := Later.of hb
  clear hb
  obtain ⟨x2, hx2⟩ : ∃ x2 : Later W0, x1.w.alloc (.cells #[.int .i64 xc, .int .i64 xy, .int .i64 xs, .int .i64 xm, .int .i64 xd] 38) = x2.w := ⟨⟨_, x1.below.alloc x1.below.size _⟩, rfl⟩
  have Z2 : Hid (Blk x2.w x1.w.heap.size #[.int .i64 xc, .int .i64 xy, .int .i64 xs, .int .i64 xm, .int .i64 xd] 38) := by unfold Hid; rw [← hx2]; exact Blk.new _ _ _
  have HX2 := hideP hx2
  clear hx2
  go_upto_region 2 with fail
  rw [HX2.out]
  clear HX2
  go_wp2_with fail
  refine (KO _ (HBl.out x2)).mono ?_
  rintro e w3 ⟨rfl, hb⟩
  have Z3 : Hid (Blk w3 x1.w.heap.size #[.int .i64 xc, .int .i64 xy, .int .i64 xs, .int .i64 xm, .int .i64 xd] 38) := Z2.out.below hb Z2.out.lt
  obtain ⟨x3, rfl⟩ := x2.next hb
  clear hb
  have z0 : x3.w.cell? ⟨x1.w.heap.size, 0, none⟩ = some (.int .i64 xc) := Z3.out.cell 0 rfl
  have z1 : x3.w.cell? ⟨x1.w.heap.size, 1, none⟩ = some (.int .i64 xy) := Z3.out.cell 1 rfl
  have z2 : x3.w.cell? ⟨x1.w.heap.size, 2, none⟩ = some (.int .i64 xs) := Z3.out.cell 2 rfl
  have z3 : x3.w.cell? ⟨x1.w.heap.size, 3, none⟩ = some (.int .i64 xm) := Z3.out.cell 3 rfl
  have z4 : x3.w.cell? ⟨x1.w.heap.size, 4, none⟩ = some (.int .i64 xd) := Z3.out.cell 4 rfl
  go_wp2_with fail
  refine (KJ _ (HBl.out x3)).mono ?_
  rintro e w4 ⟨rfl, hb⟩
  obtain ⟨x4, rfl⟩ := x3.next hb
  clear hb
  go_wp2
  go_ret
  exact ⟨rfl, HBl.out x4⟩
end Go.Proofs.YtjojgfdfbkmlkaaGreatDoor.ctr
namespace Go.Proofs.YtjojgfdfbkmlkaaGreatDoor.ctr
open Go.RowKit
theorem seg_out {r : Rgm} {n : Int} (hr : regimeB r = true) (h : ¬ (r.fr ≤ n ∧ n ≤ r.to)) : segAt r.segs n = -1 := by
  rcases segAt_cases r.segs n with ⟨k, _⟩ | ⟨j, hj, k, k1, k2⟩
  · exact k
  · have := right_seg hr hj
    omega
noncomputable def meant1 (r : Rgm) (s : Say) (n : Int) : Bool := (decide (r.fr ≤ n) && decide (n ≤ r.to)) && saidB r s n
set_option maxRecDepth 100000 in
set_option maxHeartbeats 8000000 in
theorem specMeans1 (v : Value) (r : Rgm) (s : Say) (n : Int) (w : World) (h : GRow w v r) (hr : regimeB r = true) (hs : sayB s = true) : Calls Tryz.prog 84 #[v, sayV s, .int .i64 n] w fun e w' => e = .returned (.bool (meant1 r s n)) ∧ Below w.heap.size w w' := by
  have hG := h
  obtain ⟨v1, v2, v3, rfl, _⟩ := h
  obtain ⟨⟨k, m, d, ⟨a, b, c, t⟩, f, p⟩, y, so, ca⟩ := s
  have hw : whnB ⟨k, m, d, ⟨a, b, c, t⟩, f, p⟩ = true := by unfold sayB at hs; simp only [Bool.and_eq_true] at hs; exact hs.1
  obtain ⟨W0, hW0, hD, hR, hBl⟩ := two_box w #[.string r.name, .int .i64 r.fr, .int .i64 r.to, v1, v2, v3, .int .i64 r.rule] #[.int .i64 k, .int .i64 m, .int .i64 d, .int .i64 a, .int .i64 b, .int .i64 c, .bool t, .string f, .int .i64 p, .int .i64 y, .int .i64 so, .int .i64 ca] 36 59
  have cr0 : ∀ x : Later W0, x.w.cell? ⟨w.heap.size, 0, none⟩ = some (.string r.name) := fun x => (hD x).cell 0 rfl
  have cr1 : ∀ x : Later W0, x.w.cell? ⟨w.heap.size, 1, none⟩ = some (.int .i64 r.fr) := fun x => (hD x).cell 1 rfl
  have cr2 : ∀ x : Later W0, x.w.cell? ⟨w.heap.size, 2, none⟩ = some (.int .i64 r.to) := fun x => (hD x).cell 2 rfl
  have cr3 : ∀ x : Later W0, x.w.cell? ⟨w.heap.size, 3, none⟩ = some (v1) := fun x => (hD x).cell 3 rfl
  have cr4 : ∀ x : Later W0, x.w.cell? ⟨w.heap.size, 4, none⟩ = some (v2) := fun x => (hD x).cell 4 rfl
  have cr5 : ∀ x : Later W0, x.w.cell? ⟨w.heap.size, 5, none⟩ = some (v3) := fun x => (hD x).cell 5 rfl
  have cr6 : ∀ x : Later W0, x.w.cell? ⟨w.heap.size, 6, none⟩ = some (.int .i64 r.rule) := fun x => (hD x).cell 6 rfl
  have cs0 : ∀ x : Later W0, x.w.cell? ⟨w.heap.size + 1, 0, none⟩ = some (.int .i64 k) := fun x => (hR x).cell 0 rfl
  have cs1 : ∀ x : Later W0, x.w.cell? ⟨w.heap.size + 1, 1, none⟩ = some (.int .i64 m) := fun x => (hR x).cell 1 rfl
  have cs2 : ∀ x : Later W0, x.w.cell? ⟨w.heap.size + 1, 2, none⟩ = some (.int .i64 d) := fun x => (hR x).cell 2 rfl
  have cs3 : ∀ x : Later W0, x.w.cell? ⟨w.heap.size + 1, 3, none⟩ = some (.int .i64 a) := fun x => (hR x).cell 3 rfl
  have cs4 : ∀ x : Later W0, x.w.cell? ⟨w.heap.size + 1, 4, none⟩ = some (.int .i64 b) := fun x => (hR x).cell 4 rfl
  have cs5 : ∀ x : Later W0, x.w.cell? ⟨w.heap.size + 1, 5, none⟩ = some (.int .i64 c) := fun x => (hR x).cell 5 rfl
  have cs6 : ∀ x : Later W0, x.w.cell? ⟨w.heap.size + 1, 6, none⟩ = some (.bool t) := fun x => (hR x).cell 6 rfl
  have cs7 : ∀ x : Later W0, x.w.cell? ⟨w.heap.size + 1, 7, none⟩ = some (.string f) := fun x => (hR x).cell 7 rfl
  have cs8 : ∀ x : Later W0, x.w.cell? ⟨w.heap.size + 1, 8, none⟩ = some (.int .i64 p) := fun x => (hR x).cell 8 rfl
  have cs9 : ∀ x : Later W0, x.w.cell? ⟨w.heap.size + 1, 9, none⟩ = some (.int .i64 y) := fun x => (hR x).cell 9 rfl
  have cs10 : ∀ x : Later W0, x.w.cell? ⟨w.heap.size + 1, 10, none⟩ = some (.int .i64 so) := fun x => (hR x).cell 10 rfl
  have cs11 : ∀ x : Later W0, x.w.cell? ⟨w.heap.size + 1, 11, none⟩ = some (.int .i64 ca) := fun x => (hR x).cell 11 rfl
  have HW0 := hideP hW0
  have HBl := hideP hBl
  obtain ⟨ans, hans⟩ : ∃ ans, ans = meant1 r ⟨⟨k, m, d, ⟨a, b, c, t⟩, f, p⟩, y, so, ca⟩ n := ⟨_, rfl⟩
  rw [← hans]
  by_cases hin : r.fr ≤ n ∧ n ≤ r.to
  case neg =>
    have KR : ∀ W, Below w.heap.size w W → Calls Tryz.prog 59 #[.agg #[.string r.name, .int .i64 r.fr, .int .i64 r.to, v1, v2, v3, .int .i64 r.rule], .int .i64 n] W fun e w' => e = .returned (.tuple #[.agg #[.int .i64 0, .int .i64 0, .int .i64 0, .int .i64 0, .int .i64 0], .bool false]) ∧ Below W.heap.size W w' := fun W hb => specReadNo _ r n W (hG.below hb) (seg_out hr hin)
    obtain rfl : ans = false := hans.trans (by
      unfold meant1
      have : (decide (r.fr ≤ n) && decide (n ≤ r.to)) = false := by
        cases h0 : (decide (r.fr ≤ n) && decide (n ≤ r.to))
        · rfl
        · simp only [Bool.and_eq_true, decide_eq_true_eq] at h0
          exact absurd h0 hin
      rw [this, Bool.false_and])
    clear hW0 hD hR hBl hans hG hr hw hs hin
    go_enter Tryz.func84, Tryz.ntmps84
    go_wp2_with fail
    rw [← HW0.out]
    refine (KR _ (HBl.out ⟨W0, Below.refl _ _⟩)).mono ?_
    rintro e w1 ⟨rfl, hb⟩
    obtain ⟨x1, rfl⟩ := Later.of hb
    clear hb
    obtain ⟨x2, hx2⟩ : ∃ x2 : Later W0, x1.w.alloc (.cells #[.int .i64 0, .int .i64 0, .int .i64 0, .int .i64 0, .int .i64 0] 38) = x2.w := ⟨⟨_, x1.below.alloc x1.below.size _⟩, rfl⟩
    have HX2 := hideP hx2
    clear hx2
    go_upto_region 2 with fail
    rw [HX2.out]
    clear HX2
    go_wp2
    go_ret
    exact ⟨rfl, HBl.out x2⟩
  have KR : ∀ W, Below w.heap.size w W → Calls Tryz.prog 59 #[.agg #[.string r.name, .int .i64 r.fr, .int .i64 r.to, v1, v2, v3, .int .i64 r.rule], .int .i64 n] W fun e w' => e = .returned (.tuple #[rdgV (rdgOn r n), .bool true]) ∧ Below W.heap.size W w' := fun W hb => specRead _ r n W (hG.below hb) hr hin.1 hin.2
  have KI : ∀ W, Below w.heap.size w W → Calls Tryz.prog 140 #[.agg #[.string r.name, .int .i64 r.fr, .int .i64 r.to, v1, v2, v3, .int .i64 r.rule], .agg #[.int .i64 k, .int .i64 m, .int .i64 d, .int .i64 a, .int .i64 b, .int .i64 c, .bool t, .string f, .int .i64 p], rdgV (rdgOn r n), .int .i64 n] W fun e w' => e = .returned (.bool (whenIsB r ⟨k, m, d, ⟨a, b, c, t⟩, f, p⟩ n)) ∧ Below W.heap.size W w' := fun W hb => specWhenIs _ r ⟨k, m, d, ⟨a, b, c, t⟩, f, p⟩ n W (hG.below hb) hr hin.1 hin.2 hw
  have HA : Hid (ans = (headB (rdgOn r n) ⟨⟨k, m, d, ⟨a, b, c, t⟩, f, p⟩, y, so, ca⟩ && whenIsB r ⟨k, m, d, ⟨a, b, c, t⟩, f, p⟩ n)) := hans.trans (by unfold meant1 saidB; rw [decide_eq_true hin.1, decide_eq_true hin.2]; rfl)
  clear hans hin hr hw hs hG hW0 hD hR hBl
  generalize whenIsB r ⟨k, m, d, ⟨a, b, c, t⟩, f, p⟩ n = Q at *
  generalize rdgOn r n = x at *
  obtain ⟨xc, xy, xs, xm, xd⟩ := x
  have HB : Hid (ans = ((xy == y && ((so == -1 || xs == so) && (ca == -1 || xc == ca))) && Q)) := HA.out
  clear HA
  cases e1 : (xy == y)
  case false =>
    obtain rfl : ans = false := HB.out.trans (by rw [e1]; rfl)
    clear HB
    go_enter Tryz.func84, Tryz.ntmps84
    go_wp2_with fail
    rw [← HW0.out]
    refine (KR _ (HBl.out ⟨W0, Below.refl _ _⟩)).mono ?_
    rintro e w1 ⟨rfl, hb⟩
    obtain ⟨x1, rfl⟩ := Later.of hb
    clear hb
    obtain ⟨x2, hx2⟩ : ∃ x2 : Later W0, x1.w.alloc (.cells #[.int .i64 xc, .int .i64 xy, .int .i64 xs, .int .i64 xm, .int .i64 xd] 38) = x2.w := ⟨⟨_, x1.below.alloc x1.below.size _⟩, rfl⟩
    have Z2 : Hid (Blk x2.w x1.w.heap.size #[.int .i64 xc, .int .i64 xy, .int .i64 xs, .int .i64 xm, .int .i64 xd] 38) := by unfold Hid; rw [← hx2]; exact Blk.new _ _ _
    have HX2 := hideP hx2
    clear hx2
    have z0 : x2.w.cell? ⟨x1.w.heap.size, 0, none⟩ = some (.int .i64 xc) := Z2.out.cell 0 rfl
    have z1 : x2.w.cell? ⟨x1.w.heap.size, 1, none⟩ = some (.int .i64 xy) := Z2.out.cell 1 rfl
    have z2 : x2.w.cell? ⟨x1.w.heap.size, 2, none⟩ = some (.int .i64 xs) := Z2.out.cell 2 rfl
    have z3 : x2.w.cell? ⟨x1.w.heap.size, 3, none⟩ = some (.int .i64 xm) := Z2.out.cell 3 rfl
    have z4 : x2.w.cell? ⟨x1.w.heap.size, 4, none⟩ = some (.int .i64 xd) := Z2.out.cell 4 rfl
    go_upto_region 2 with fail
    rw [HX2.out]
    clear HX2 KR
    go_wp2
    go_ret
    exact ⟨rfl, HBl.out x2⟩
  cases e2 : (so == -1)
  case false =>
    cases e3 : (xs == so)
    case false =>
      obtain rfl : ans = false := HB.out.trans (by rw [e1, e2, e3]; rfl)
      clear HB
      go_enter Tryz.func84, Tryz.ntmps84
      go_wp2_with fail
      rw [← HW0.out]
      refine (KR _ (HBl.out ⟨W0, Below.refl _ _⟩)).mono ?_
      rintro e w1 ⟨rfl, hb⟩
      obtain ⟨x1, rfl⟩ := Later.of hb
      clear hb
      obtain ⟨x2, hx2⟩ : ∃ x2 : Later W0, x1.w.alloc (.cells #[.int .i64 xc, .int .i64 xy, .int .i64 xs, .int .i64 xm, .int .i64 xd] 38) = x2.w := ⟨⟨_, x1.below.alloc x1.below.size _⟩, rfl⟩
      have Z2 : Hid (Blk x2.w x1.w.heap.size #[.int .i64 xc, .int .i64 xy, .int .i64 xs, .int .i64 xm, .int .i64 xd] 38) := by unfold Hid; rw [← hx2]; exact Blk.new _ _ _
      have HX2 := hideP hx2
      clear hx2
      have z0 : x2.w.cell? ⟨x1.w.heap.size, 0, none⟩ = some (.int .i64 xc) := Z2.out.cell 0 rfl
      have z1 : x2.w.cell? ⟨x1.w.heap.size, 1, none⟩ = some (.int .i64 xy) := Z2.out.cell 1 rfl
      have z2 : x2.w.cell? ⟨x1.w.heap.size, 2, none⟩ = some (.int .i64 xs) := Z2.out.cell 2 rfl
      have z3 : x2.w.cell? ⟨x1.w.heap.size, 3, none⟩ = some (.int .i64 xm) := Z2.out.cell 3 rfl
      have z4 : x2.w.cell? ⟨x1.w.heap.size, 4, none⟩ = some (.int .i64 xd) := Z2.out.cell 4 rfl
      go_upto_region 2 with fail
      rw [HX2.out]
      clear HX2 KR
      go_wp2
      go_ret
      exact ⟨rfl, HBl.out x2⟩
    cases e4 : (ca == -1)
    case false =>
      cases e5 : (xc == ca)
      case false =>
        obtain rfl : ans = false := HB.out.trans (by rw [e1, e2, e3, e4, e5]; rfl)
        clear HB
        go_enter Tryz.func84, Tryz.ntmps84
        go_wp2_with fail
        rw [← HW0.out]
        refine (KR _ (HBl.out ⟨W0, Below.refl _ _⟩)).mono ?_
        rintro e w1 ⟨rfl, hb⟩
        obtain ⟨x1, rfl⟩ := Later.of hb
        clear hb
        obtain ⟨x2, hx2⟩ : ∃ x2 : Later W0, x1.w.alloc (.cells #[.int .i64 xc, .int .i64 xy, .int .i64 xs, .int .i64 xm, .int .i64 xd] 38) = x2.w := ⟨⟨_, x1.below.alloc x1.below.size _⟩, rfl⟩
        have Z2 : Hid (Blk x2.w x1.w.heap.size #[.int .i64 xc, .int .i64 xy, .int .i64 xs, .int .i64 xm, .int .i64 xd] 38) := by unfold Hid; rw [← hx2]; exact Blk.new _ _ _
        have HX2 := hideP hx2
        clear hx2
        have z0 : x2.w.cell? ⟨x1.w.heap.size, 0, none⟩ = some (.int .i64 xc) := Z2.out.cell 0 rfl
        have z1 : x2.w.cell? ⟨x1.w.heap.size, 1, none⟩ = some (.int .i64 xy) := Z2.out.cell 1 rfl
        have z2 : x2.w.cell? ⟨x1.w.heap.size, 2, none⟩ = some (.int .i64 xs) := Z2.out.cell 2 rfl
        have z3 : x2.w.cell? ⟨x1.w.heap.size, 3, none⟩ = some (.int .i64 xm) := Z2.out.cell 3 rfl
        have z4 : x2.w.cell? ⟨x1.w.heap.size, 4, none⟩ = some (.int .i64 xd) := Z2.out.cell 4 rfl
        go_upto_region 2 with fail
        rw [HX2.out]
        clear HX2 KR
        go_wp2
        go_ret
        exact ⟨rfl, HBl.out x2⟩
      obtain rfl : ans = Q := HB.out.trans (by rw [e1, e2, e3, e4, e5]; rfl)
      clear HB
      go_enter Tryz.func84, Tryz.ntmps84
      go_wp2_with fail
      rw [← HW0.out]
      refine (KR _ (HBl.out ⟨W0, Below.refl _ _⟩)).mono ?_
      rintro e w1 ⟨rfl, hb⟩
      obtain ⟨x1, rfl⟩ := Later.of hb
      clear hb
      obtain ⟨x2, hx2⟩ : ∃ x2 : Later W0, x1.w.alloc (.cells #[.int .i64 xc, .int .i64 xy, .int .i64 xs, .int .i64 xm, .int .i64 xd] 38) = x2.w := ⟨⟨_, x1.below.alloc x1.below.size _⟩, rfl⟩
      have Z2 : Hid (Blk x2.w x1.w.heap.size #[.int .i64 xc, .int .i64 xy, .int .i64 xs, .int .i64 xm, .int .i64 xd] 38) := by unfold Hid; rw [← hx2]; exact Blk.new _ _ _
      have HX2 := hideP hx2
      clear hx2
      have z0 : x2.w.cell? ⟨x1.w.heap.size, 0, none⟩ = some (.int .i64 xc) := Z2.out.cell 0 rfl
      have z1 : x2.w.cell? ⟨x1.w.heap.size, 1, none⟩ = some (.int .i64 xy) := Z2.out.cell 1 rfl
      have z2 : x2.w.cell? ⟨x1.w.heap.size, 2, none⟩ = some (.int .i64 xs) := Z2.out.cell 2 rfl
      have z3 : x2.w.cell? ⟨x1.w.heap.size, 3, none⟩ = some (.int .i64 xm) := Z2.out.cell 3 rfl
      have z4 : x2.w.cell? ⟨x1.w.heap.size, 4, none⟩ = some (.int .i64 xd) := Z2.out.cell 4 rfl
      go_upto_region 2 with fail
      rw [HX2.out]
      clear HX2 KR
      go_wp2_with fail
      refine (KI _ (HBl.out x2)).mono ?_
      rintro e w3 ⟨rfl, hb⟩
      obtain ⟨x3, rfl⟩ := x2.next hb
      clear hb
      go_wp2
      go_ret
      exact ⟨rfl, HBl.out x3⟩
    obtain rfl : ans = Q := HB.out.trans (by rw [e1, e2, e3, e4]; rfl)
    clear HB
    go_enter Tryz.func84, Tryz.ntmps84
    go_wp2_with fail
    rw [← HW0.out]
    refine (KR _ (HBl.out ⟨W0, Below.refl _ _⟩)).mono ?_
    rintro e w1 ⟨rfl, hb⟩
    obtain ⟨x1, rfl⟩ := Later.of hb
    clear hb
    obtain ⟨x2, hx2⟩ : ∃ x2 : Later W0, x1.w.alloc (.cells #[.int .i64 xc, .int .i64 xy, .int .i64 xs, .int .i64 xm, .int .i64 xd] 38) = x2.w := ⟨⟨_, x1.below.alloc x1.below.size _⟩, rfl⟩
    have Z2 : Hid (Blk x2.w x1.w.heap.size #[.int .i64 xc, .int .i64 xy, .int .i64 xs, .int .i64 xm, .int .i64 xd] 38) := by unfold Hid; rw [← hx2]; exact Blk.new _ _ _
    have HX2 := hideP hx2
    clear hx2
    have z0 : x2.w.cell? ⟨x1.w.heap.size, 0, none⟩ = some (.int .i64 xc) := Z2.out.cell 0 rfl
    have z1 : x2.w.cell? ⟨x1.w.heap.size, 1, none⟩ = some (.int .i64 xy) := Z2.out.cell 1 rfl
    have z2 : x2.w.cell? ⟨x1.w.heap.size, 2, none⟩ = some (.int .i64 xs) := Z2.out.cell 2 rfl
    have z3 : x2.w.cell? ⟨x1.w.heap.size, 3, none⟩ = some (.int .i64 xm) := Z2.out.cell 3 rfl
    have z4 : x2.w.cell? ⟨x1.w.heap.size, 4, none⟩ = some (.int .i64 xd) := Z2.out.cell 4 rfl
    go_upto_region 2 with fail
    rw [HX2.out]
    clear HX2 KR
    go_wp2_with fail
    refine (KI _ (HBl.out x2)).mono ?_
    rintro e w3 ⟨rfl, hb⟩
    obtain ⟨x3, rfl⟩ := x2.next hb
    clear hb
    go_wp2
    go_ret
    exact ⟨rfl, HBl.out x3⟩
  cases e4 : (ca == -1)
  case false =>
    cases e5 : (xc == ca)
    case false =>
      obtain rfl : ans = false := HB.out.trans (by rw [e1, e2, e4, e5]; rfl)
      clear HB
      go_enter Tryz.func84, Tryz.ntmps84
      go_wp2_with fail
      rw [← HW0.out]
      refine (KR _ (HBl.out ⟨W0, Below.refl _ _⟩)).mono ?_
      rintro e w1 ⟨rfl, hb⟩
      obtain ⟨x1, rfl⟩ := Later.of hb
      clear hb
      obtain ⟨x2, hx2⟩ : ∃ x2 : Later W0, x1.w.alloc (.cells #[.int .i64 xc, .int .i64 xy, .int .i64 xs, .int .i64 xm, .int .i64 xd] 38) = x2.w := ⟨⟨_, x1.below.alloc x1.below.size _⟩, rfl⟩
      have Z2 : Hid (Blk x2.w x1.w.heap.size #[.int .i64 xc, .int .i64 xy, .int .i64 xs, .int .i64 xm, .int .i64 xd] 38) := by unfold Hid; rw [← hx2]; exact Blk.new _ _ _
      have HX2 := hideP hx2
      clear hx2
      have z0 : x2.w.cell? ⟨x1.w.heap.size, 0, none⟩ = some (.int .i64 xc) := Z2.out.cell 0 rfl
      have z1 : x2.w.cell? ⟨x1.w.heap.size, 1, none⟩ = some (.int .i64 xy) := Z2.out.cell 1 rfl
      have z2 : x2.w.cell? ⟨x1.w.heap.size, 2, none⟩ = some (.int .i64 xs) := Z2.out.cell 2 rfl
      have z3 : x2.w.cell? ⟨x1.w.heap.size, 3, none⟩ = some (.int .i64 xm) := Z2.out.cell 3 rfl
      have z4 : x2.w.cell? ⟨x1.w.heap.size, 4, none⟩ = some (.int .i64 xd) := Z2.out.cell 4 rfl
      go_upto_region 2 with fail
      rw [HX2.out]
      clear HX2 KR
      go_wp2
      go_ret
      exact ⟨rfl, HBl.out x2⟩
    obtain rfl : ans = Q := HB.out.trans (by rw [e1, e2, e4, e5]; rfl)
    clear HB
    go_enter Tryz.func84, Tryz.ntmps84
    go_wp2_with fail
    rw [← HW0.out]
    refine (KR _ (HBl.out ⟨W0, Below.refl _ _⟩)).mono ?_
    rintro e w1 ⟨rfl, hb⟩
    obtain ⟨x1, rfl⟩ := Later.of hb
    clear hb
    obtain ⟨x2, hx2⟩ : ∃ x2 : Later W0, x1.w.alloc (.cells #[.int .i64 xc, .int .i64 xy, .int .i64 xs, .int .i64 xm, .int .i64 xd] 38) = x2.w := ⟨⟨_, x1.below.alloc x1.below.size _⟩, rfl⟩
    have Z2 : Hid (Blk x2.w x1.w.heap.size #[.int .i64 xc, .int .i64 xy, .int .i64 xs, .int .i64 xm, .int .i64 xd] 38) := by unfold Hid; rw [← hx2]; exact Blk.new _ _ _
    have HX2 := hideP hx2
    clear hx2
    have z0 : x2.w.cell? ⟨x1.w.heap.size, 0, none⟩ = some (.int .i64 xc) := Z2.out.cell 0 rfl
    have z1 : x2.w.cell? ⟨x1.w.heap.size, 1, none⟩ = some (.int .i64 xy) := Z2.out.cell 1 rfl
    have z2 : x2.w.cell? ⟨x1.w.heap.size, 2, none⟩ = some (.int .i64 xs) := Z2.out.cell 2 rfl
    have z3 : x2.w.cell? ⟨x1.w.heap.size, 3, none⟩ = some (.int .i64 xm) := Z2.out.cell 3 rfl
    have z4 : x2.w.cell? ⟨x1.w.heap.size, 4, none⟩ = some (.int .i64 xd) := Z2.out.cell 4 rfl
    go_upto_region 2 with fail
    rw [HX2.out]
    clear HX2 KR
    go_wp2_with fail
    refine (KI _ (HBl.out x2)).mono ?_
    rintro e w3 ⟨rfl, hb⟩
    obtain ⟨x3, rfl⟩ := x2.next hb
    clear hb
    go_wp2
    go_ret
    exact ⟨rfl, HBl.out x3⟩
  obtain rfl : ans = Q := HB.out.trans (by rw [e1, e2, e4]; rfl)
  clear HB
  go_enter Tryz.func84, Tryz.ntmps84
  go_wp2_with fail
  rw [← HW0.out]
  refine (KR _ (HBl.out ⟨W0, Below.refl _ _⟩)).mono ?_
  rintro e w1 ⟨rfl, hb⟩
  obtain ⟨x1, rfl⟩ := Later.of hb
  clear hb
  obtain ⟨x2, hx2⟩ : ∃ x2 : Later W0, x1.w.alloc (.cells #[.int .i64 xc, .int .i64 xy, .int .i64 xs, .int .i64 xm, .int .i64 xd] 38) = x2.w := ⟨⟨_, x1.below.alloc x1.below.size _⟩, rfl⟩
  have Z2 : Hid (Blk x2.w x1.w.heap.size #[.int .i64 xc, .int .i64 xy, .int .i64 xs, .int .i64 xm, .int .i64 xd] 38) := by unfold Hid; rw [← hx2]; exact Blk.new _ _ _
  have HX2 := hideP hx2
  clear hx2
  have z0 : x2.w.cell? ⟨x1.w.heap.size, 0, none⟩ = some (.int .i64 xc) := Z2.out.cell 0 rfl
  have z1 : x2.w.cell? ⟨x1.w.heap.size, 1, none⟩ = some (.int .i64 xy) := Z2.out.cell 1 rfl
  have z2 : x2.w.cell? ⟨x1.w.heap.size, 2, none⟩ = some (.int .i64 xs) := Z2.out.cell 2 rfl
  have z3 : x2.w.cell? ⟨x1.w.heap.size, 3, none⟩ = some (.int .i64 xm) := Z2.out.cell 3 rfl
  have z4 : x2.w.cell? ⟨x1.w.heap.size, 4, none⟩ = some (.int .i64 xd) := Z2.out.cell 4 rfl
  go_upto_region 2 with fail
  rw [HX2.out]
  clear HX2 KR
  go_wp2_with fail
  refine (KI _ (HBl.out x2)).mono ?_
  rintro e w3 ⟨rfl, hb⟩
  obtain ⟨x3, rfl⟩ := x2.next hb
  clear hb
  go_wp2
  go_ret
  exact ⟨rfl, HBl.out x3⟩
set_option maxRecDepth 100000 in
set_option maxHeartbeats 8000000 in
theorem specMeans (v : Value) (r : Rgm) (s : Say) (n : Int) (w : World) (h : GRow w v r) (hf : -9223372036854775808 ≤ r.fr) (ht : r.to ≤ 9223372036854775807) : Calls Tryz.prog 28 #[v, sayV s, .int .i64 n] w fun e w' => e = .returned (.bool (meansB r s n)) ∧ Below w.heap.size w w' := by
  have hG := h
  obtain ⟨v1, v2, v3, rfl, _⟩ := h
  obtain ⟨⟨k, m, d, ⟨a, b, c, t⟩, f, p⟩, y, so, ca⟩ := s
  obtain ⟨W0, hW0, hD, hR, hBl⟩ := two_box w #[.string r.name, .int .i64 r.fr, .int .i64 r.to, v1, v2, v3, .int .i64 r.rule] #[.int .i64 k, .int .i64 m, .int .i64 d, .int .i64 a, .int .i64 b, .int .i64 c, .bool t, .string f, .int .i64 p, .int .i64 y, .int .i64 so, .int .i64 ca] 36 59
  have cr0 : ∀ x : Later W0, x.w.cell? ⟨w.heap.size, 0, none⟩ = some (.string r.name) := fun x => (hD x).cell 0 rfl
  have cr1 : ∀ x : Later W0, x.w.cell? ⟨w.heap.size, 1, none⟩ = some (.int .i64 r.fr) := fun x => (hD x).cell 1 rfl
  have cr2 : ∀ x : Later W0, x.w.cell? ⟨w.heap.size, 2, none⟩ = some (.int .i64 r.to) := fun x => (hD x).cell 2 rfl
  have cr3 : ∀ x : Later W0, x.w.cell? ⟨w.heap.size, 3, none⟩ = some (v1) := fun x => (hD x).cell 3 rfl
  have cr4 : ∀ x : Later W0, x.w.cell? ⟨w.heap.size, 4, none⟩ = some (v2) := fun x => (hD x).cell 4 rfl
  have cr5 : ∀ x : Later W0, x.w.cell? ⟨w.heap.size, 5, none⟩ = some (v3) := fun x => (hD x).cell 5 rfl
  have cr6 : ∀ x : Later W0, x.w.cell? ⟨w.heap.size, 6, none⟩ = some (.int .i64 r.rule) := fun x => (hD x).cell 6 rfl
  have cs0 : ∀ x : Later W0, x.w.cell? ⟨w.heap.size + 1, 0, none⟩ = some (.int .i64 k) := fun x => (hR x).cell 0 rfl
  have cs1 : ∀ x : Later W0, x.w.cell? ⟨w.heap.size + 1, 1, none⟩ = some (.int .i64 m) := fun x => (hR x).cell 1 rfl
  have cs2 : ∀ x : Later W0, x.w.cell? ⟨w.heap.size + 1, 2, none⟩ = some (.int .i64 d) := fun x => (hR x).cell 2 rfl
  have cs3 : ∀ x : Later W0, x.w.cell? ⟨w.heap.size + 1, 3, none⟩ = some (.int .i64 a) := fun x => (hR x).cell 3 rfl
  have cs4 : ∀ x : Later W0, x.w.cell? ⟨w.heap.size + 1, 4, none⟩ = some (.int .i64 b) := fun x => (hR x).cell 4 rfl
  have cs5 : ∀ x : Later W0, x.w.cell? ⟨w.heap.size + 1, 5, none⟩ = some (.int .i64 c) := fun x => (hR x).cell 5 rfl
  have cs6 : ∀ x : Later W0, x.w.cell? ⟨w.heap.size + 1, 6, none⟩ = some (.bool t) := fun x => (hR x).cell 6 rfl
  have cs7 : ∀ x : Later W0, x.w.cell? ⟨w.heap.size + 1, 7, none⟩ = some (.string f) := fun x => (hR x).cell 7 rfl
  have cs8 : ∀ x : Later W0, x.w.cell? ⟨w.heap.size + 1, 8, none⟩ = some (.int .i64 p) := fun x => (hR x).cell 8 rfl
  have cs9 : ∀ x : Later W0, x.w.cell? ⟨w.heap.size + 1, 9, none⟩ = some (.int .i64 y) := fun x => (hR x).cell 9 rfl
  have cs10 : ∀ x : Later W0, x.w.cell? ⟨w.heap.size + 1, 10, none⟩ = some (.int .i64 so) := fun x => (hR x).cell 10 rfl
  have cs11 : ∀ x : Later W0, x.w.cell? ⟨w.heap.size + 1, 11, none⟩ = some (.int .i64 ca) := fun x => (hR x).cell 11 rfl
  have HW0 := hideP hW0
  have HBl := hideP hBl
  have KO : ∀ W, Below w.heap.size w W → Calls Tryz.prog 57 #[.agg #[.string r.name, .int .i64 r.fr, .int .i64 r.to, v1, v2, v3, .int .i64 r.rule]] W fun e w' => e = .returned (.bool (regimeB r)) ∧ Below W.heap.size W w' := fun W hb => specRegimeOk _ r W (hG.below hb) hf ht
  have KY : ∀ W, Calls Tryz.prog 83 #[.agg #[.int .i64 k, .int .i64 m, .int .i64 d, .int .i64 a, .int .i64 b, .int .i64 c, .bool t, .string f, .int .i64 p, .int .i64 y, .int .i64 so, .int .i64 ca]] W fun e w' => e = .returned (.bool (sayB ⟨⟨k, m, d, ⟨a, b, c, t⟩, f, p⟩, y, so, ca⟩)) ∧ Below W.heap.size W w' := fun W => specSayingOk ⟨⟨k, m, d, ⟨a, b, c, t⟩, f, p⟩, y, so, ca⟩ W
  have KM : regimeB r = true → sayB ⟨⟨k, m, d, ⟨a, b, c, t⟩, f, p⟩, y, so, ca⟩ = true → ∀ W, Below w.heap.size w W → Calls Tryz.prog 84 #[.agg #[.string r.name, .int .i64 r.fr, .int .i64 r.to, v1, v2, v3, .int .i64 r.rule], .agg #[.int .i64 k, .int .i64 m, .int .i64 d, .int .i64 a, .int .i64 b, .int .i64 c, .bool t, .string f, .int .i64 p, .int .i64 y, .int .i64 so, .int .i64 ca], .int .i64 n] W fun e w' => e = .returned (.bool (meant1 r ⟨⟨k, m, d, ⟨a, b, c, t⟩, f, p⟩, y, so, ca⟩ n)) ∧ Below W.heap.size W w' := fun a1 a2 W hb => specMeans1 _ r ⟨⟨k, m, d, ⟨a, b, c, t⟩, f, p⟩, y, so, ca⟩ n W (hG.below hb) a1 a2
  obtain ⟨ans, hans⟩ : ∃ ans, ans = meansB r ⟨⟨k, m, d, ⟨a, b, c, t⟩, f, p⟩, y, so, ca⟩ n := ⟨_, rfl⟩
  rw [← hans]
  have HB : Hid (ans = ((regimeB r && (decide (r.fr ≤ n) && decide (n ≤ r.to))) && (sayB ⟨⟨k, m, d, ⟨a, b, c, t⟩, f, p⟩, y, so, ca⟩ && saidB r ⟨⟨k, m, d, ⟨a, b, c, t⟩, f, p⟩, y, so, ca⟩ n))) := hans
  have HM : Hid (meant1 r ⟨⟨k, m, d, ⟨a, b, c, t⟩, f, p⟩, y, so, ca⟩ n = ((decide (r.fr ≤ n) && decide (n ≤ r.to)) && saidB r ⟨⟨k, m, d, ⟨a, b, c, t⟩, f, p⟩, y, so, ca⟩ n)) := rfl
  clear hans hW0 hD hR hBl hG hf ht
  generalize regimeB r = O at *
  generalize sayB ⟨⟨k, m, d, ⟨a, b, c, t⟩, f, p⟩, y, so, ca⟩ = S at *
  generalize meant1 r ⟨⟨k, m, d, ⟨a, b, c, t⟩, f, p⟩, y, so, ca⟩ n = M at *
  generalize saidB r ⟨⟨k, m, d, ⟨a, b, c, t⟩, f, p⟩, y, so, ca⟩ n = D at *
  generalize (decide (r.fr ≤ n) && decide (n ≤ r.to)) = I at *
  cases O
  · obtain rfl : ans = false := HB.out.trans rfl
    clear HB HM KM KY
    go_enter Tryz.func28, Tryz.ntmps28
    go_wp2_with fail
    rw [← HW0.out]
    refine (KO _ (HBl.out ⟨W0, Below.refl _ _⟩)).mono ?_
    rintro e w1 ⟨rfl, hb⟩
    obtain ⟨x1, rfl⟩ := Later.of hb
    clear hb
    go_wp2
    go_ret
    exact ⟨rfl, HBl.out x1⟩
  cases S
  · obtain rfl : ans = false := HB.out.trans (by simp)
    clear HB HM KM
    go_enter Tryz.func28, Tryz.ntmps28
    go_wp2_with fail
    rw [← HW0.out]
    refine (KO _ (HBl.out ⟨W0, Below.refl _ _⟩)).mono ?_
    rintro e w1 ⟨rfl, hb⟩
    obtain ⟨x1, rfl⟩ := Later.of hb
    clear hb
    go_wp2_with fail
    refine (KY _).mono ?_
    rintro e w2 ⟨rfl, hb⟩
    obtain ⟨x2, rfl⟩ := x1.next hb
    clear hb
    go_wp2
    go_ret
    exact ⟨rfl, HBl.out x2⟩
  obtain rfl : ans = M := HB.out.trans ((by simp : _ = (I && D)).trans HM.out.symm)
  have KM' := KM rfl rfl
  clear HB HM KM
  go_enter Tryz.func28, Tryz.ntmps28
  go_wp2_with fail
  rw [← HW0.out]
  refine (KO _ (HBl.out ⟨W0, Below.refl _ _⟩)).mono ?_
  rintro e w1 ⟨rfl, hb⟩
  obtain ⟨x1, rfl⟩ := Later.of hb
  clear hb
  go_wp2_with fail
  refine (KY _).mono ?_
  rintro e w2 ⟨rfl, hb⟩
  obtain ⟨x2, rfl⟩ := x1.next hb
  clear hb
  go_wp2_with fail
  refine (KM' _ (HBl.out x2)).mono ?_
  rintro e w3 ⟨rfl, hb⟩
  obtain ⟨x3, rfl⟩ := x2.next hb
  clear hb
  go_wp2
  go_ret
  exact ⟨rfl, HBl.out x3⟩
end Go.Proofs.YtjojgfdfbkmlkaaGreatDoor.ctr
namespace Go.Proofs.YtjojgfdfbkmlkaaGreatDoor.kit
open Go.RowKit
theorem a_et : Tryz.prog.globalNamed "errors.errorType" = some 3 := by kernel_rfl
theorem a_rt : (Tryz.prog.cutTypes.find? (·.1 == "internal/reflectlite.rtype")).map (·.2) = some 301 := by kernel_rfl
theorem a_row : ((List.range 412).filter fun t => Tryz.prog.rowNamed t [101, 114, 114, 111, 114]) = [203] := by kernel_rfl
theorem a_size : Tryz.prog.types.size = 412 := by kernel_rfl
theorem err_of {W : World} (h : handlesMet Tryz.prog [("errors.errorType", .iface "internal/reflectlite.rtype" (.agg [.ptr (.lit (.string [101, 114, 114, 111, 114]))]))] W) : ctr.ErrT W := by
  obtain ⟨name, u, ty, e1, e2, e3, e4, e5⟩ := h _ (List.mem_singleton.2 rfl)
  have en : name = [101, 114, 114, 111, 114] := (Option.some.inj e1).symm
  subst en
  obtain rfl := Option.some.inj (a_rt.symm.trans e2)
  have hm : ty ∈ (List.range 412).filter fun t => Tryz.prog.rowNamed t [101, 114, 114, 111, 114] := List.mem_filter.2 ⟨List.mem_range.2 (by rw [← a_size]; exact e3), e4⟩
  rw [a_row] at hm
  obtain rfl := List.mem_singleton.1 hm
  have hh : typeHandle Tryz.prog 203 = .pointer (some ⟨10, 203, none⟩) := by kernel_rfl
  rw [hh] at e5
  unfold ctr.ErrT
  simpa using World.var?_cell a_et e5 0
end Go.Proofs.YtjojgfdfbkmlkaaGreatDoor.kit
namespace Go.Proofs.YtjojgfdfbkmlkaaGreatDoor.kit
open Go.RowKit
theorem gs_two {H : Type} {enc : TypeId × Value → H} {P : Program} {W : World} {sp : Nat → Bool} {a b : String} {gs : List (DataW H)} {q : List MemPlace} (h : DataW.TrodVars enc P W sp [a, b] gs q) : ∃ g1 g2, gs = [g1, g2] := by
  match gs, h with
  | [], h => exact h.elim
  | [g1], h =>
    obtain ⟨_, _, _, _, _, _, _, _, _, _, h5, _⟩ := h
    exact h5.elim
  | [g1, g2], _ => exact ⟨g1, g2, rfl⟩
  | g1 :: g2 :: g3 :: r, h =>
    obtain ⟨_, _, _, _, _, _, _, _, _, _, h5, _⟩ := h
    obtain ⟨_, _, _, _, _, _, _, _, _, _, h6, _⟩ := h5
    exact h6.elim
theorem star : "*" ++ "errors.errorString" = "*errors.errorString" := by decide
theorem rowErr (u : TypeId) (h : Tryz.prog.typeName? 3 u = some "*errors.errorString") : u = 381 :=
  typeName_ptr_named (nm := "errors.errorString") (by rw [star]; kernel_rfl) (by kernel_rfl) (by decide) u (by rw [star]; exact h)
theorem cellsErr : Tryz.prog.cellsOf 400 = 1 := by kernel_rfl
theorem cellsStr : Tryz.prog.cellsOf 9 = 1 := by kernel_rfl
theorem gErr : Tryz.prog.globalNamed "loop.example/g00638/impl.errNoTable" = some 0 := by kernel_rfl
theorem gErrType : (Tryz.prog.globals[0]?).map (·.type) = some 203 := by kernel_rfl
theorem sent_of {text : List UInt8} {r : List (String × DataW Unit)} {W : World} (h : laidMet Tryz.prog (("loop.example/g00638/impl.errNoTable", .iface "*errors.errorString" (.ptr (.agg [.lit (.string text)]))) :: r) W) : ∃ a, ctr.Sent W a := by
  obtain ⟨a, s, hv, _⟩ := laid_sentinel h gErr gErrType Tryz.underlying203 rowErr Tryz.underlying381 Tryz.underlying400 rfl rfl Tryz.underlying9 cellsErr cellsStr
  exact ⟨a, by unfold ctr.Sent; simpa using World.var?_cell gErr hv 0⟩
end Go.Proofs.YtjojgfdfbkmlkaaGreatDoor.kit
