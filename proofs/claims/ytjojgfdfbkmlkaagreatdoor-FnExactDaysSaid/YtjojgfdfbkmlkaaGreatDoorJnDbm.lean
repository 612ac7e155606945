/- The program's isSaid: in a right regime, at a day of it and a right saying, whether the day is told. The program's Means. DERIVED: THE SHELF's CONTRACTS AT THIS DUMP, IN PLAIN WORDS (tools/lay-plain.mjs out of 'TryzShelf.lean', which tools/lay-shelf.mjs wrote): THE SAME DECLARATIONS UNDER THE SAME NAMES: 'import', 'namespace', 'open', 'def', 'theorem' AND NOTHING ELSE: no command of the shelf's: FOR A HAND-IN. Each laying: the table of numbers ('.._ren') and one theorem, a field a fact of the dump's own or the kernel's comparison; each contract: ONE APPLICATION. The program's DaysSaid: the days that a saying can mean, ascending, in a row of its own. -/
import Derived.Test.YtjojgfdfbkmlkaaGreatDoorJnDbj
import Derived.Test.YtjojgfdfbkmlkaaGreatDoorWhnToD
import Derived.Deep.DeepCutAuto
import Derived.Deep.CutBlock
import Derived.Stop.Asserts
import Derived.Shelf.Strings.Builder1
import Derived.Shelf.Strings.Builder2
import Derived.Shelf.Small.Bits
import Derived.Shelf.Strings.BuilderF
import Derived.Shelf.Strconv.Itoa0
import Derived.Shelf.Strconv.Itoa1
import Derived.Shelf.LaysM
import Derived.Shelf.Strconv.Itoa2
import Derived.Shelf.Strconv.Itoa3
import Derived.Shelf.Strconv.Clone
import Derived.Shelf.Strings.Search1
import Derived.Shelf.Strings.Search2
import Derived.Shelf.Strings.Cut
import Derived.Shelf.Strings.Shaped
import Derived.Shelf.Sort.Plain
import Derived.Shelf.Strings.Prefix
import Derived.Shelf.Bits.Mul64
import Derived.Shelf.Strings.Repeat
import Derived.Shelf.Slices.Equal
import Derived.Ground.Names2Prog
import Derived.Shelf.Slices.CompactI
import Derived.Shelf.Slices.SearchI
import Derived.Shelf.Slices.Cells
import Derived.Shelf.Slices.In.SortNone
import Derived.Shelf.Slices.Empties2
import Derived.Ground.SlgnProg
import Derived.Shelf.SlicesE.Equal
import Derived.Shelf.SlicesE.Compact
import Derived.Ground.SlgfProg
import Derived.Shelf.SlicesE.IndexFunc
import Derived.Shelf.SlicesE.DeleteFunc
import Derived.Test.YtjojgfdfbkmlkaaGreatDoorProg
import Derived.Test.YtjojgfdfbkmlkaaGreatDoorJnDbk
import Derived.Test.YtjojgfdfbkmlkaaGreatDoorJnDbi
import Derived.Shelf.Abstract
import Derived.Sort.Row
namespace Go.Proofs.YtjojgfdfbkmlkaaGreatDoor.ctr
open Go.RowKit
theorem irD (v : Value) (w : World) : (Instr.typeAssert (.iface 227 v) 170 173 true).run Tryz.prog w = .ok (.tuple #[.iface 227 v, .bool true]) w := run_typeAssert_hasB Tryz.underlying173 (by kernel_rfl) v _ w
theorem irR (v : Value) (w : World) : (Instr.typeAssert (.iface 229 v) 170 173 true).run Tryz.prog w = .ok (.tuple #[.nilIface, .bool false]) w := run_typeAssert_lacksB Tryz.underlying173 (by kernel_rfl) (by kernel_rfl) v _ w
theorem irF (v : Value) (w : World) : (Instr.typeAssert (.iface 232 v) 170 173 true).run Tryz.prog w = .ok (.tuple #[.nilIface, .bool false]) w := run_typeAssert_lacksB Tryz.underlying173 (by kernel_rfl) (by kernel_rfl) v _ w
theorem idR (v : Value) (w : World) : (Instr.typeAssert (.iface 229 v) 170 176 true).run Tryz.prog w = .ok (.tuple #[.iface 229 v, .bool true]) w := run_typeAssert_hasB Tryz.underlying176 (by kernel_rfl) v _ w
theorem idF (v : Value) (w : World) : (Instr.typeAssert (.iface 232 v) 170 176 true).run Tryz.prog w = .ok (.tuple #[.iface 232 v, .bool true]) w := run_typeAssert_hasB Tryz.underlying176 (by kernel_rfl) v _ w
set_option maxRecDepth 100000 in
set_option maxHeartbeats 8000000 in
theorem implIsSaid (v : Value) (r : Rgm) (s : Say) (n : Int) (w : World) (h : GRow w v r) (hr : regimeB r = true) (h1 : r.fr ≤ n) (h2 : n ≤ r.to) (hs : sayB s = true) (hT : Tab w) : Calls Tryz.prog 88 #[v, sayV s, .int .i64 n, rdgV (rdgOn r n)] w fun e w' => e = .returned (.bool (saidB r s n)) ∧ Below w.heap.size w w' := by
  have hG := h
  obtain ⟨v1, v2, v3, rfl, _⟩ := h
  obtain ⟨⟨k, m, d, ⟨a, b, c, t⟩, f, p⟩, y, so, ca⟩ := s
  have hw : whnB ⟨k, m, d, ⟨a, b, c, t⟩, f, p⟩ = true := by unfold sayB at hs; simp only [Bool.and_eq_true] at hs; exact hs.1
  have HRD := fun hp => rdg_date (n := n) hr h1 h2 hp
  have KA : ∀ W, Below w.heap.size w W → Calls Tryz.prog 130 #[.agg #[.string r.name, .int .i64 r.fr, .int .i64 r.to, v1, v2, v3, .int .i64 r.rule], .int .i64 n] W fun e w' => e = .returned (.int .i64 (patAt r.pats n)) ∧ Below W.heap.size W w' := fun W hb => implPatAt _ r n W (hG.below hb)
  have KPl : ∀ (x : Rdg) W, Below w.heap.size w W → Calls Tryz.prog 124 #[rdgV x] W fun e w' => e = .returned (plainR x.cal x) ∧ Below W.heap.size W w' := fun x W hb => implPlain x W (hT.later hb)
  have HS : Hid (saidB r ⟨⟨k, m, d, ⟨a, b, c, t⟩, f, p⟩, y, so, ca⟩ n = (headB (rdgOn r n) ⟨⟨k, m, d, ⟨a, b, c, t⟩, f, p⟩, y, so, ca⟩ && whenIsB r ⟨k, m, d, ⟨a, b, c, t⟩, f, p⟩ n)) := rfl
  generalize saidB r ⟨⟨k, m, d, ⟨a, b, c, t⟩, f, p⟩, y, so, ca⟩ n = ans at *
  generalize hx : rdgOn r n = x at *
  obtain ⟨xc, xy, xs, xm, xd⟩ := x
  obtain ⟨WA, eA, HPa, HSa, HXa, HBa⟩ := boxes3 w #[.string r.name, .int .i64 r.fr, .int .i64 r.to, v1, v2, v3, .int .i64 r.rule] #[.int .i64 k, .int .i64 m, .int .i64 d, .int .i64 a, .int .i64 b, .int .i64 c, .bool t, .string f, .int .i64 p, .int .i64 y, .int .i64 so, .int .i64 ca] #[.int .i64 xc, .int .i64 xy, .int .i64 xs, .int .i64 xm, .int .i64 xd] 36 59 38
  have HA := hideP eA
  have HBl : Hid (∀ x : Later WA, Below w.heap.size w x.w) := fun x => HBa.trans (x.below.mono HBa.size)
  have HP2 : Hid (∀ x : Later WA, Blk x.w w.heap.size #[.string r.name, .int .i64 r.fr, .int .i64 r.to, v1, v2, v3, .int .i64 r.rule] 36) := fun x => HPa.later x
  have HS2 : Hid (∀ x : Later WA, Blk x.w (w.heap.size + 1) #[.int .i64 k, .int .i64 m, .int .i64 d, .int .i64 a, .int .i64 b, .int .i64 c, .bool t, .string f, .int .i64 p, .int .i64 y, .int .i64 so, .int .i64 ca] 59) := fun x => HSa.later x
  have HX2 : Hid (∀ x : Later WA, Blk x.w (w.heap.size + 2) #[.int .i64 xc, .int .i64 xy, .int .i64 xs, .int .i64 xm, .int .i64 xd] 38) := fun x => HXa.later x
  have cr0 : ∀ x : Later WA, x.w.cell? ⟨w.heap.size, 0, none⟩ = some (.string r.name) := fun x => (HP2.out x).cell 0 rfl
  have cr1 : ∀ x : Later WA, x.w.cell? ⟨w.heap.size, 1, none⟩ = some (.int .i64 r.fr) := fun x => (HP2.out x).cell 1 rfl
  have cr2 : ∀ x : Later WA, x.w.cell? ⟨w.heap.size, 2, none⟩ = some (.int .i64 r.to) := fun x => (HP2.out x).cell 2 rfl
  have cr3 : ∀ x : Later WA, x.w.cell? ⟨w.heap.size, 3, none⟩ = some (v1) := fun x => (HP2.out x).cell 3 rfl
  have cr4 : ∀ x : Later WA, x.w.cell? ⟨w.heap.size, 4, none⟩ = some (v2) := fun x => (HP2.out x).cell 4 rfl
  have cr5 : ∀ x : Later WA, x.w.cell? ⟨w.heap.size, 5, none⟩ = some (v3) := fun x => (HP2.out x).cell 5 rfl
  have cr6 : ∀ x : Later WA, x.w.cell? ⟨w.heap.size, 6, none⟩ = some (.int .i64 r.rule) := fun x => (HP2.out x).cell 6 rfl
  have cs0 : ∀ x : Later WA, x.w.cell? ⟨w.heap.size + 1, 0, none⟩ = some (.int .i64 k) := fun x => (HS2.out x).cell 0 rfl
  have cs1 : ∀ x : Later WA, x.w.cell? ⟨w.heap.size + 1, 1, none⟩ = some (.int .i64 m) := fun x => (HS2.out x).cell 1 rfl
  have cs2 : ∀ x : Later WA, x.w.cell? ⟨w.heap.size + 1, 2, none⟩ = some (.int .i64 d) := fun x => (HS2.out x).cell 2 rfl
  have cs3 : ∀ x : Later WA, x.w.cell? ⟨w.heap.size + 1, 3, none⟩ = some (.int .i64 a) := fun x => (HS2.out x).cell 3 rfl
  have cs4 : ∀ x : Later WA, x.w.cell? ⟨w.heap.size + 1, 4, none⟩ = some (.int .i64 b) := fun x => (HS2.out x).cell 4 rfl
  have cs5 : ∀ x : Later WA, x.w.cell? ⟨w.heap.size + 1, 5, none⟩ = some (.int .i64 c) := fun x => (HS2.out x).cell 5 rfl
  have cs6 : ∀ x : Later WA, x.w.cell? ⟨w.heap.size + 1, 6, none⟩ = some (.bool t) := fun x => (HS2.out x).cell 6 rfl
  have cs7 : ∀ x : Later WA, x.w.cell? ⟨w.heap.size + 1, 7, none⟩ = some (.string f) := fun x => (HS2.out x).cell 7 rfl
  have cs8 : ∀ x : Later WA, x.w.cell? ⟨w.heap.size + 1, 8, none⟩ = some (.int .i64 p) := fun x => (HS2.out x).cell 8 rfl
  have cs9 : ∀ x : Later WA, x.w.cell? ⟨w.heap.size + 1, 9, none⟩ = some (.int .i64 y) := fun x => (HS2.out x).cell 9 rfl
  have cs10 : ∀ x : Later WA, x.w.cell? ⟨w.heap.size + 1, 10, none⟩ = some (.int .i64 so) := fun x => (HS2.out x).cell 10 rfl
  have cs11 : ∀ x : Later WA, x.w.cell? ⟨w.heap.size + 1, 11, none⟩ = some (.int .i64 ca) := fun x => (HS2.out x).cell 11 rfl
  have cx0 : ∀ x : Later WA, x.w.cell? ⟨w.heap.size + 2, 0, none⟩ = some (.int .i64 xc) := fun x => (HX2.out x).cell 0 rfl
  have cx1 : ∀ x : Later WA, x.w.cell? ⟨w.heap.size + 2, 1, none⟩ = some (.int .i64 xy) := fun x => (HX2.out x).cell 1 rfl
  have cx2 : ∀ x : Later WA, x.w.cell? ⟨w.heap.size + 2, 2, none⟩ = some (.int .i64 xs) := fun x => (HX2.out x).cell 2 rfl
  have cx3 : ∀ x : Later WA, x.w.cell? ⟨w.heap.size + 2, 3, none⟩ = some (.int .i64 xm) := fun x => (HX2.out x).cell 3 rfl
  have cx4 : ∀ x : Later WA, x.w.cell? ⟨w.heap.size + 2, 4, none⟩ = some (.int .i64 xd) := fun x => (HX2.out x).cell 4 rfl
  obtain ⟨x0, hx0⟩ : ∃ x0 : Later WA, WA = x0.w := ⟨⟨WA, Below.refl _ _⟩, rfl⟩
  have HX0 := hideP (eA.symm.trans hx0)
  obtain ⟨B, hB⟩ : ∃ B, B = headB ⟨xc, xy, xs, xm, xd⟩ ⟨⟨k, m, d, ⟨a, b, c, t⟩, f, p⟩, y, so, ca⟩ := ⟨_, rfl⟩
  have HB : Hid (B = (xy == y && ((so == -1 || xs == so) && (ca == -1 || xc == ca)))) := hB
  rw [← hB] at HS
  clear hB eA hx0 HPa HSa HXa HBa
  have HWH := hideP (whn_cases hw)
  have HX := hideP hx
  clear hw hs hx
  go_enter Tryz.func88, Tryz.ntmps88
  go_upto_region 1 with fail
  rw [HX0.out]
  generalize sayV ⟨⟨k, m, d, ⟨a, b, c, t⟩, f, p⟩, y, so, ca⟩ = VS
  generalize rdgV ⟨xc, xy, xs, xm, xd⟩ = VX
  go_cut [44] from 16 to 43 (fun s44 wx => s44 = .bool (!B) ∧ wx = x0.w)
  case first =>
    clear HRD KA KPl HS HWH HX HP2 HS2 HX2
    go_wp2_with fail
    all_goals (go_meet; exact ⟨by rw [HB.out]; first | (simp_all; done) | (simp_all; rfl), rfl⟩)
  case rest =>
  obtain ⟨rfl, rfl⟩ := hcut
  clear HB
  cases B
  · obtain rfl : ans = false := HS.out.trans rfl
    go_wp2
    go_ret
    exact ⟨rfl, HBl.out x0⟩
  have HQ : Hid (ans = whenIsB r ⟨k, m, d, ⟨a, b, c, t⟩, f, p⟩ n) := HS.out.trans (by rw [Bool.true_and])
  clear HS HX0 HA
  rcases HWH.out with ⟨rfl, rfl, rfl, rfl, rfl, rfl, rfl, m1, m2, d1, d2⟩ | ⟨rfl, rfl, rfl, rfl, rfl, _⟩ | ⟨rfl, rfl, rfl, rfl, rfl, rfl, rfl, hz, p1, p2⟩
  · have KK : ∀ W, Calls Tryz.prog 145 #[.agg #[.int .i64 0, .int .i64 m, .int .i64 d, .int .i64 0, .int .i64 0, .int .i64 0, .bool false, .string ⟨#[]⟩, .int .i64 0]] W fun e w' => e = .returned (.iface 227 (.agg #[.int .i64 m, .int .i64 d])) ∧ Below W.heap.size W w' := fun W => kindDay m d W
    obtain ⟨R, hR⟩ : ∃ R, R = (xm == m && xd == d) := ⟨_, rfl⟩
    have KM : ∀ W, Calls Tryz.prog 398 #[.agg #[.int .i64 m, .int .i64 d], .agg #[.int .i64 xc, .int .i64 xy, .int .i64 xs, .int .i64 xm, .int .i64 xd]] W fun e w' => e = .returned (.bool R) ∧ Below W.heap.size W w' := fun W => by rw [hR]; exact dayIsReading m d ⟨xc, xy, xs, xm, xd⟩ W
    have q1 := irD
    obtain rfl : ans = R := HQ.out.trans (by unfold whenIsB; rw [if_pos rfl, HX.out, hR])
    clear HQ hR HRD KA KPl HWH m1 m2 d1 d2
    go_wp2_with fail
    refine (KK _).mono ?_
    rintro e w1 ⟨rfl, hb⟩
    obtain ⟨x1, rfl⟩ := x0.next hb
    clear hb
    go_wp2_with fail
    refine (KM _).mono ?_
    rintro e w2 ⟨rfl, hb⟩
    obtain ⟨x2, rfl⟩ := x1.next hb
    clear hb
    go_wp2
    go_ret
    exact ⟨rfl, HBl.out x2⟩
  · have KK : ∀ W, Calls Tryz.prog 145 #[.agg #[.int .i64 1, .int .i64 0, .int .i64 0, .int .i64 a, .int .i64 b, .int .i64 c, .bool t, .string ⟨#[]⟩, .int .i64 0]] W fun e w' => e = .returned (.iface 229 (.agg #[.int .i64 a, .int .i64 b, .int .i64 c, .bool t])) ∧ Below W.heap.size W w' := fun W => kindRom a b c t W
    have q1 := irR
    have q2 := idR
    by_cases hp : 0 ≤ patAt r.pats n
    · obtain rfl : ans = false := HQ.out.trans (by unfold whenIsB; rw [if_neg (show ¬ (1 : Int) = 0 by omega), if_pos hp])
      obtain ⟨e0, e1, e2, e3, ok, hpl⟩ := plain_tuple xc ⟨xc, xy, xs, xm, xd⟩
      have KPx : ∀ W, Below w.heap.size w W → Calls Tryz.prog 124 #[.agg #[.int .i64 xc, .int .i64 xy, .int .i64 xs, .int .i64 xm, .int .i64 xd]] W fun e w' => e = .returned (.tuple #[.agg #[.int .i64 e0, .int .i64 e1, .int .i64 e2, .int .i64 e3], .bool ok]) ∧ Below W.heap.size W w' := fun W hb => by rw [← hpl]; exact KPl ⟨xc, xy, xs, xm, xd⟩ W hb
      generalize patAt r.pats n = pt at *
      clear HQ HRD KPl HWH hpl
      go_wp2_with fail
      refine (KK _).mono ?_
      rintro e w1 ⟨rfl, hb⟩
      obtain ⟨x1, rfl⟩ := x0.next hb
      clear hb
      go_wp2_with fail
      refine (KPx _ (HBl.out x1)).mono ?_
      rintro e w2 ⟨rfl, hb⟩
      obtain ⟨x2, rfl⟩ := x1.next hb
      clear hb
      obtain ⟨x3, hx3⟩ : ∃ x3 : Later WA, x2.w.alloc (.cells #[.int .i64 e0, .int .i64 e1, .int .i64 e2, .int .i64 e3] 88) = x3.w := ⟨⟨_, x2.below.alloc x2.below.size _⟩, rfl⟩
      have Z3 : Hid (Blk x3.w x2.w.heap.size #[.int .i64 e0, .int .i64 e1, .int .i64 e2, .int .i64 e3] 88) := by unfold Hid; rw [← hx3]; exact Blk.new _ _ _
      have HX3 := hideP hx3
      clear hx3
      go_upto_region 10 with fail
      rw [HX3.out]
      go_wp2_with fail
      refine (KA _ (HBl.out x3)).mono ?_
      rintro e w4 ⟨rfl, hb⟩
      have Z4 : Hid (Blk w4 x2.w.heap.size #[.int .i64 e0, .int .i64 e1, .int .i64 e2, .int .i64 e3] 88) := Z3.out.below hb Z3.out.lt
      obtain ⟨x4, rfl⟩ := x3.next hb
      clear hb HX3 Z3
      go_wp2
      go_ret
      exact ⟨rfl, HBl.out x4⟩
    obtain ⟨Y, M, D, he, hc, hY, hM, hD, hok, hday⟩ := HRD hp
    simp only at hc hY hM hD
    subst hY hM hD
    have KPx : ∀ W, Below w.heap.size w W → Calls Tryz.prog 124 #[.agg #[.int .i64 xc, .int .i64 xy, .int .i64 xs, .int .i64 xm, .int .i64 xd]] W fun e w' => e = .returned (.tuple #[.agg #[.int .i64 xc, .int .i64 xs, .int .i64 xm, .int .i64 xd], .bool true]) ∧ Below W.heap.size W w' := fun W hb => by rw [← plainR_yes (c := xc) (x := ⟨xc, xy, xs, xm, xd⟩) (by rw [hc]; exact hok)]; exact KPl ⟨xc, xy, xs, xm, xd⟩ W hb
    obtain ⟨R, hR⟩ : ∃ R, R = romEq (romanOf xc xs xm xd) ⟨a, b, c, t⟩ := ⟨_, rfl⟩
    have KM : ∀ W, Below w.heap.size w W → Calls Tryz.prog 401 #[.agg #[.int .i64 a, .int .i64 b, .int .i64 c, .bool t], .agg #[.int .i64 xc, .int .i64 xs, .int .i64 xm, .int .i64 xd]] W fun e w' => e = .returned (.bool R) ∧ Below W.heap.size W w' := fun W hb => by rw [hR]; exact romIsDate a b c t xc xs xm xd W (hT.later hb)
    obtain rfl : ans = R := HQ.out.trans (by unfold whenIsB; rw [if_neg (show ¬ (1 : Int) = 0 by omega), if_neg hp, if_pos rfl, he, ← hc, hR])
    have hpn : patAt r.pats n < 0 := by omega
    generalize patAt r.pats n = pt at *
    clear HQ HRD KPl HWH hR he hc hok hday hp
    go_wp2_with fail
    refine (KK _).mono ?_
    rintro e w1 ⟨rfl, hb⟩
    obtain ⟨x1, rfl⟩ := x0.next hb
    clear hb
    go_wp2_with fail
    refine (KPx _ (HBl.out x1)).mono ?_
    rintro e w2 ⟨rfl, hb⟩
    obtain ⟨x2, rfl⟩ := x1.next hb
    clear hb
    obtain ⟨x3, hx3⟩ : ∃ x3 : Later WA, x2.w.alloc (.cells #[.int .i64 xc, .int .i64 xs, .int .i64 xm, .int .i64 xd] 88) = x3.w := ⟨⟨_, x2.below.alloc x2.below.size _⟩, rfl⟩
    have Z3 : Hid (Blk x3.w x2.w.heap.size #[.int .i64 xc, .int .i64 xs, .int .i64 xm, .int .i64 xd] 88) := by unfold Hid; rw [← hx3]; exact Blk.new _ _ _
    have HX3 := hideP hx3
    clear hx3
    go_upto_region 10 with fail
    rw [HX3.out]
    go_wp2_with fail
    refine (KA _ (HBl.out x3)).mono ?_
    rintro e w4 ⟨rfl, hb⟩
    have Z4 : Hid (Blk w4 x2.w.heap.size #[.int .i64 xc, .int .i64 xs, .int .i64 xm, .int .i64 xd] 88) := Z3.out.below hb Z3.out.lt
    obtain ⟨x4, rfl⟩ := x3.next hb
    clear hb HX3 Z3
    have z0 : x4.w.cell? ⟨x2.w.heap.size, 0, none⟩ = some (.int .i64 xc) := Z4.out.cell 0 rfl
    have z1 : x4.w.cell? ⟨x2.w.heap.size, 1, none⟩ = some (.int .i64 xs) := Z4.out.cell 1 rfl
    have z2 : x4.w.cell? ⟨x2.w.heap.size, 2, none⟩ = some (.int .i64 xm) := Z4.out.cell 2 rfl
    have z3 : x4.w.cell? ⟨x2.w.heap.size, 3, none⟩ = some (.int .i64 xd) := Z4.out.cell 3 rfl
    go_wp2_with fail
    refine (KM _ (HBl.out x4)).mono ?_
    rintro e w5 ⟨rfl, hb⟩
    obtain ⟨x5, rfl⟩ := x4.next hb
    clear hb
    go_wp2
    go_ret
    exact ⟨rfl, HBl.out x5⟩
  · have KK : ∀ W, Calls Tryz.prog 145 #[.agg #[.int .i64 2, .int .i64 0, .int .i64 0, .int .i64 0, .int .i64 0, .int .i64 0, .bool false, .string f, .int .i64 p]] W fun e w' => e = .returned (.iface 232 (.agg #[.string (feaOf f).name, .bool (feaOf f).mv, .int .i64 (feaOf f).off, .int .i64 (feaOf f).m, .int .i64 (feaOf f).d, .int .i64 p])) ∧ Below W.heap.size W w' := fun W => kindFea f p W
    have q1 := irF
    have q2 := idF
    by_cases hp : 0 ≤ patAt r.pats n
    · obtain rfl : ans = false := HQ.out.trans (by unfold whenIsB; rw [if_neg (show ¬ (2 : Int) = 0 by omega), if_pos hp])
      obtain ⟨e0, e1, e2, e3, ok, hpl⟩ := plain_tuple xc ⟨xc, xy, xs, xm, xd⟩
      have KPx : ∀ W, Below w.heap.size w W → Calls Tryz.prog 124 #[.agg #[.int .i64 xc, .int .i64 xy, .int .i64 xs, .int .i64 xm, .int .i64 xd]] W fun e w' => e = .returned (.tuple #[.agg #[.int .i64 e0, .int .i64 e1, .int .i64 e2, .int .i64 e3], .bool ok]) ∧ Below W.heap.size W w' := fun W hb => by rw [← hpl]; exact KPl ⟨xc, xy, xs, xm, xd⟩ W hb
      generalize patAt r.pats n = pt at *
      clear HQ HRD KPl HWH hpl
      go_wp2_with fail
      refine (KK _).mono ?_
      rintro e w1 ⟨rfl, hb⟩
      obtain ⟨x1, rfl⟩ := x0.next hb
      clear hb
      go_wp2_with fail
      refine (KPx _ (HBl.out x1)).mono ?_
      rintro e w2 ⟨rfl, hb⟩
      obtain ⟨x2, rfl⟩ := x1.next hb
      clear hb
      obtain ⟨x3, hx3⟩ : ∃ x3 : Later WA, x2.w.alloc (.cells #[.int .i64 e0, .int .i64 e1, .int .i64 e2, .int .i64 e3] 88) = x3.w := ⟨⟨_, x2.below.alloc x2.below.size _⟩, rfl⟩
      have Z3 : Hid (Blk x3.w x2.w.heap.size #[.int .i64 e0, .int .i64 e1, .int .i64 e2, .int .i64 e3] 88) := by unfold Hid; rw [← hx3]; exact Blk.new _ _ _
      have HX3 := hideP hx3
      clear hx3
      go_upto_region 10 with fail
      rw [HX3.out]
      go_wp2_with fail
      refine (KA _ (HBl.out x3)).mono ?_
      rintro e w4 ⟨rfl, hb⟩
      have Z4 : Hid (Blk w4 x2.w.heap.size #[.int .i64 e0, .int .i64 e1, .int .i64 e2, .int .i64 e3] 88) := Z3.out.below hb Z3.out.lt
      obtain ⟨x4, rfl⟩ := x3.next hb
      clear hb HX3 Z3
      go_wp2
      go_ret
      exact ⟨rfl, HBl.out x4⟩
    obtain ⟨Y, M, D, he, hc, hY, hM, hD, hok, hday⟩ := HRD hp
    simp only at hc hY hM hD
    subst hY hM hD
    have KPx : ∀ W, Below w.heap.size w W → Calls Tryz.prog 124 #[.agg #[.int .i64 xc, .int .i64 xy, .int .i64 xs, .int .i64 xm, .int .i64 xd]] W fun e w' => e = .returned (.tuple #[.agg #[.int .i64 xc, .int .i64 xs, .int .i64 xm, .int .i64 xd], .bool true]) ∧ Below W.heap.size W w' := fun W hb => by rw [← plainR_yes (c := xc) (x := ⟨xc, xy, xs, xm, xd⟩) (by rw [hc]; exact hok)]; exact KPl ⟨xc, xy, xs, xm, xd⟩ W hb
    obtain ⟨R, hR⟩ : ∃ R, R = (feaDay xc xs (feaOf f).name (feaOf f).mv (feaOf f).off (feaOf f).m (feaOf f).d + p == dayOf xc xs xm xd) := ⟨_, rfl⟩
    have KM : ∀ W, Below w.heap.size w W → Calls Tryz.prog 404 #[.agg #[.string (feaOf f).name, .bool (feaOf f).mv, .int .i64 (feaOf f).off, .int .i64 (feaOf f).m, .int .i64 (feaOf f).d, .int .i64 p], .agg #[.int .i64 xc, .int .i64 xs, .int .i64 xm, .int .i64 xd]] W fun e w' => e = .returned (.bool R) ∧ Below W.heap.size W w' := fun W hb => by rw [hR]; exact feaIsDate _ _ _ _ _ p xc xs xm xd W (Nat.le_trans (feaOf_len f) (by decide)) (hT.later hb) (by have := feaDay_b xc xs (feaOf f).name (feaOf f).mv (feaOf f).off (feaOf f).m (feaOf f).d; omega) (by have := feaDay_b xc xs (feaOf f).name (feaOf f).mv (feaOf f).off (feaOf f).m (feaOf f).d; omega) p1 p2
    obtain rfl : ans = R := HQ.out.trans (by unfold whenIsB; rw [if_neg (show ¬ (2 : Int) = 0 by omega), if_neg hp, if_neg (show ¬ (2 : Int) = 1 by omega), he, ← hc, hR, show dayOf xc xs xm xd = n + (segN r n).off by rw [hc]; exact hday])
    have hpn : patAt r.pats n < 0 := by omega
    generalize patAt r.pats n = pt at *
    clear HQ HRD KPl HWH hR he hc hok hday hp
    go_wp2_with fail
    refine (KK _).mono ?_
    rintro e w1 ⟨rfl, hb⟩
    obtain ⟨x1, rfl⟩ := x0.next hb
    clear hb
    go_wp2_with fail
    refine (KPx _ (HBl.out x1)).mono ?_
    rintro e w2 ⟨rfl, hb⟩
    obtain ⟨x2, rfl⟩ := x1.next hb
    clear hb
    obtain ⟨x3, hx3⟩ : ∃ x3 : Later WA, x2.w.alloc (.cells #[.int .i64 xc, .int .i64 xs, .int .i64 xm, .int .i64 xd] 88) = x3.w := ⟨⟨_, x2.below.alloc x2.below.size _⟩, rfl⟩
    have Z3 : Hid (Blk x3.w x2.w.heap.size #[.int .i64 xc, .int .i64 xs, .int .i64 xm, .int .i64 xd] 88) := by unfold Hid; rw [← hx3]; exact Blk.new _ _ _
    have HX3 := hideP hx3
    clear hx3
    go_upto_region 10 with fail
    rw [HX3.out]
    go_wp2_with fail
    refine (KA _ (HBl.out x3)).mono ?_
    rintro e w4 ⟨rfl, hb⟩
    have Z4 : Hid (Blk w4 x2.w.heap.size #[.int .i64 xc, .int .i64 xs, .int .i64 xm, .int .i64 xd] 88) := Z3.out.below hb Z3.out.lt
    obtain ⟨x4, rfl⟩ := x3.next hb
    clear hb HX3 Z3
    have z0 : x4.w.cell? ⟨x2.w.heap.size, 0, none⟩ = some (.int .i64 xc) := Z4.out.cell 0 rfl
    have z1 : x4.w.cell? ⟨x2.w.heap.size, 1, none⟩ = some (.int .i64 xs) := Z4.out.cell 1 rfl
    have z2 : x4.w.cell? ⟨x2.w.heap.size, 2, none⟩ = some (.int .i64 xm) := Z4.out.cell 2 rfl
    have z3 : x4.w.cell? ⟨x2.w.heap.size, 3, none⟩ = some (.int .i64 xd) := Z4.out.cell 3 rfl
    go_wp2_with fail
    refine (KM _ (HBl.out x4)).mono ?_
    rintro e w5 ⟨rfl, hb⟩
    obtain ⟨x5, rfl⟩ := x4.next hb
    clear hb
    go_wp2
    go_ret
    exact ⟨rfl, HBl.out x5⟩
end Go.Proofs.YtjojgfdfbkmlkaaGreatDoor.ctr
namespace Go.Proofs.YtjojgfdfbkmlkaaGreatDoor.ctr
open Go.RowKit
end Go.Proofs.YtjojgfdfbkmlkaaGreatDoor.ctr
namespace Go.Proofs
open Go.Shelf
open Go.RowKit Go.Lib in
def Tryz.lays189_ren : Go.Shelf.Ren := ⟨fun | 189 => 71 | 125 => 132 | 257 => 131 | 128 => 205 | 129 => 206 | 294 => 196 | 295 => 197 | 296 => 198 | 297 => 199 | 298 => 200 | 299 => 201 | 216 => 202 | 300 => 203 | 301 => 204 | 328 => 252 | 329 => 253 | 330 => 254 | 331 => 255 | 332 => 256 | 215 => 257 | 343 => 300 | n => n, fun | 28 => 30 | 3 => 3 | 46 => 158 | 0 => 0 | 51 => 217 | 53 => 219 | 4 => 4 | 183 => 211 | 182 => 210 | 131 => 144 | 5 => 5 | 9 => 9 | 218 => 266 | 222 => 270 | 228 => 312 | 229 => 114 | n => n, fun | n => n⟩
theorem Tryz.lays189 : Go.Proofs.Lays.n189 Tryz.prog Tryz.lays189_ren := {
  mixed := by kernel_rfl
  f125 := Tryz.func132.trans (congrArg some (by kernel_rfl))
  f128 := Tryz.func205.trans (congrArg some (by kernel_rfl))
  f129 := Tryz.func206.trans (congrArg some (by kernel_rfl))
  f189 := Tryz.func71.trans (congrArg some (by kernel_rfl))
  f215 := Tryz.func257.trans (congrArg some (by kernel_rfl))
  f216 := Tryz.func202.trans (congrArg some (by kernel_rfl))
  f257 := Tryz.func131.trans (congrArg some (by kernel_rfl))
  f294 := Tryz.func196.trans (congrArg some (by kernel_rfl))
  f295 := Tryz.func197.trans (congrArg some (by kernel_rfl))
  f296 := Tryz.func198.trans (congrArg some (by kernel_rfl))
  f297 := Tryz.func199.trans (congrArg some (by kernel_rfl))
  f298 := Tryz.func200.trans (congrArg some (by kernel_rfl))
  f299 := Tryz.func201.trans (congrArg some (by kernel_rfl))
  f300 := Tryz.func203.trans (congrArg some (by kernel_rfl))
  f301 := Tryz.func204.trans (congrArg some (by kernel_rfl))
  f328 := Tryz.func252.trans (congrArg some (by kernel_rfl))
  f329 := Tryz.func253.trans (congrArg some (by kernel_rfl))
  f330 := Tryz.func254.trans (congrArg some (by kernel_rfl))
  f331 := Tryz.func255.trans (congrArg some (by kernel_rfl))
  f332 := Tryz.func256.trans (congrArg some (by kernel_rfl))
  f343 := Tryz.func300.trans (congrArg some (by kernel_rfl))
  t0 := Tryz.underlying0
  a0 := Tryz.isAgg0
  z0 := Tryz.sizeOf0
  v0 := Tryz.zeroValue0
  t3 := Tryz.underlying3
  a3 := Tryz.isAgg3
  z3 := Tryz.sizeOf3
  v3 := Tryz.zeroValue3
  t4 := Tryz.underlying4
  a4 := Tryz.isAgg4
  z4 := Tryz.sizeOf4
  v4 := Tryz.zeroValue4
  t5 := Tryz.underlying5
  a5 := Tryz.isAgg5
  z5 := Tryz.sizeOf5
  v5 := Tryz.zeroValue5
  t9 := Tryz.underlying9
  a9 := Tryz.isAgg9
  z9 := Tryz.sizeOf9
  v9 := Tryz.zeroValue9
  t28 := Tryz.underlying30
  a28 := Tryz.isAgg30
  z28 := Tryz.sizeOf30
  v28 := Tryz.zeroValue30
  t46 := Tryz.underlying158
  a46 := Tryz.isAgg158
  z46 := Tryz.sizeOf158
  v46 := Tryz.zeroValue158
  t51 := Tryz.underlying217
  a51 := Tryz.isAgg217
  z51 := Tryz.sizeOf217
  v51 := Tryz.zeroValue217
  t53 := Tryz.underlying219
  a53 := Tryz.isAgg219
  z53 := Tryz.sizeOf219
  v53 := Tryz.zeroValue219
  t131 := Tryz.underlying144
  a131 := Tryz.isAgg144
  z131 := Tryz.sizeOf144
  v131 := Tryz.zeroValue144
  t182 := Tryz.underlying210
  a182 := Tryz.isAgg210
  z182 := Tryz.sizeOf210
  v182 := Tryz.zeroValue210
  t183 := Tryz.underlying211
  a183 := Tryz.isAgg211
  z183 := Tryz.sizeOf211
  v183 := Tryz.zeroValue211
  t218 := Tryz.underlying266
  a218 := Tryz.isAgg266
  z218 := Tryz.sizeOf266
  v218 := Tryz.zeroValue266
  t222 := Tryz.underlying270
  a222 := Tryz.isAgg270
  z222 := Tryz.sizeOf270
  v222 := Tryz.zeroValue270
  t228 := Tryz.underlying312
  a228 := Tryz.isAgg312
  z228 := Tryz.sizeOf312
  v228 := Tryz.zeroValue312
  t229 := Tryz.underlying114
  a229 := Tryz.isAgg114
  z229 := Tryz.sizeOf114
  v229 := Tryz.zeroValue114 }
open Go.Sort Go.RowKit in
theorem Tryz.slices_Sort_int (blk off cap : Nat) (zs : List Int) (w : World) (hH : Holds (Value.int .i64) w blk off zs.toArray) (hblk : blk < w.heap.size) (hsz : zs.length < 4611686018427387904) :
    Calls Tryz.prog 71 #[.slice (some ⟨blk, off, none⟩) zs.length cap] w fun e w' =>
      e = .returned (.tuple #[]) ∧ ∃ n os, w' = grow (putRow (Value.int .i64) (Sort.ahead w n) blk off (zs.mergeSort fun x y => decide (x ≤ y)).toArray) os := Any.slices_Sort_int Tryz.lays189 blk off cap zs w hH hblk hsz
open Go.RowKit Go.Lib in
def Tryz.laysNm220_ren : Go.Shelf.Ren := ⟨fun | 20 => 72 | n => n, fun | 22 => 30 | 3 => 3 | 4 => 4 | 0 => 0 | n => n, fun | n => n⟩
theorem Tryz.laysNm220 : Go.Proofs.Lays2.n20 Tryz.prog Tryz.laysNm220_ren := {
  mixed := by kernel_rfl
  f20 := Tryz.func72.trans (congrArg some (by kernel_rfl))
  t0 := Tryz.underlying0
  a0 := Tryz.isAgg0
  z0 := Tryz.sizeOf0
  v0 := Tryz.zeroValue0
  t3 := Tryz.underlying3
  a3 := Tryz.isAgg3
  z3 := Tryz.sizeOf3
  v3 := Tryz.zeroValue3
  t4 := Tryz.underlying4
  a4 := Tryz.isAgg4
  z4 := Tryz.sizeOf4
  v4 := Tryz.zeroValue4
  t22 := Tryz.underlying30
  a22 := Tryz.isAgg30
  z22 := Tryz.sizeOf30
  v22 := Tryz.zeroValue30
  i3 := by kernel_rfl }
open Go.RowKit Go.Lib Go.Sort in
theorem Tryz.slices_Compact_int (blk off cap : Nat) (zs : List Int) (w : World) (hH : Holds (Value.int .i64) w blk off zs.toArray) (hsz : zs.length ≤ 9223372036854775807) (hcap : zs.length ≤ cap) :
    Calls Tryz.prog 72 #[.slice (some ⟨blk, off, none⟩) zs.length cap] w fun e w' => e = .returned (.slice (some ⟨blk, off, none⟩) (Lib.compact zs).length cap) ∧ ∃ q, w' = putRow (Value.int .i64) (Sort.ahead w q) blk off (Lib.compact zs ++ List.replicate (zs.length - (Lib.compact zs).length) 0).toArray := Any.slices_Compact_int Tryz.laysNm220 blk off cap zs w hH hsz hcap
open Go.RowKit Go.Lib Go.Sort in
theorem Tryz.slices_Compact_int_empty (a : Option Addr) (cap : Nat) (w : World) :
    Calls Tryz.prog 72 #[.slice a 0 cap] w fun e w' => e = .returned (.slice a 0 cap) ∧ w' = w := Any.slices_Compact_int_empty Tryz.laysNm220 a cap w
open Go.RowKit Go.Sort in
theorem Tryz.slices_Sort_int_none (p : Option Addr) (cap : Nat) (w : World) :
    Calls Tryz.prog 71 #[.slice p 0 cap] w fun e w' => e = .returned (.tuple #[]) ∧ w' = w := Any.slices_Sort_int_none Tryz.lays189 p cap w
end Go.Proofs
namespace Go.Proofs.YtjojgfdfbkmlkaaGreatDoor.ctr
open Go.RowKit
set_option linter.unusedSimpArgs false
section
variable {P : Program} {ops : Array Oper} {Q : Exit → Act → World → Prop}
theorem op_of {i : Nat} {o : Oper} {K : Act → World → Prop} {a : Act} {w : World} (hi : ops[i]? = some o) (hw : Region.wanted o (yielded ops a.tmps) = true) (h : Oper.wp P o a w K Q) : wpOp P ops Q i K a w := by
  unfold wpOp
  simp only [hi, hw, if_true]
  exact Or.inl h
theorem run_append_nilr (w : World) (t ty e : TypeId) (i : TypeInfo) (ht : P.underlying t = some (.slice e)) (hi : P.info? e = some i) {base size : Nat} {v : Value} {n c : Nat} {xs : List Value} (h : w.ownsRow base e size v n xs) : (Builtin.append_ #[t, t] ty #[v, .slice none 0 c]).run P w = .ok v w := by
  rcases h.2 with ⟨rfl, h0⟩ | ⟨g, cap, cur, rfl, hb, hh, hcap, _⟩
  · simp [Builtin.append_, run_underlying ht, sizeOf, typeInfo, hi, Builtin.lenOf, Builtin.firstCells]
  · simp [Builtin.append_, run_underlying ht, sizeOf, typeInfo, hi, Builtin.lenOf, hcap, Builtin.firstCells, storeCells]
theorem op_append {i : Nat} {o : Oper} {K : Act → World → Prop} {a : Act} {w : World} (hi : ops[i]? = some o) (hw : Region.wanted o (yielded ops a.tmps) = true) (s x : Operand) (t : TypeId) (ho : o.op = .call { callee := .builtin .append, args := #[s, x], argTypes := #[t, t] })
    (base : Nat) (e : TypeId) (ti : TypeInfo) (z : Value) (size bytes : Nat) (ht : P.underlying t = some (.slice e)) (hti : P.info? e = some ti) (hz : ti.zero = some z)
    (hsize : ti.size = size) (hby : ti.bytes = bytes) (hzs : z.cells.size = size) (hsz : 0 < size)
    (v : Value) (n : Nat) (xs : List Value) (hs : a.eval s = v) (hown : w.ownsRow base e size v n xs)
    (ad : Option Addr) (m c : Nat) (news : List Value) (hx : a.eval x = .slice ad m c) (hl : news.length = m * size) (hm : ad = none → m = 0) (hnews : ∀ ad', ad = some ad' → ∀ j u, news[j]? = some u → w.cell? (ad'.add j) = some u) (h1 : ∀ u ∈ news, u.oneCell' = true)
    (h63 : n + m ≤ maxLen) (hbytes : (n + m) * bytes ≤ 140737488355328) (hbase : base ≤ w.heap.size)
    (h : ∀ v' w', w'.ownsRow base e size v' (n + m) (xs ++ news) → w.grownBy w' v.ownBlock → K (a.put o.dst v') w') : wpOp P ops Q i K a w := by
  refine op_of hi hw ?_
  cases ad with
  | none =>
    obtain rfl := hm rfl
    obtain rfl : news = [] := List.eq_nil_of_length_eq_zero (by simpa using hl)
    unfold Oper.wp execOp
    simp only [ho, resolve, invoke, builtin, Sem.run_bind, Sem.run_pure, Result.andThen_ok, List.map_toArray, List.map_cons, List.map_nil, hs, hx, run_append_nilr w t o.type e ti ht hti hown]
    refine h _ _ (by rw [Nat.add_zero, List.append_nil]; exact hown) ?_
    exact ⟨rfl, rfl, rfl, Nat.le_refl _, fun _ _ _ => rfl⟩
  | some ad => exact wp_append_own w s x t ho base e ti z size bytes ht hti hz hsize hby hzs hsz v n xs hs hown ad m c news hx hl (hnews ad rfl) h1 h63 hbytes hbase fun v' w' h2 h3 _ => h v' w' h2 h3
end
theorem own_reads {W : World} {base size n : Nat} {T : TypeId} {v : Value} {xs : List Value} (h : W.ownsRow base T size v n xs) : ∃ ad c, v = .slice ad n c ∧ (ad = none → n = 0) ∧ ∀ ad', ad = some ad' → ∀ j u, xs[j]? = some u → W.cell? (ad'.add j) = some u := by
  rcases h.2 with ⟨rfl, h0⟩ | ⟨g, cap, cur, rfl, _⟩
  · exact ⟨none, 0, by rw [h0], fun _ => h0, fun _ e => by cases e⟩
  · exact ⟨_, cap, rfl, (fun e => by cases e), (fun ad' e j u hj => by cases e; exact h.cells (g := g) rfl j u hj)⟩
set_option maxHeartbeats 4000000 in
theorem cloSaid (p1 p2 : Nat) (v1 v2 v3 : Value) (r : Rgm) (k m d a b c : Int) (t : Bool) (f : ByteArray) (p y so ca : Int) (n : Int) (w : World)
    (h : GRow w (.agg #[.string r.name, .int .i64 r.fr, .int .i64 r.to, v1, v2, v3, .int .i64 r.rule]) r) (hr : regimeB r = true) (h1 : r.fr ≤ n) (h2 : n ≤ r.to) (hs : sayB ⟨⟨k, m, d, ⟨a, b, c, t⟩, f, p⟩, y, so, ca⟩ = true) (hT : Tab w) (hP : Blk w p1 #[.string r.name, .int .i64 r.fr, .int .i64 r.to, v1, v2, v3, .int .i64 r.rule] 36) (hQ : Blk w p2 #[.int .i64 k, .int .i64 m, .int .i64 d, .int .i64 a, .int .i64 b, .int .i64 c, .bool t, .string f, .int .i64 p, .int .i64 y, .int .i64 so, .int .i64 ca] 59) :
    Calls Tryz.prog 90 #[.int .i64 n, .pointer (some ⟨p1, 0, none⟩), .pointer (some ⟨p2, 0, none⟩)] w fun e w' => e = .returned (.bool (!saidB r ⟨⟨k, m, d, ⟨a, b, c, t⟩, f, p⟩, y, so, ca⟩ n)) ∧ Below w.heap.size w w' := by
  have K1 : ∀ x : Later w, Calls Tryz.prog 70 #[.agg #[.string r.name, .int .i64 r.fr, .int .i64 r.to, v1, v2, v3, .int .i64 r.rule], .int .i64 n] x.w fun e w' => e = .returned (rdgV (rdgOn r n)) ∧ Below x.w.heap.size x.w w' := fun x => implReadingOn _ r n x.w (h.below x.below) hr h1 h2 (hT.later x.below)
  have K2 : ∀ x : Later w, Calls Tryz.prog 88 #[.agg #[.string r.name, .int .i64 r.fr, .int .i64 r.to, v1, v2, v3, .int .i64 r.rule], .agg #[.int .i64 k, .int .i64 m, .int .i64 d, .int .i64 a, .int .i64 b, .int .i64 c, .bool t, .string f, .int .i64 p, .int .i64 y, .int .i64 so, .int .i64 ca], .int .i64 n, rdgV (rdgOn r n)] x.w fun e w' => e = .returned (.bool (saidB r ⟨⟨k, m, d, ⟨a, b, c, t⟩, f, p⟩, y, so, ca⟩ n)) ∧ Below x.w.heap.size x.w w' := fun x => implIsSaid _ r ⟨⟨k, m, d, ⟨a, b, c, t⟩, f, p⟩, y, so, ca⟩ n x.w (h.below x.below) hr h1 h2 hs (hT.later x.below)
  have r0 : ∀ x : Later w, x.w.cell? ⟨p1, 0, none⟩ = some (.string r.name) := fun x => (hP.later x).cell 0 rfl
  have r1 : ∀ x : Later w, x.w.cell? ⟨p1, 1, none⟩ = some (.int .i64 r.fr) := fun x => (hP.later x).cell 1 rfl
  have r2 : ∀ x : Later w, x.w.cell? ⟨p1, 2, none⟩ = some (.int .i64 r.to) := fun x => (hP.later x).cell 2 rfl
  have r3 : ∀ x : Later w, x.w.cell? ⟨p1, 3, none⟩ = some (v1) := fun x => (hP.later x).cell 3 rfl
  have r4 : ∀ x : Later w, x.w.cell? ⟨p1, 4, none⟩ = some (v2) := fun x => (hP.later x).cell 4 rfl
  have r5 : ∀ x : Later w, x.w.cell? ⟨p1, 5, none⟩ = some (v3) := fun x => (hP.later x).cell 5 rfl
  have r6 : ∀ x : Later w, x.w.cell? ⟨p1, 6, none⟩ = some (.int .i64 r.rule) := fun x => (hP.later x).cell 6 rfl
  have s0 : ∀ x : Later w, x.w.cell? ⟨p2, 0, none⟩ = some (.int .i64 k) := fun x => (hQ.later x).cell 0 rfl
  have s1 : ∀ x : Later w, x.w.cell? ⟨p2, 1, none⟩ = some (.int .i64 m) := fun x => (hQ.later x).cell 1 rfl
  have s2 : ∀ x : Later w, x.w.cell? ⟨p2, 2, none⟩ = some (.int .i64 d) := fun x => (hQ.later x).cell 2 rfl
  have s3 : ∀ x : Later w, x.w.cell? ⟨p2, 3, none⟩ = some (.int .i64 a) := fun x => (hQ.later x).cell 3 rfl
  have s4 : ∀ x : Later w, x.w.cell? ⟨p2, 4, none⟩ = some (.int .i64 b) := fun x => (hQ.later x).cell 4 rfl
  have s5 : ∀ x : Later w, x.w.cell? ⟨p2, 5, none⟩ = some (.int .i64 c) := fun x => (hQ.later x).cell 5 rfl
  have s6 : ∀ x : Later w, x.w.cell? ⟨p2, 6, none⟩ = some (.bool t) := fun x => (hQ.later x).cell 6 rfl
  have s7 : ∀ x : Later w, x.w.cell? ⟨p2, 7, none⟩ = some (.string f) := fun x => (hQ.later x).cell 7 rfl
  have s8 : ∀ x : Later w, x.w.cell? ⟨p2, 8, none⟩ = some (.int .i64 p) := fun x => (hQ.later x).cell 8 rfl
  have s9 : ∀ x : Later w, x.w.cell? ⟨p2, 9, none⟩ = some (.int .i64 y) := fun x => (hQ.later x).cell 9 rfl
  have s10 : ∀ x : Later w, x.w.cell? ⟨p2, 10, none⟩ = some (.int .i64 so) := fun x => (hQ.later x).cell 10 rfl
  have s11 : ∀ x : Later w, x.w.cell? ⟨p2, 11, none⟩ = some (.int .i64 ca) := fun x => (hQ.later x).cell 11 rfl
  clear h hr h1 h2 hs hT hP hQ
  generalize saidB r ⟨⟨k, m, d, ⟨a, b, c, t⟩, f, p⟩, y, so, ca⟩ n = R at *
  generalize rdgOn r n = x at *
  obtain ⟨xc, xy, xs, xm, xd⟩ := x
  go_enter Tryz.func90, Tryz.ntmps90
  go_wp2_with fail
  refine wp_region_later (W := w) (Below.refl _ _) (by kernel_rfl) (by kernel_rfl) ?_
  repeat (go_big_quiet_step (first | (go_at_call 70; exact calls_later (K1 _)) | (go_at_call 88; exact calls_later (K2 _)) | fail))
  refine wpQuiet_nil ?_
  intro _ hw'
  obtain ⟨x1, rfl⟩ := hw'
  go_wp2
  go_ret
  exact ⟨rfl, x1.below⟩
set_option maxHeartbeats 2000000 in
theorem delNone (C : Value) (cap : Nat) (w : World) : Calls Tryz.prog 68 #[.slice none 0 cap, C] w fun e w' => e = .returned (.slice none 0 cap) ∧ w' = w := by
  have KX : Calls Tryz.prog 126 #[.slice none 0 cap, C] w fun e w' => e = .returned (.int .i64 (-1)) ∧ w' = w := by
    go_enter Tryz.func126, Tryz.ntmps126
    go_wp2_with fail
    go_loopw [5, 8] (fun _ i wr => i = .int .i64 0 ∧ wr = w) (fun _ _ _ => 0)
    case atStart => exact ⟨rfl, rfl⟩
    case round =>
      obtain ⟨rfl, rfl⟩ := hrel
      go_wp2
      go_ret
      exact ⟨rfl, rfl⟩
  go_enter Tryz.func68, Tryz.ntmps68
  go_wp2_with fail
  refine KX.mono ?_
  rintro e w1 ⟨rfl, rfl⟩
  go_wp2
  go_ret
  exact ⟨rfl, rfl⟩
set_option maxRecDepth 100000 in
set_option maxHeartbeats 8000000 in
theorem implDaysSaid (v : Value) (r : Rgm) (s : Say) (q : Addr) (w : World) (h : GRow w v r) (ht : r.to ≤ 9223372036854775807) (hE : ErrT w) (hT : Tab w) (hS : Sent w q) : Calls Tryz.prog 32 #[v, sayV s] w fun e w' => ∃ o, e = .returned o ∧ MovRow w w' o (daysSaid r s) ∧ Below w.heap.size w w' := by
  obtain ⟨i0, hi, hz0, hz1, hz2⟩ := info_parts info_int
  have hG := h
  obtain ⟨v1, v2, v3, rfl, _⟩ := h
  obtain ⟨⟨k, m, d, ⟨a, b, c, t⟩, f, p⟩, y, so, ca⟩ := s
  obtain ⟨W0, hW0, hD, hR, hBl⟩ := two_box w #[.string r.name, .int .i64 r.fr, .int .i64 r.to, v1, v2, v3, .int .i64 r.rule] #[.int .i64 k, .int .i64 m, .int .i64 d, .int .i64 a, .int .i64 b, .int .i64 c, .bool t, .string f, .int .i64 p, .int .i64 y, .int .i64 so, .int .i64 ca] 36 59
  have cr0 : ∀ x : Later W0, x.w.cell? ⟨w.heap.size, 0, none⟩ = some (.string r.name) := fun x => (hD x).cell 0 rfl
  have cr1 : ∀ x : Later W0, x.w.cell? ⟨w.heap.size, 1, none⟩ = some (.int .i64 r.fr) := fun x => (hD x).cell 1 rfl
  have cr2 : ∀ x : Later W0, x.w.cell? ⟨w.heap.size, 2, none⟩ = some (.int .i64 r.to) := fun x => (hD x).cell 2 rfl
  have cr3 : ∀ x : Later W0, x.w.cell? ⟨w.heap.size, 3, none⟩ = some (v1) := fun x => (hD x).cell 3 rfl
  have cr4 : ∀ x : Later W0, x.w.cell? ⟨w.heap.size, 4, none⟩ = some (v2) := fun x => (hD x).cell 4 rfl
  have cr5 : ∀ x : Later W0, x.w.cell? ⟨w.heap.size, 5, none⟩ = some (v3) := fun x => (hD x).cell 5 rfl
  have cr6 : ∀ x : Later W0, x.w.cell? ⟨w.heap.size, 6, none⟩ = some (.int .i64 r.rule) := fun x => (hD x).cell 6 rfl
  have cs0 : ∀ x : Later W0, x.w.cell? ⟨w.heap.size + 1, 0, none⟩ = some (.int .i64 k) := fun x => (hR x).cell 0 rfl
  have cs1 : ∀ x : Later W0, x.w.cell? ⟨w.heap.size + 1, 1, none⟩ = some (.int .i64 m) := fun x => (hR x).cell 1 rfl
  have cs2 : ∀ x : Later W0, x.w.cell? ⟨w.heap.size + 1, 2, none⟩ = some (.int .i64 d) := fun x => (hR x).cell 2 rfl
  have cs3 : ∀ x : Later W0, x.w.cell? ⟨w.heap.size + 1, 3, none⟩ = some (.int .i64 a) := fun x => (hR x).cell 3 rfl
  have cs4 : ∀ x : Later W0, x.w.cell? ⟨w.heap.size + 1, 4, none⟩ = some (.int .i64 b) := fun x => (hR x).cell 4 rfl
  have cs5 : ∀ x : Later W0, x.w.cell? ⟨w.heap.size + 1, 5, none⟩ = some (.int .i64 c) := fun x => (hR x).cell 5 rfl
  have cs6 : ∀ x : Later W0, x.w.cell? ⟨w.heap.size + 1, 6, none⟩ = some (.bool t) := fun x => (hR x).cell 6 rfl
  have cs7 : ∀ x : Later W0, x.w.cell? ⟨w.heap.size + 1, 7, none⟩ = some (.string f) := fun x => (hR x).cell 7 rfl
  have cs8 : ∀ x : Later W0, x.w.cell? ⟨w.heap.size + 1, 8, none⟩ = some (.int .i64 p) := fun x => (hR x).cell 8 rfl
  have cs9 : ∀ x : Later W0, x.w.cell? ⟨w.heap.size + 1, 9, none⟩ = some (.int .i64 y) := fun x => (hR x).cell 9 rfl
  have cs10 : ∀ x : Later W0, x.w.cell? ⟨w.heap.size + 1, 10, none⟩ = some (.int .i64 so) := fun x => (hR x).cell 10 rfl
  have cs11 : ∀ x : Later W0, x.w.cell? ⟨w.heap.size + 1, 11, none⟩ = some (.int .i64 ca) := fun x => (hR x).cell 11 rfl
  have KO : ∀ x : Later W0, Calls Tryz.prog 65 #[.agg #[.string r.name, .int .i64 r.fr, .int .i64 r.to, v1, v2, v3, .int .i64 r.rule]] x.w fun e w' => e = .returned (.bool (regimeB r)) ∧ Below x.w.heap.size x.w w' := fun x => implRegimeOk _ r q x.w (hG.below (hBl x)) ht (hE.below (hBl x)) (hT.later (hBl x)) (hS.later (hBl x))
  have KY : ∀ x : Later W0, Calls Tryz.prog 87 #[.agg #[.int .i64 k, .int .i64 m, .int .i64 d, .int .i64 a, .int .i64 b, .int .i64 c, .bool t, .string f, .int .i64 p, .int .i64 y, .int .i64 so, .int .i64 ca]] x.w fun e w' => e = .returned (.bool (sayB ⟨⟨k, m, d, ⟨a, b, c, t⟩, f, p⟩, y, so, ca⟩)) ∧ Below x.w.heap.size x.w w' := fun x => implSayingOk ⟨⟨k, m, d, ⟨a, b, c, t⟩, f, p⟩, y, so, ca⟩ x.w (hT.later (hBl x))
  have HW0 := hideP hW0
  have HBl := hideP hBl
  have HB0 : Hid (Below w.heap.size w W0) := hBl ⟨W0, Below.refl _ _⟩
  by_cases hO : regimeB r = true
  case neg =>
    have hO' : regimeB r = false := by simpa using hO
    rw [show daysSaid r ⟨⟨k, m, d, ⟨a, b, c, t⟩, f, p⟩, y, so, ca⟩ = [] by unfold daysSaid; rw [if_neg (fun q => hO q.1)]]
    rw [hO'] at KO
    clear KY hO hO' hD hR hBl hG hE hT hS ht hW0
    go_enter Tryz.func32, Tryz.ntmps32
    go_wp2_with fail
    rw [← HW0.out]
    refine (KO ⟨W0, Below.refl _ _⟩).mono ?_
    rintro e w1 ⟨rfl, hb⟩
    obtain ⟨x1, rfl⟩ := Later.of hb
    clear hb
    go_wp2
    go_ret
    exact ⟨_, rfl, movRow_nil _ _, HBl.out x1⟩
  by_cases hY : sayB ⟨⟨k, m, d, ⟨a, b, c, t⟩, f, p⟩, y, so, ca⟩ = true
  case neg =>
    have hY' : sayB ⟨⟨k, m, d, ⟨a, b, c, t⟩, f, p⟩, y, so, ca⟩ = false := by simpa using hY
    rw [show daysSaid r ⟨⟨k, m, d, ⟨a, b, c, t⟩, f, p⟩, y, so, ca⟩ = [] by unfold daysSaid; rw [if_neg (fun q => hY q.2)]]
    rw [hO] at KO
    rw [hY'] at KY
    clear hO hY hY' hD hR hBl hG hE hT hS ht hW0
    go_enter Tryz.func32, Tryz.ntmps32
    go_wp2_with fail
    rw [← HW0.out]
    refine (KO ⟨W0, Below.refl _ _⟩).mono ?_
    rintro e w1 ⟨rfl, hb⟩
    obtain ⟨x1, rfl⟩ := Later.of hb
    clear hb
    go_wp2_with fail
    refine (KY x1).mono ?_
    rintro e w2 ⟨rfl, hb⟩
    obtain ⟨x2, rfl⟩ := x1.next hb
    clear hb
    go_wp2
    go_ret
    exact ⟨_, rfl, movRow_nil _ _, HBl.out x2⟩
  have KW : Hid (∀ W, Below W0.heap.size W0 W → Calls Tryz.prog 89 #[.agg #[.string r.name, .int .i64 r.fr, .int .i64 r.to, v1, v2, v3, .int .i64 r.rule], .agg #[.int .i64 k, .int .i64 m, .int .i64 d, .int .i64 a, .int .i64 b, .int .i64 c, .bool t, .string f, .int .i64 p, .int .i64 y, .int .i64 so, .int .i64 ca]] W fun e w' => ∃ o, e = .returned o ∧ ∃ xs, ISt W o xs w' ∧ WD r ⟨⟨k, m, d, ⟨a, b, c, t⟩, f, p⟩, y, so, ca⟩ r.segs.length 0 xs) := fun W hb => implWhenDays _ r ⟨⟨k, m, d, ⟨a, b, c, t⟩, f, p⟩, y, so, ca⟩ W (hG.below (hBl ⟨W, hb⟩)) hO hY (hT.later (hBl ⟨W, hb⟩))
  have hpl := right_pats hO
  have hsl := right_segs hO
  have KP : Hid (∀ W, Below W0.heap.size W0 W → Calls Tryz.prog 67 #[.agg #[.string r.name, .int .i64 r.fr, .int .i64 r.to, v1, v2, v3, .int .i64 r.rule]] W fun e w' => ∃ o, e = .returned o ∧ ISt W o (r.pats.map Pat.day) w') := fun W hb => implPatched _ r W (hG.below (hBl ⟨W, hb⟩)) hpl
  have KC : Hid (∀ V n, Below W0.heap.size W0 V → r.fr ≤ n → n ≤ r.to → Calls Tryz.prog 90 #[.int .i64 n, .pointer (some ⟨w.heap.size, 0, none⟩), .pointer (some ⟨w.heap.size + 1, 0, none⟩)] V fun e w' => e = .returned (.bool (!saidB r ⟨⟨k, m, d, ⟨a, b, c, t⟩, f, p⟩, y, so, ca⟩ n)) ∧ Below V.heap.size V w') := fun V n hb h1 h2 => cloSaid w.heap.size (w.heap.size + 1) v1 v2 v3 r k m d a b c t f p y so ca n V (hG.below (hBl ⟨V, hb⟩)) hO h1 h2 hY (hT.later (hBl ⟨V, hb⟩)) (hD ⟨V, hb⟩) (hR ⟨V, hb⟩)
  have HF : Hid (∀ xs, WD r ⟨⟨k, m, d, ⟨a, b, c, t⟩, f, p⟩, y, so, ca⟩ r.segs.length 0 xs → Lib.compact (((xs ++ r.pats.map Pat.day).filter (saidB r ⟨⟨k, m, d, ⟨a, b, c, t⟩, f, p⟩, y, so, ca⟩)).mergeSort (fun x y => decide (x ≤ y))) = daysSaid r ⟨⟨k, m, d, ⟨a, b, c, t⟩, f, p⟩, y, so, ca⟩) := fun xs h => days_final hO hY h
  have HIn : Hid (∀ xs, WD r ⟨⟨k, m, d, ⟨a, b, c, t⟩, f, p⟩, y, so, ca⟩ r.segs.length 0 xs → ∀ z, z ∈ xs ++ r.pats.map Pat.day → r.fr ≤ z ∧ z ≤ r.to) := fun xs h z hz => by
    rcases List.mem_append.1 hz with q | q
    · exact wd_in hO h q
    · exact pat_days hO q
  have HLn : Hid (∀ xs, WD r ⟨⟨k, m, d, ⟨a, b, c, t⟩, f, p⟩, y, so, ca⟩ r.segs.length 0 xs → xs.length ≤ 60) := fun xs h => by have := h.2.2; omega
  have hpd : (r.pats.map Pat.day).length = r.pats.length := List.length_map ..
  rw [hO] at KO
  rw [hY] at KY
  have KE : Hid (∀ V, Below W0.heap.size W0 V → V.cell? ⟨w.heap.size, 0, none⟩ = some (.string r.name) ∧ V.cell? ⟨w.heap.size, 1, none⟩ = some (.int .i64 r.fr) ∧ V.cell? ⟨w.heap.size, 2, none⟩ = some (.int .i64 r.to) ∧ V.cell? ⟨w.heap.size, 3, none⟩ = some (v1) ∧ V.cell? ⟨w.heap.size, 4, none⟩ = some (v2) ∧ V.cell? ⟨w.heap.size, 5, none⟩ = some (v3) ∧ V.cell? ⟨w.heap.size, 6, none⟩ = some (.int .i64 r.rule) ∧ V.cell? ⟨w.heap.size + 1, 0, none⟩ = some (.int .i64 k) ∧ V.cell? ⟨w.heap.size + 1, 1, none⟩ = some (.int .i64 m) ∧ V.cell? ⟨w.heap.size + 1, 2, none⟩ = some (.int .i64 d) ∧ V.cell? ⟨w.heap.size + 1, 3, none⟩ = some (.int .i64 a) ∧ V.cell? ⟨w.heap.size + 1, 4, none⟩ = some (.int .i64 b) ∧ V.cell? ⟨w.heap.size + 1, 5, none⟩ = some (.int .i64 c) ∧ V.cell? ⟨w.heap.size + 1, 6, none⟩ = some (.bool t) ∧ V.cell? ⟨w.heap.size + 1, 7, none⟩ = some (.string f) ∧ V.cell? ⟨w.heap.size + 1, 8, none⟩ = some (.int .i64 p) ∧ V.cell? ⟨w.heap.size + 1, 9, none⟩ = some (.int .i64 y) ∧ V.cell? ⟨w.heap.size + 1, 10, none⟩ = some (.int .i64 so) ∧ V.cell? ⟨w.heap.size + 1, 11, none⟩ = some (.int .i64 ca)) := fun V hb => ⟨cr0 ⟨V, hb⟩, cr1 ⟨V, hb⟩, cr2 ⟨V, hb⟩, cr3 ⟨V, hb⟩, cr4 ⟨V, hb⟩, cr5 ⟨V, hb⟩, cr6 ⟨V, hb⟩, cs0 ⟨V, hb⟩, cs1 ⟨V, hb⟩, cs2 ⟨V, hb⟩, cs3 ⟨V, hb⟩, cs4 ⟨V, hb⟩, cs5 ⟨V, hb⟩, cs6 ⟨V, hb⟩, cs7 ⟨V, hb⟩, cs8 ⟨V, hb⟩, cs9 ⟨V, hb⟩, cs10 ⟨V, hb⟩, cs11 ⟨V, hb⟩⟩
  clear hO hY hD hR hBl hG hE hT hS ht hW0
  generalize saidB r ⟨⟨k, m, d, ⟨a, b, c, t⟩, f, p⟩, y, so, ca⟩ = sB at *
  generalize daysSaid r ⟨⟨k, m, d, ⟨a, b, c, t⟩, f, p⟩, y, so, ca⟩ = ds at *
  generalize WD r ⟨⟨k, m, d, ⟨a, b, c, t⟩, f, p⟩, y, so, ca⟩ r.segs.length 0 = wd at *
  generalize r.pats.map Pat.day = pd at *
  go_enter Tryz.func32, Tryz.ntmps32
  go_wp2_with fail
  rw [← HW0.out]
  refine (KO ⟨W0, Below.refl _ _⟩).mono ?_
  rintro e w1 ⟨rfl, hb⟩
  obtain ⟨x1, rfl⟩ := Later.of hb
  clear hb
  go_wp2_with fail
  refine (KY x1).mono ?_
  rintro e w2 ⟨rfl, hb⟩
  obtain ⟨x2, rfl⟩ := x1.next hb
  clear hb KO KY
  go_upto_region 3 with fail
  have B2 : Hid (Below W0.heap.size W0 x2.w.drew) := Below.drew x2.below
  generalize x2.w = w2 at *
  clear x2 x1 cr0 cr1 cr2 cr3 cr4 cr5 cr6 cs0 cs1 cs2 cs3 cs4 cs5 cs6 cs7 cs8 cs9 cs10 cs11
  refine wp_region_held_drew (S := (fun V => V.cell? ⟨w.heap.size, 0, none⟩ = some (.string r.name) ∧ V.cell? ⟨w.heap.size, 1, none⟩ = some (.int .i64 r.fr) ∧ V.cell? ⟨w.heap.size, 2, none⟩ = some (.int .i64 r.to) ∧ V.cell? ⟨w.heap.size, 3, none⟩ = some (v1) ∧ V.cell? ⟨w.heap.size, 4, none⟩ = some (v2) ∧ V.cell? ⟨w.heap.size, 5, none⟩ = some (v3) ∧ V.cell? ⟨w.heap.size, 6, none⟩ = some (.int .i64 r.rule) ∧ V.cell? ⟨w.heap.size + 1, 0, none⟩ = some (.int .i64 k) ∧ V.cell? ⟨w.heap.size + 1, 1, none⟩ = some (.int .i64 m) ∧ V.cell? ⟨w.heap.size + 1, 2, none⟩ = some (.int .i64 d) ∧ V.cell? ⟨w.heap.size + 1, 3, none⟩ = some (.int .i64 a) ∧ V.cell? ⟨w.heap.size + 1, 4, none⟩ = some (.int .i64 b) ∧ V.cell? ⟨w.heap.size + 1, 5, none⟩ = some (.int .i64 c) ∧ V.cell? ⟨w.heap.size + 1, 6, none⟩ = some (.bool t) ∧ V.cell? ⟨w.heap.size + 1, 7, none⟩ = some (.string f) ∧ V.cell? ⟨w.heap.size + 1, 8, none⟩ = some (.int .i64 p) ∧ V.cell? ⟨w.heap.size + 1, 9, none⟩ = some (.int .i64 y) ∧ V.cell? ⟨w.heap.size + 1, 10, none⟩ = some (.int .i64 so) ∧ V.cell? ⟨w.heap.size + 1, 11, none⟩ = some (.int .i64 ca))) (by kernel_rfl) (KE.out _ B2.out) (fun hHeld => ?_)
  refine held_take (i := 0) (d := 14) (v := ?_) rfl rfl (by kernel_rfl) (by decide +kernel) (by decide +kernel) (fun _ _ _ h => h) (by rfl) ?_ (by assumption) ?_
  rotate_left
  · intro wq hSw
    obtain ⟨q0, q1, q2, q3, q4, q5, q6, q7, q8, q9, q10, q11, q12, q13, q14, q15, q16, q17, q18⟩ := hSw
    go_simp
    (try rfl)
  simp only [Act.put, List.setIfInBounds_toArray, List.set_cons_zero, List.set_cons_succ]
  refine held_take (i := 1) (d := 15) (v := ?_) rfl rfl (by kernel_rfl) (by decide +kernel) (by decide +kernel) (fun _ _ _ h => h) (by rfl) ?_ (by assumption) ?_
  rotate_left
  · intro wq hSw
    obtain ⟨q0, q1, q2, q3, q4, q5, q6, q7, q8, q9, q10, q11, q12, q13, q14, q15, q16, q17, q18⟩ := hSw
    go_simp
    (try rfl)
  simp only [Act.put, List.setIfInBounds_toArray, List.set_cons_zero, List.set_cons_succ]
  refine held_take (i := 3) (d := 17) (v := ?_) rfl rfl (by kernel_rfl) (by decide +kernel) (by decide +kernel) (fun _ _ _ h => h) (by rfl) ?_ (by assumption) ?_
  rotate_left
  · intro wq hSw
    obtain ⟨q0, q1, q2, q3, q4, q5, q6, q7, q8, q9, q10, q11, q12, q13, q14, q15, q16, q17, q18⟩ := hSw
    go_simp
    (try rfl)
  simp only [Act.put, List.setIfInBounds_toArray, List.set_cons_zero, List.set_cons_succ]
  refine held_one (i := 2) (by decide +kernel) (op_call (args := #[.agg #[.string r.name, .int .i64 r.fr, .int .i64 r.to, v1, v2, v3, .int .i64 r.rule], .agg #[.int .i64 k, .int .i64 m, .int .i64 d, .int .i64 a, .int .i64 b, .int .i64 c, .bool t, .string f, .int .i64 p, .int .i64 y, .int .i64 so, .int .i64 ca]]) (T := fun u w' => ∃ xs, ISt w2.drew u xs w' ∧ wd xs) rfl rfl rfl (by rfl) (by simp only [List.map_toArray, List.map_cons, List.map_nil]; rfl) (enters_of Tryz.func89 (by kernel_rfl) rfl) ((KW.out _ B2.out).mono ?_) ?_)
  · rintro e V ⟨o, rfl, hx⟩
    exact ⟨o, rfl, hx⟩
  rintro u V5 ⟨xs, hS5, hwd⟩
  have S5 := hideP hS5
  have B5 : Hid (Below W0.heap.size W0 V5) := B2.out.trans (hS5.below.mono B2.out.size)
  have hS6 := KE.out V5 B5.out
  refine ⟨hS6, ?_⟩
  clear hS5 hHeld
  simp only [Act.put, List.setIfInBounds_toArray, List.set_cons_zero, List.set_cons_succ]
  refine held_one (i := 4) (by decide +kernel) (op_call (args := #[.agg #[.string r.name, .int .i64 r.fr, .int .i64 r.to, v1, v2, v3, .int .i64 r.rule]]) (T := fun u' w' => ISt V5 u' pd w') rfl rfl rfl (by rfl) (by simp only [List.map_toArray, List.map_cons, List.map_nil]; rfl) (enters_of Tryz.func67 (by kernel_rfl) rfl) ((KP.out _ B5.out).mono ?_) ?_)
  · rintro e V ⟨o, rfl, hx⟩
    exact ⟨o, rfl, hx⟩
  rintro u' V6 hS6'
  have S6 := hideP hS6'
  have B6 : Hid (Below W0.heap.size W0 V6) := B5.out.trans (hS6'.below.mono B5.out.size)
  have S56 : Hid (ISt w2.drew u xs V6) := S5.out.later hS6'.below
  obtain ⟨ad, cp, rfl, hn0, hcl⟩ := own_reads hS6'.row
  have hS7 := KE.out V6 B6.out
  refine ⟨hS7, ?_⟩
  clear hS6 hS6'
  simp only [Act.put, List.setIfInBounds_toArray, List.set_cons_zero, List.set_cons_succ]
  have hxl := HLn.out xs hwd
  refine held_one (i := 5) (by decide +kernel) (op_append rfl (by rfl) (.tmp 16) (.tmp 18) 30 rfl w2.drew.heap.size 3 i0 (.int .i64 0) 1 8 Tryz.underlying30 hi hz0 hz1 hz2 rfl (by decide) u xs.length (xs.map (Value.int .i64)) rfl S56.out.row ad pd.length cp (pd.map (Value.int .i64)) rfl (by simp) hn0 hcl (fun z hz => by obtain ⟨q, _, rfl⟩ := List.mem_map.1 hz; rfl) (by unfold maxLen; omega) (by omega) (by have := S56.out.below.size; omega) ?_)
  intro v' w9 hown hgrow
  have S9 : Hid (ISt w2.drew v' (xs ++ pd) w9) := ⟨by rw [List.length_append, List.map_append]; exact hown, S56.out.below.grown hgrow S56.out.below.size (ibase S56.out.row)⟩
  have B9 : Hid (Below W0.heap.size W0 w9) := B2.out.trans (S9.out.below.mono B2.out.size)
  have hS9 := KE.out w9 B9.out
  refine ⟨hS9, ?_⟩
  clear hS7 hcl hn0 hown hgrow S56 S6 S5
  simp only [Act.put, List.setIfInBounds_toArray, List.set_cons_zero, List.set_cons_succ]
  refine held_take (i := 6) (d := 5) (v := ?_) rfl rfl (by kernel_rfl) (by decide +kernel) (by decide +kernel) (fun _ _ _ h => h) (by rfl) ?_ (by assumption) ?_
  rotate_left
  · intro wq hSw
    obtain ⟨q0, q1, q2, q3, q4, q5, q6, q7, q8, q9, q10, q11, q12, q13, q14, q15, q16, q17, q18⟩ := hSw
    go_simp
    (try rfl)
  simp only [Act.put, List.setIfInBounds_toArray, List.set_cons_zero, List.set_cons_succ]
  refine wpAnyH_done (by kernel_rfl) ?_ _
  have hyl : (xs ++ pd).length ≤ 68 := by rw [List.length_append]; omega
  have HFx := hideP (HF.out xs hwd)
  have HIx := hideP (HIn.out xs hwd)
  have hgW : W0.heap.size ≤ w2.drew.heap.size := B2.out.size
  clear HF HIn HLn hwd hS9 KW KP B5 B6
  generalize xs ++ pd = ys at *
  rcases own_rowI S9.out.row with ⟨rfl, rfl⟩ | ⟨g, cap, rfl, hcap, hg, hRow⟩
  · have HD : Hid (ds = []) := by
      unfold Hid
      rw [← HFx.out]
      simp [Lib.compact, Lib.compactUpTo]
    clear S9 HFx
    go_wp2_with fail
    refine (delNone _ _ _).mono ?_
    rintro e w10 ⟨rfl, hw⟩
    subst hw
    go_wp2_with fail
    refine (Tryz.slices_Sort_int_none _ _ _).mono ?_
    rintro e w11 ⟨rfl, hw⟩
    subst hw
    go_wp2_with fail
    refine (Tryz.slices_Compact_int_empty _ _ _).mono ?_
    rintro e w12 ⟨rfl, hw⟩
    subst hw
    go_wp2
    go_ret
    exact ⟨_, rfl, by rw [HD.out]; exact movRow_nil _ _, HB0.out.trans (B9.out.mono HB0.out.size)⟩
  have hg0 : W0.heap.size ≤ g := Nat.le_trans hgW hg
  have KD := delSaid g cap ys (.pointer (some ⟨w.heap.size, 0, none⟩)) (.pointer (some ⟨w.heap.size + 1, 0, none⟩)) sB W0 w9 hg0 B9.out hRow (by omega) hcap (fun V x hb hx => KC.out V x hb (HIx.out x hx).1 (HIx.out x hx).2)
  have hfl : (ys.filter sB).length ≤ ys.length := List.length_filter_le ..
  clear S9 hRow KC HIx KE
  generalize ys.filter sB = fs at *
  go_wp2_with fail
  refine KD.mono ?_
  rintro e w10 ⟨rfl, hR10, hB10⟩
  have R10 := hideP hR10
  have B10 := hideP hB10
  have KSo := Tryz.slices_Sort_int g 0 cap fs w10 hR10.holds hR10.lt (by omega)
  clear KD hR10 hB10
  have hzl : (fs.mergeSort (fun x y => decide (x ≤ y))).length = fs.length := List.length_mergeSort ..
  generalize fs.mergeSort (fun x y => decide (x ≤ y)) = zs at *
  go_wp2_with fail
  refine KSo.mono ?_
  rintro e w11 ⟨rfl, n1, os, hw11⟩
  have R11 : Hid (RowI w11 g zs) := by unfold Hid; rw [hw11]; exact (R10.out.put hzl n1).grow os
  have B11 : Hid (Below W0.heap.size W0 w11) := by unfold Hid; rw [hw11]; exact below_grow (below_map (below_ahead B10.out n1) hg0 _) (by show _ ≤ (w10.heap.modify g _).size; rw [Array.size_modify]; exact B10.out.size) os
  clear hw11 KSo
  have KCo := Tryz.slices_Compact_int g 0 cap zs w11 R11.out.holds (by omega) (by omega)
  have hcl2 : (Lib.compact zs).length ≤ zs.length := by
    unfold Lib.compact Lib.compactUpTo
    rw [List.length_map]
    refine Nat.le_trans (List.length_filter_le ..) ?_
    rw [List.length_range]
    exact Nat.le_refl _
  rw [hzl] at KCo hcl2
  have HZ := hideP hzl
  clear hzl
  generalize Lib.compact zs = cs at *
  go_wp2_with fail
  refine KCo.mono ?_
  rintro e w12 ⟨rfl, n2, hw12⟩
  have R12 : Hid (RowI w12 g cs) := by
    unfold Hid
    rw [hw12]
    have q := (R11.out.put (ys := cs ++ List.replicate (fs.length - cs.length) 0) (by rw [List.length_append, List.length_replicate, HZ.out]; omega) n2).take cs.length
    rw [List.take_left'] at q
    · exact q
    · rfl
  have B12 : Hid (Below W0.heap.size W0 w12) := by unfold Hid; rw [hw12]; exact below_map (below_ahead B11.out n2) hg0 _
  clear hw12 KCo
  go_wp2
  go_ret
  exact ⟨_, rfl, by rw [← HFx.out]; exact R12.out.mov (Nat.le_trans HB0.out.size hg0), HB0.out.trans (B12.out.mono HB0.out.size)⟩
end Go.Proofs.YtjojgfdfbkmlkaaGreatDoor.ctr
