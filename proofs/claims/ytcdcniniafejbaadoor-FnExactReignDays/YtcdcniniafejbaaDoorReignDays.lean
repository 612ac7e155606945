/- FnExactReignDays returns true at every calendar, style, rule, reign and number: the program's ReignDays answers as the model's, in memory of its own; nothing that was there turns. The row lists the table of months; the card ties it to the program's text. -/
import Derived.Test.YtcdcniniafejbaaDoorCards
import Derived.Test.YtcdcniniafejbaaDoorTie
import Derived.Test.YtcdcniniafejbaaDoorVarsKit
import Derived.Test.YtcdcniniafejbaaDoorRgnHelp
import Derived.Test.YtcdcniniafejbaaDoorRgnDays
import Derived.WalkKit
import Derived.ProofKit
import Derived.OpenShut
import Derived.ShutString
import Derived.ChangeOld
import Derived.Below
import Derived.Deep.DeepHandedRow
import Derived.Lib.LaidTab
import Derived.Lib.SmallJoins
namespace Go.Proofs.YtcdcniniafejbaaDoor.fnExactReignDays
open Go.ChangeShapes Go.WideShapes Go.ChangeAt Go.RowKit
open Go.ChangeMaps (open_string shut_string)
set_option linter.unusedVariables false

theorem own : ownKnob Tryd.prog.godebug = none := by kernel_rfl
theorem laidOut : laidOutB Tryd.prog = true := by kernel_rfl
theorem g0 : Tryd.prog.globalNamed "loop.example/g00638/impl.monthLengths" = some 1 := by kernel_rfl
theorem gt0 : (Tryd.prog.globals[1]?).map (·.type) = some 123 := by kernel_rfl
theorem ce0 : Tryd.prog.cellsOf 3 = 1 := by kernel_rfl
theorem ct0 : Tryd.prog.cellsOf 123 = 12 := by kernel_rfl
theorem tab0 {W : World} (h : laidMetH Tryd.prog Rows.fnExactReignDaysRow.laid W) : Lib.TabIs Tryd.prog W "loop.example/g00638/impl.monthLengths" .i64 [31, 28, 31, 30, 31, 30, 31, 31, 30, 31, 30, 31] := by
  have h0 : laidMet Tryd.prog [("loop.example/g00638/impl.monthLengths", Rows.laid_loop_example_g00638_impl_monthLengths)] W := h
  exact Lib.tabIs_of_head (rest := []) g0 gt0 Tryd.underlying123 Tryd.underlying3 ce0 ct0 h0

theorem walk (c : Int) (wc : (Lit.int .i64 c).wf = true) (s : Int) (ws : (Lit.int .i64 s).wf = true) (ru : Int) (wr : (Lit.int .i64 ru).wf = true) (nm : ByteArray) (f t : Int) (hs : nm.size ≤ maxLen) (k : Int) (wn : (Lit.int .i64 k).wf = true) (w : World) (t0 : ctr.Tab w) :
    Calls Tryd.prog 5 #[.int .i64 c, .int .i64 s, .int .i64 ru, .agg #[.string nm, .int .i64 f, .int .i64 t], .int .i64 k] w fun e w' => e = .returned (.bool true) ∧ Below w.heap.size w w' := by
  obtain ⟨W0, hW0, c0, c1, c2, hBl⟩ := ctr.rgn_box w nm f t 30
  have KT : ∀ x : ctr.Later W0, ctr.Tab x.w := fun x => t0.later (hBl x)
  have HW0 := ctr.hideP hW0
  have HBl := ctr.hideP hBl
  have KZ : ∀ W, Calls Tryd.prog 14 #[.agg #[.string nm, .int .i64 f, .int .i64 t], .int .i64 1048576] W fun e w' => e = .returned (.int .i64 (ctr.szR nm.size 1048576)) ∧ Below W.heap.size W w' := fun W => ctr.szReign nm f t 1048576 W hs (by omega) (by omega)
  have hz : ctr.szR nm.size 1048576 = -1 ∨ 0 ≤ ctr.szR nm.size 1048576 := by unfold ctr.szR; split <;> omega
  have KS : ∀ W, Calls Tryd.prog 18 #[.int .i64 c, .int .i64 s, .int .i64 ru, .agg #[.string nm, .int .i64 f, .int .i64 t], .int .i64 k] W fun e w' => ∃ v, e = .returned v ∧ ctr.MovRow W w' v (ctr.reignDays c s ru f t k) ∧ Below W.heap.size W w' := fun W => ctr.specReignDays c s ru nm f t k W
  have KI : ∀ W, Below W0.heap.size W0 W → Calls Tryd.prog 19 #[.int .i64 c, .int .i64 s, .int .i64 ru, .agg #[.string nm, .int .i64 f, .int .i64 t], .int .i64 k] W fun e w' => ∃ v, e = .returned v ∧ ctr.MovRow W w' v (ctr.reignDays c s ru f t k) ∧ Below W.heap.size W w' := fun W hb => ctr.implReignDays c s ru nm f t k W (KT ⟨W, hb⟩)
  have hl : (ctr.reignDays c s ru f t k).length ≤ 4000 := ctr.rd_len c s ru f t k
  have HF : Hid (∀ W, Below W0.heap.size W0 W → W.cell? ⟨w.heap.size, 0, none⟩ = some (.string nm) ∧ W.cell? ⟨w.heap.size, 1, none⟩ = some (.int .i64 f) ∧ W.cell? ⟨w.heap.size, 2, none⟩ = some (.int .i64 t)) := fun W hb => ⟨c0 ⟨W, hb⟩, c1 ⟨W, hb⟩, c2 ⟨W, hb⟩⟩
  clear hW0 hBl t0 hs KT wc ws wr wn
  generalize ctr.szR nm.size 1048576 = z at *
  generalize ctr.reignDays c s ru f t k = xs at *
  rcases hz with rfl | hz
  · go_enter Tryd.func5, Tryd.ntmps5
    go_wp2_with fail
    rw [← HW0.out]
    refine (KZ _).mono ?_
    rintro e w1 ⟨rfl, hb⟩
    obtain ⟨x1, rfl⟩ := ctr.Later.of hb
    clear hb
    go_wp2
    go_ret
    exact ⟨rfl, HBl.out x1⟩
  go_enter Tryd.func5, Tryd.ntmps5
  go_wp2_with fail
  rw [← HW0.out]
  refine (KZ _).mono ?_
  rintro e w1 ⟨rfl, hb⟩
  obtain ⟨x1, rfl⟩ := ctr.Later.of hb
  clear hb
  go_wp2_with fail
  refine (ctr.toReign _ _ _ _).mono ?_
  rintro e w2 ⟨rfl, hb⟩
  obtain ⟨x2, rfl⟩ := x1.next hb
  clear hb
  clear c0 c1 c2
  go_wp2_with fail
  refine (KS _).mono ?_
  rintro e W1 ⟨v0, rfl, hr0, hb1⟩
  have R0 := ctr.hideP hr0.row
  have B1 : Hid (Below W0.heap.size W0 W1) := x2.below.trans (hb1.mono x2.below.size)
  clear hr0 hb1
  obtain ⟨d0, d1, d2⟩ := HF.out W1 B1.out
  go_wp2_with fail
  refine (ctr.toReign _ _ _ _).mono ?_
  rintro e W2 ⟨rfl, hb⟩
  have B2 : Hid (Below W0.heap.size W0 W2) := B1.out.trans (hb.mono B1.out.size)
  have R02 := ctr.hideP (R0.out.below hb)
  clear hb d0 d1 d2
  go_wp2_with fail
  refine (KI _ B2.out).mono ?_
  rintro e W3 ⟨v1, rfl, hr1, hb⟩
  have R1 := ctr.hideP hr1
  have C3 := ctr.hideP hb
  have R03 := ctr.hideP (R02.out.below hb)
  clear hr1 hb
  go_wp2_with fail
  refine (ctr.eqInts v1 v0 _ _ (by omega) R1.out.row R03.out).mono ?_
  rintro e W4 ⟨rfl, hb⟩
  have R14 : Hid (ctr.MovRow W2 W4 v1 xs) := R1.out.below hb
  have C4 : Hid (Below W2.heap.size W2 W4) := C3.out.trans (hb.mono C3.out.size)
  clear hb
  go_wp2_with fail
  refine (ctr.markRow W2 W4 v1 _ (by omega) R14.out C4.out).mono ?_
  rintro e W5 ⟨rfl, hb5, hr5⟩
  have C5 := ctr.hideP hb5
  have R5 := ctr.hideP hr5
  clear hb5 hr5
  generalize hN : xs.length = N at *
  have HN := ctr.hideP hN
  clear hN
  go_wp2_with fail
  refine (ctr.heldInts v1 1 N _ (by omega) (by omega) R5.out).mono ?_
  rintro e W6 ⟨rfl, hb⟩
  have C6 : Hid (Below W2.heap.size W2 W6) := C5.out.trans (hb.mono C5.out.size)
  have R6 := ctr.hideP (R5.out.below hb)
  clear hb
  have B6 : Hid (Below W0.heap.size W0 W6) := B2.out.trans (C6.out.mono B2.out.size)
  obtain ⟨d0, d1, d2⟩ := HF.out W6 B6.out
  go_wp2_with fail
  refine (ctr.toReign _ _ _ _).mono ?_
  rintro e W7 ⟨rfl, hb⟩
  have B7 : Hid (Below W0.heap.size W0 W7) := B6.out.trans (hb.mono B6.out.size)
  have C7 : Hid (Below W2.heap.size W2 W7) := C6.out.trans (hb.mono C6.out.size)
  have R7 := ctr.hideP (R6.out.below hb)
  clear hb d0 d1 d2
  go_wp2_with fail
  refine (KI _ B7.out).mono ?_
  rintro e W8 ⟨v2, rfl, hr8, hb⟩
  have R8 := ctr.hideP hr8
  have C8 : Hid (Below W2.heap.size W2 W8) := C7.out.trans (hb.mono C7.out.size)
  have R78 := ctr.hideP (R7.out.below hb)
  clear hr8 hb
  go_wp2_with fail
  refine (ctr.eqInts v2 v0 _ _ (by rw [HN.out]; omega) R8.out.row (R02.out.below C8.out)).mono ?_
  rintro e W9 ⟨rfl, hb⟩
  have C9 : Hid (Below W2.heap.size W2 W9) := C8.out.trans (hb.mono C8.out.size)
  have R9 := ctr.hideP (R78.out.below hb)
  clear hb
  go_wp2_with fail
  refine (ctr.heldInts v1 1 N _ (by omega) (by omega) R9.out).mono ?_
  rintro e W10 ⟨rfl, hb⟩
  have C10 : Hid (Below W2.heap.size W2 W10) := C9.out.trans (hb.mono C9.out.size)
  clear hb
  go_wp2_with fail
  go_ret
  exact ⟨rfl, HBl.out ⟨W10, B2.out.trans (C10.out.mono B2.out.size)⟩⟩

theorem readable : ∀ m ∈ Rows.fnExactReignDaysSpec.vars, ∀ g t, Tryd.prog.globalNamed m = some g → (Tryd.prog.globals[g]?).map (·.type) = some t → Tryd.prog.readableRec t = true ∧ t < Tryd.prog.types.size := by
  intro m hm g t h1 h2
  have hm' : m = "loop.example/g00638/impl.monthLengths" := by simpa [Rows.fnExactReignDaysSpec] using hm
  rcases hm' with rfl
  · obtain rfl := Option.some.inj (g0.symm.trans h1)
    obtain rfl := Option.some.inj (gt0.symm.trans h2)
    exact ⟨by kernel_rfl, of_decide_eq_true (by kernel_rfl)⟩

set_option maxRecDepth 100000 in
theorem contract (H : Type) (enc : TypeId × Value → H) (W : World) (base : Nat) (args : Array Value) (ds gs : List (DataW H)) (before : List MemPlace)
    (hval : ∀ (j : Nat) t v, Tryd.f5.params[j]? = some t → args[j]? = some v → Value.okWide Tryd.prog W .any base t v)
    (hW : DataW.Whole enc Tryd.prog Tryd.f5.params.toList Rows.fnExactReignDaysSpec.vars false W args.toList ds gs before) (hL : laidMetH Tryd.prog Rows.fnExactReignDaysRow.laid W) :
    Calls Tryd.prog 5 args W fun e W' => ∃ v, e = .returned v ∧ Rows.fnExactReignDaysSpec.post enc Tryd.prog Tryd.f5 false true false false W args v W' := by
  have hW' := hW
  obtain ⟨p, q, hA0, hV, rfl, hfz, hnd⟩ := hW
  have hA : DataW.TrodAll enc Tryd.prog W 0 (fun _ => true) true Tryd.f5.params.toList args.toList ds p := hA0
  rw [Tryd.params5] at hA hval
  obtain ⟨v0, vs0, d0, ds0, p0, q0, hargs, rfl, rfl, h0, r0⟩ := trodAll_cons hA
  obtain ⟨v1, vs1, d1, ds1, p1, q1, rfl, rfl, rfl, h1, r1⟩ := trodAll_cons r0
  obtain ⟨v2, vs2, d2, ds2, p2, q2, rfl, rfl, rfl, h2, r2⟩ := trodAll_cons r1
  obtain ⟨v3, vs3, d3, ds3, p3, q3, rfl, rfl, rfl, h3, r3⟩ := trodAll_cons r2
  obtain ⟨v4, vs4, d4, ds4, p4, q4, rfl, rfl, rfl, h4, r4⟩ := trodAll_cons r3
  obtain ⟨rfl, rfl, rfl⟩ := trodAll_nil r4
  obtain rfl : args = #[v0, v1, v2, v3, v4] := by cases args; simp_all
  have hk : ∀ W', Below W.heap.size W W' → DataW.TrodVars enc Tryd.prog W' (fun b => decide (b < W.heap.size)) Rows.fnExactReignDaysSpec.vars gs q := fun W' hb => kit.trodVars_kept laidOut hb readable hV (DataW.TrodVars.lt hV)
  obtain ⟨g1, rfl⟩ : ∃ g1, gs = [g1] := by obtain ⟨_, _, _, _, d, _, h, _⟩ := trodVars_one hV; exact ⟨d, h⟩
  obtain ⟨a0, rfl, rfl, rfl, w0⟩ := open_int Tryd.underlying3 (hval 0 3 v0 rfl rfl) h0
  obtain ⟨a1, rfl, rfl, rfl, w1⟩ := open_int Tryd.underlying3 (hval 1 3 v1 rfl rfl) h1
  obtain ⟨a2, rfl, rfl, rfl, w2⟩ := open_int Tryd.underlying3 (hval 2 3 v2 rfl rfl) h2
  have k3 := h3
  have lt3 : ∀ x ∈ p3, x.block < W.heap.size := by obtain ⟨m, hm⟩ := k3; exact DataW.trod_lt m _ _ _ hm
  obtain ⟨s3, b3, o3, rfl, w3, _, _⟩ := kit.open_rgn Tryd.underlying30 (by kernel_rfl) (show Tryd.prog.cellsOf 30 = 3 by kernel_rfl) Tryd.underlying9 Tryd.underlying3 Tryd.underlying3 (hval 3 30 v3 rfl rfl) h3
  obtain ⟨a4, rfl, rfl, rfl, w4⟩ := open_int Tryd.underlying3 (hval 4 3 v4 rfl rfl) h4
  clear hA0
  refine (walk a0 w0 a1 w1 a2 w2 s3 b3 o3 w3 a4 w4 W (tab0 hL)).mono fun e W' ⟨he, bel⟩ => ?_
  subst he
  exact ⟨_, rfl, _, _, _, [], _, _, hW', trodAll_mk1 (shut_bool Tryd.underlying4 _), trodAll_cons_mk (shut_int Tryd.underlying3 w0) (trodAll_cons_mk (shut_int Tryd.underlying3 w1) (trodAll_cons_mk (shut_int Tryd.underlying3 w2) (trodAll_cons_mk (Below.trod laidOut (by kernel_rfl) (of_decide_eq_true (by kernel_rfl)) k3 bel lt3) (trodAll_cons_mk (shut_int Tryd.underlying3 w4) (trodAll_mk0))))), hk W' bel, bel.frame _, fun h => by cases h⟩

/-- A world for the witness: the settled one, each listed table holding what its initialiser lays. -/
noncomputable def laidWorld (os : Os) : World :=
  { World.holding Tryd.prog os ⟨#[], #[], []⟩ with heap := ((World.holding Tryd.prog os ⟨#[], #[], []⟩).heap.modify 1 fun
      | .cells _ t frozen => .cells #[.int .i64 31, .int .i64 28, .int .i64 31, .int .i64 30, .int .i64 31, .int .i64 30, .int .i64 31, .int .i64 31, .int .i64 30, .int .i64 31, .int .i64 30, .int .i64 31] t frozen
      | o => o) }
theorem laid_met (os : Os) : laidMet Tryd.prog Rows.fnExactReignDaysRow.laid ((laidWorld os).forCall (fun _ _ => 0) ⟨#[], #[.int .i64 0, .int .i64 0, .int .i64 0, .agg #[.string ByteArray.empty, .int .i64 0, .int .i64 0], .int .i64 0], []⟩).memory :=
  laidMet_of_run' 8 (by kernel_rfl) (by kernel_rfl)
theorem reads (os : Os) {H : Type} (enc : TypeId × Value → H) : ∃ places, DataW.whole enc Tryd.prog ((laidWorld os).forCall (fun _ _ => 0) ⟨#[], #[.int .i64 0, .int .i64 0, .int .i64 0, .agg #[.string ByteArray.empty, .int .i64 0, .int .i64 0], .int .i64 0], []⟩).memory Tryd.f5.params.toList Rows.fnExactReignDaysSpec.vars false (#[.int .i64 0, .int .i64 0, .int .i64 0, .agg #[.string ByteArray.empty, .int .i64 0, .int .i64 0], .int .i64 0] : Array Value).toList 8 = some ([.lit (.int .i64 0), .lit (.int .i64 0), .lit (.int .i64 0), .agg [.lit (.string []), .lit (.int .i64 0), .lit (.int .i64 0)], .lit (.int .i64 0)], [Rows.laid_loop_example_g00638_impl_monthLengths], places) :=
  ⟨MemPlace.row ⟨1, 0, none⟩ 12 ++ [] ++ [], by kernel_rfl⟩

set_option maxRecDepth 100000 in
theorem lifted (os : Os) (started : os.Started) (H : Type) (enc : TypeId × Value → H) (F : Stop.Interp) :
    ReturnsInHanded {} Tryd.checked os 5 .any ((OpenSpec.ofChange Rows.fnExactReignDaysSpec).preRow enc Tryd.prog Tryd.f5 Rows.fnExactReignDaysRow.domain false Rows.fnExactReignDaysRow.laid) (((OpenSpec.ofChange Rows.fnExactReignDaysSpec).at F).post enc Tryd.prog Tryd.f5 false true false false) := by
  obtain ⟨places, hx⟩ := reads os enc
  refine returnsInHanded_of_row (C := Tryd.checked) (s := OpenSpec.ofChange Rows.fnExactReignDaysSpec) own started (by kernel_rfl) Tryd.func5
    (witness_row_at (enc := enc) (C := Tryd.checked) false (laidWorld os) #[.int .i64 0, .int .i64 0, .int .i64 0, .agg #[.string ByteArray.empty, .int .i64 0, .int .i64 0], .int .i64 0] rfl (by kernel_rfl) (by kernel_rfl) (by kernel_rfl)
      (OpenSpec.preRow_of_cond 8 hx (by kernel_rfl) (fun k hk => by cases hk) (by kernel_rfl) (laid_met os))) ?_
  intro W base args ds gs before hval hW _ _ _ hL _ _
  exact contract H enc W base args ds gs before hval hW hL

theorem said : Rows.FnExactReignDaysSaid :=
  OpenClaim.holds_of_cond 5 Tryd.f5 rfl rfl rfl rfl rfl rfl rfl ⟨rfl, rfl, rfl, rfl, rfl⟩ rfl rfl rfl rfl rfl (by kernel_rfl) Tryd.func5 (by kernel_rfl)
    (of_decide_eq_true (by kernel_rfl)) (by unfold Func.isWrapper; first | (rw [if_pos (by decide +kernel)]; kernel_rfl) | (rw [if_neg (by decide +kernel)]; exact ⟨rfl, rfl⟩))
    (fun os started H enc _ F => by rw [OpenClaim.pre_eq_preRow]; exact lifted os started H enc F)

theorem plain (f : FuncId) (fn : Func) (hf : Tryd.pinned.checked.prog.funcNamed "loop.example/g00638/laws.FnExactReignDays" = some f) (hfn : Tryd.pinned.checked.prog.funcs[f]? = some fn) :
    true = Tryd.pinned.checked.prog.looks [] ∧ ∀ (j : Nat) t, fn.params[j]? = some t → Tryd.pinned.checked.prog.wantsStandIn t = false := by
  obtain rfl : f = 5 := Option.some.inj ((show Tryd.prog.funcNamed "loop.example/g00638/laws.FnExactReignDays" = some 5 by kernel_rfl).symm.trans hf) |>.symm
  obtain rfl : fn = Tryd.f5 := (Option.some.inj (Tryd.func5.symm.trans hfn)).symm
  refine ⟨by kernel_rfl, fun j t ht => ?_⟩
  rw [Tryd.params5] at ht
  have ht : t = 3 ∨ t = 3 ∨ t = 3 ∨ t = 30 ∨ t = 3 := by simpa using Array.mem_of_getElem? ht
  rcases ht with rfl | rfl | rfl | rfl | rfl
  · exact (show Tryd.prog.wantsStandIn 3 = false by kernel_rfl)
  · exact (show Tryd.prog.wantsStandIn 3 = false by kernel_rfl)
  · exact (show Tryd.prog.wantsStandIn 3 = false by kernel_rfl)
  · exact (show Tryd.prog.wantsStandIn 30 = false by kernel_rfl)
  · exact (show Tryd.prog.wantsStandIn 3 = false by kernel_rfl)

theorem card : Rows.FnExactReignDaysCardSaid :=
  Claim7.holds_tied_plain_at .later [] _ _ _ _ said (fun _ h => by cases h) (by kernel_rfl) (fun _ h => by cases h) fnExactReignDays_row_tie rfl ⟨rfl, rfl⟩ (by kernel_rfl) rfl plain (by kernel_rfl)
end Go.Proofs.YtcdcniniafejbaaDoor.fnExactReignDays

namespace Go.Proofs.YtcdcniniafejbaaDoor
theorem fnExactReignDays_holds : Rows.FnExactReignDaysCardSaid := fnExactReignDays.card
#print axioms fnExactReignDays_holds
end Go.Proofs.YtcdcniniafejbaaDoor
