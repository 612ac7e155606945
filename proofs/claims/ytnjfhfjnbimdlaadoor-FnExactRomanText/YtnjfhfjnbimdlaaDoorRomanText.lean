/- At every day counted back, right or not, RomanText of the program answers as the model's, where the listed tables hold what they list; nothing that was there turns. -/
import Derived.Test.YtnjfhfjnbimdlaaDoorCards
import Derived.Test.YtnjfhfjnbimdlaaDoorTie
import Derived.Test.YtnjfhfjnbimdlaaDoorVarsKit
import Derived.Test.YtnjfhfjnbimdlaaDoorRomTextS
import Derived.Test.YtnjfhfjnbimdlaaDoorRomTextI
import Derived.Test.YtnjfhfjnbimdlaaDoorRomLaw
import Derived.WalkKit
import Derived.ProofKit
import Derived.OpenShut
import Derived.ShutString
import Derived.ChangeOld
import Derived.Below
import Derived.Deep.DeepHandedRow
import Derived.Lib.LaidTab
import Derived.Lib.SmallJoins
namespace Go.Proofs.YtnjfhfjnbimdlaaDoor.fnExactRomanText
open Go.ChangeShapes Go.WideShapes Go.ChangeAt Go.RowKit
open Go.ChangeMaps (open_string shut_string)
set_option linter.unusedVariables false

theorem own : ownKnob Tryd.prog.godebug = none := by kernel_rfl
theorem laidOut : laidOutB Tryd.prog = true := by kernel_rfl
theorem g0 : Tryd.prog.globalNamed "loop.example/g00638/impl.digitShapes" = some 3 := by kernel_rfl
theorem gt0 : (Tryd.prog.globals[3]?).map (·.type) = some 118 := by kernel_rfl
theorem ce0 : Tryd.prog.cellsOf 9 = 1 := by kernel_rfl
theorem ct0 : Tryd.prog.cellsOf 118 = 10 := by kernel_rfl
theorem tab0 {W : World} (h : laidMetH Tryd.prog Rows.fnExactRomanTextRow.laid W) : kit.StrIs Tryd.prog W "loop.example/g00638/impl.digitShapes" [[], [97], [97, 97], [97, 97, 97], [97, 98], [98], [98, 97], [98, 97, 97], [98, 97, 97, 97], [97, 99]] := by
  have h0 : laidMet Tryd.prog [("loop.example/g00638/impl.digitShapes", Rows.laid_loop_example_g00638_impl_digitShapes), ("loop.example/g00638/impl.monthNames", Rows.laid_loop_example_g00638_impl_monthNames), ("loop.example/g00638/impl.monthLengths", Rows.laid_loop_example_g00638_impl_monthLengths), ("loop.example/g00638/impl.markNames", Rows.laid_loop_example_g00638_impl_markNames)] W := h
  exact kit.strIs_of_head (rest := [("loop.example/g00638/impl.monthNames", Rows.laid_loop_example_g00638_impl_monthNames), ("loop.example/g00638/impl.monthLengths", Rows.laid_loop_example_g00638_impl_monthLengths), ("loop.example/g00638/impl.markNames", Rows.laid_loop_example_g00638_impl_markNames)]) g0 gt0 Tryd.underlying118 Tryd.underlying9 ce0 ct0 h0
theorem g1 : Tryd.prog.globalNamed "loop.example/g00638/impl.monthNames" = some 2 := by kernel_rfl
theorem gt1 : (Tryd.prog.globals[2]?).map (·.type) = some 93 := by kernel_rfl
theorem ce1 : Tryd.prog.cellsOf 9 = 1 := by kernel_rfl
theorem ct1 : Tryd.prog.cellsOf 93 = 12 := by kernel_rfl
theorem tab1 {W : World} (h : laidMetH Tryd.prog Rows.fnExactRomanTextRow.laid W) : kit.StrIs Tryd.prog W "loop.example/g00638/impl.monthNames" [[106, 97, 110], [102, 101, 98], [109, 97, 114], [97, 112, 114], [109, 97, 121], [106, 117, 110], [106, 117, 108], [97, 117, 103], [115, 101, 112], [111, 99, 116], [110, 111, 118], [100, 101, 99]] := by
  have h0 : laidMet Tryd.prog [("loop.example/g00638/impl.digitShapes", Rows.laid_loop_example_g00638_impl_digitShapes), ("loop.example/g00638/impl.monthNames", Rows.laid_loop_example_g00638_impl_monthNames), ("loop.example/g00638/impl.monthLengths", Rows.laid_loop_example_g00638_impl_monthLengths), ("loop.example/g00638/impl.markNames", Rows.laid_loop_example_g00638_impl_markNames)] W := h
  have h1 := laidMet.tail h0
  exact kit.strIs_of_head (rest := [("loop.example/g00638/impl.monthLengths", Rows.laid_loop_example_g00638_impl_monthLengths), ("loop.example/g00638/impl.markNames", Rows.laid_loop_example_g00638_impl_markNames)]) g1 gt1 Tryd.underlying93 Tryd.underlying9 ce1 ct1 h1
theorem g2 : Tryd.prog.globalNamed "loop.example/g00638/impl.monthLengths" = some 0 := by kernel_rfl
theorem gt2 : (Tryd.prog.globals[0]?).map (·.type) = some 76 := by kernel_rfl
theorem ce2 : Tryd.prog.cellsOf 3 = 1 := by kernel_rfl
theorem ct2 : Tryd.prog.cellsOf 76 = 12 := by kernel_rfl
theorem tab2 {W : World} (h : laidMetH Tryd.prog Rows.fnExactRomanTextRow.laid W) : Lib.TabIs Tryd.prog W "loop.example/g00638/impl.monthLengths" .i64 [31, 28, 31, 30, 31, 30, 31, 31, 30, 31, 30, 31] := by
  have h0 : laidMet Tryd.prog [("loop.example/g00638/impl.digitShapes", Rows.laid_loop_example_g00638_impl_digitShapes), ("loop.example/g00638/impl.monthNames", Rows.laid_loop_example_g00638_impl_monthNames), ("loop.example/g00638/impl.monthLengths", Rows.laid_loop_example_g00638_impl_monthLengths), ("loop.example/g00638/impl.markNames", Rows.laid_loop_example_g00638_impl_markNames)] W := h
  have h1 := laidMet.tail h0
  have h2 := laidMet.tail h1
  exact Lib.tabIs_of_head (rest := [("loop.example/g00638/impl.markNames", Rows.laid_loop_example_g00638_impl_markNames)]) g2 gt2 Tryd.underlying76 Tryd.underlying3 ce2 ct2 h2
theorem g3 : Tryd.prog.globalNamed "loop.example/g00638/impl.markNames" = some 1 := by kernel_rfl
theorem gt3 : (Tryd.prog.globals[1]?).map (·.type) = some 80 := by kernel_rfl
theorem ce3 : Tryd.prog.cellsOf 9 = 1 := by kernel_rfl
theorem ct3 : Tryd.prog.cellsOf 80 = 3 := by kernel_rfl
theorem tab3 {W : World} (h : laidMetH Tryd.prog Rows.fnExactRomanTextRow.laid W) : kit.StrIs Tryd.prog W "loop.example/g00638/impl.markNames" [[107, 97, 108], [110, 111, 110], [105, 100]] := by
  have h0 : laidMet Tryd.prog [("loop.example/g00638/impl.digitShapes", Rows.laid_loop_example_g00638_impl_digitShapes), ("loop.example/g00638/impl.monthNames", Rows.laid_loop_example_g00638_impl_monthNames), ("loop.example/g00638/impl.monthLengths", Rows.laid_loop_example_g00638_impl_monthLengths), ("loop.example/g00638/impl.markNames", Rows.laid_loop_example_g00638_impl_markNames)] W := h
  have h1 := laidMet.tail h0
  have h2 := laidMet.tail h1
  have h3 := laidMet.tail h2
  exact kit.strIs_of_head (rest := []) g3 gt3 Tryd.underlying80 Tryd.underlying9 ce3 ct3 h3

theorem walk (a b c : Int) (d : Bool) (w : World) (tS : ctr.Shp w) (tN : ctr.Mon w) (tT : ctr.Tab w) (tM : ctr.Mrk w) :
    Calls Tryd.prog 7 #[.agg #[.int .i64 a, .int .i64 b, .int .i64 c, .bool d]] w fun e w' => e = .returned (.bool true) ∧ Below w.heap.size w w' := by
  obtain ⟨W0, hW0⟩ : ∃ W0, W0 = w.alloc (.cells #[.int .i64 a, .int .i64 b, .int .i64 c, .bool d] 54) := ⟨_, rfl⟩
  have c0 : ∀ x : ctr.Later W0, x.w.cell? ⟨w.heap.size, 0, none⟩ = some (.int .i64 a) := ctr.Later.new hW0 0 rfl
  have c1 : ∀ x : ctr.Later W0, x.w.cell? ⟨w.heap.size, 1, none⟩ = some (.int .i64 b) := ctr.Later.new hW0 1 rfl
  have c2 : ∀ x : ctr.Later W0, x.w.cell? ⟨w.heap.size, 2, none⟩ = some (.int .i64 c) := ctr.Later.new hW0 2 rfl
  have c3 : ∀ x : ctr.Later W0, x.w.cell? ⟨w.heap.size, 3, none⟩ = some (.bool d) := ctr.Later.new hW0 3 rfl
  have HW0 : Hid (W0 = _) := hW0
  have HB : Hid (∀ x : ctr.Later W0, Below w.heap.size w x.w) := fun x => ctr.below_of_alloc HW0.out x.below
  have KS := ctr.specRomanText ⟨a, b, c, d⟩
  have KI : Hid (∀ x : ctr.Later W0, Calls Tryd.prog 33 #[.agg #[.int .i64 a, .int .i64 b, .int .i64 c, .bool d]] x.w fun e w' => e = .returned (.string (ctr.romanText ⟨a, b, c, d⟩)) ∧ Below x.w.heap.size x.w w') := fun x => ctr.implRomanText ⟨a, b, c, d⟩ x.w (tT.later (HB.out x)) (ctr.Shp.later tS (HB.out x)) (ctr.Mrk.later tM (HB.out x)) (ctr.Mon.later tN (HB.out x))
  generalize ctr.romanText ⟨a, b, c, d⟩ = T at *
  clear tM tT tS tN hW0
  go_enter Tryd.func7, Tryd.ntmps7
  go_wp2_with fail
  rw [← HW0.out]
  refine (ctr.lawToRoman _ _ _ _ _).mono ?_
  rintro e w1 ⟨rfl, hb1⟩
  obtain ⟨x1, rfl⟩ := ctr.Later.of hb1
  clear hb1
  go_wp2_with fail
  refine (KS _).mono ?_
  rintro e w2 ⟨rfl, hb2⟩
  obtain ⟨x2, rfl⟩ := x1.next hb2
  clear hb2
  go_wp2_with fail
  refine (ctr.lawToRoman _ _ _ _ _).mono ?_
  rintro e w4 ⟨rfl, hb⟩
  obtain ⟨x4, rfl⟩ := x2.next hb
  clear hb
  go_wp2_with fail
  refine (KI.out x4).mono ?_
  rintro e w5 ⟨rfl, hb⟩
  obtain ⟨x5, rfl⟩ := x4.next hb
  clear hb
  go_wp2
  go_ret
  exact ⟨rfl, HB.out x5⟩

theorem readable : ∀ m ∈ Rows.fnExactRomanTextSpec.vars, ∀ g t, Tryd.prog.globalNamed m = some g → (Tryd.prog.globals[g]?).map (·.type) = some t → Tryd.prog.readableRec t = true ∧ t < Tryd.prog.types.size := by
  intro m hm g t h1 h2
  have hm' : m = "loop.example/g00638/impl.markNames" ∨ m = "loop.example/g00638/impl.monthLengths" ∨ m = "loop.example/g00638/impl.digitShapes" ∨ m = "loop.example/g00638/impl.monthNames" := by simpa [Rows.fnExactRomanTextSpec] using hm
  rcases hm' with rfl | rfl | rfl | rfl
  · obtain rfl := Option.some.inj (g3.symm.trans h1)
    obtain rfl := Option.some.inj (gt3.symm.trans h2)
    exact ⟨by kernel_rfl, of_decide_eq_true (by kernel_rfl)⟩
  · obtain rfl := Option.some.inj (g2.symm.trans h1)
    obtain rfl := Option.some.inj (gt2.symm.trans h2)
    exact ⟨by kernel_rfl, of_decide_eq_true (by kernel_rfl)⟩
  · obtain rfl := Option.some.inj (g0.symm.trans h1)
    obtain rfl := Option.some.inj (gt0.symm.trans h2)
    exact ⟨by kernel_rfl, of_decide_eq_true (by kernel_rfl)⟩
  · obtain rfl := Option.some.inj (g1.symm.trans h1)
    obtain rfl := Option.some.inj (gt1.symm.trans h2)
    exact ⟨by kernel_rfl, of_decide_eq_true (by kernel_rfl)⟩

set_option maxRecDepth 100000 in
theorem contract (H : Type) (enc : TypeId × Value → H) (W : World) (base : Nat) (args : Array Value) (ds gs : List (DataW H)) (before : List MemPlace)
    (hval : ∀ (j : Nat) t v, Tryd.f7.params[j]? = some t → args[j]? = some v → Value.okWide Tryd.prog W .any base t v)
    (hW : DataW.Whole enc Tryd.prog Tryd.f7.params.toList Rows.fnExactRomanTextSpec.vars false W args.toList ds gs before) (hL : laidMetH Tryd.prog Rows.fnExactRomanTextRow.laid W) :
    Calls Tryd.prog 7 args W fun e W' => ∃ v, e = .returned v ∧ Rows.fnExactRomanTextSpec.post enc Tryd.prog Tryd.f7 false true false false W args v W' := by
  have hW' := hW
  obtain ⟨p, q, hA0, hV, rfl, hfz, hnd⟩ := hW
  have hA : DataW.TrodAll enc Tryd.prog W 0 (fun _ => true) true Tryd.f7.params.toList args.toList ds p := hA0
  rw [Tryd.params7] at hA hval
  obtain ⟨v0, vs0, d0, ds0, p0, q0, hargs, rfl, rfl, h0, r0⟩ := trodAll_cons hA
  obtain ⟨rfl, rfl, rfl⟩ := trodAll_nil r0
  obtain rfl : args = #[v0] := by cases args; simp_all
  have hk : ∀ W', Below W.heap.size W W' → DataW.TrodVars enc Tryd.prog W' (fun b => decide (b < W.heap.size)) Rows.fnExactRomanTextSpec.vars gs q := fun W' hb => kit.trodVars_kept laidOut hb readable hV (DataW.TrodVars.lt hV)
  obtain ⟨g1, g2, g3, g4, rfl⟩ : ∃ g1 g2 g3 g4, gs = [g1, g2, g3, g4] := kit.gs_four hV
  obtain ⟨c00, c01, c02, c03, y00, y01, y02, y03, m0, rfl, rfl, rfl, hy00, hy01, hy02, hy03⟩ := Joins.open_agg4 Tryd.underlying54 (by kernel_rfl) (show Tryd.prog.cellsOf 54 = 4 by kernel_rfl) (hval 0 54 v0 rfl rfl) h0
  obtain ⟨a00, e00, rfl, w00⟩ := DataW.trod_int Tryd.underlying3 hy00
  obtain rfl : c00 = .int .i64 a00 := by simpa using e00
  obtain ⟨a01, e01, rfl, w01⟩ := DataW.trod_int Tryd.underlying3 hy01
  obtain rfl : c01 = .int .i64 a01 := by simpa using e01
  obtain ⟨a02, e02, rfl, w02⟩ := DataW.trod_int Tryd.underlying3 hy02
  obtain rfl : c02 = .int .i64 a02 := by simpa using e02
  obtain ⟨a03, e03, rfl⟩ := DataW.trod_bool Tryd.underlying4 hy03
  obtain rfl : c03 = .bool a03 := by simpa using e03
  clear hA0
  refine (walk a00 a01 a02 a03 W (tab0 hL) (tab1 hL) (tab2 hL) (tab3 hL)).mono fun e W' ⟨he, bel⟩ => ?_
  subst he
  exact ⟨_, rfl, _, _, _, [], _, _, hW', trodAll_mk1 (shut_bool Tryd.underlying4 _), trodAll_cons_mk (Joins.shut_agg4 (y0 := (.lit (.int .i64 a00), [])) (y1 := (.lit (.int .i64 a01), [])) (y2 := (.lit (.int .i64 a02), [])) (y3 := (.lit (.bool a03), [])) Tryd.underlying54 (by kernel_rfl) (show Tryd.prog.cellsOf 54 = 4 by kernel_rfl) ⟨1, by simp [DataW.trod, Tryd.underlying3, w00]⟩ ⟨1, by simp [DataW.trod, Tryd.underlying3, w01]⟩ ⟨1, by simp [DataW.trod, Tryd.underlying3, w02]⟩ ⟨1, by simp [DataW.trod, Tryd.underlying4]⟩) (trodAll_mk0), hk W' bel, bel.frame _, fun h => by cases h⟩

/-- A world for the witness: the settled one, each listed table holding what its initialiser lays. -/
noncomputable def laidWorld (os : Os) : World :=
  { World.holding Tryd.prog os ⟨#[], #[], []⟩ with heap := (((((World.holding Tryd.prog os ⟨#[], #[], []⟩).heap.modify 3 fun
      | .cells _ t frozen => .cells #[.string ⟨#[]⟩, .string ⟨#[97]⟩, .string ⟨#[97, 97]⟩, .string ⟨#[97, 97, 97]⟩, .string ⟨#[97, 98]⟩, .string ⟨#[98]⟩, .string ⟨#[98, 97]⟩, .string ⟨#[98, 97, 97]⟩, .string ⟨#[98, 97, 97, 97]⟩, .string ⟨#[97, 99]⟩] t frozen
      | o => o).modify 2 fun
      | .cells _ t frozen => .cells #[.string ⟨#[106, 97, 110]⟩, .string ⟨#[102, 101, 98]⟩, .string ⟨#[109, 97, 114]⟩, .string ⟨#[97, 112, 114]⟩, .string ⟨#[109, 97, 121]⟩, .string ⟨#[106, 117, 110]⟩, .string ⟨#[106, 117, 108]⟩, .string ⟨#[97, 117, 103]⟩, .string ⟨#[115, 101, 112]⟩, .string ⟨#[111, 99, 116]⟩, .string ⟨#[110, 111, 118]⟩, .string ⟨#[100, 101, 99]⟩] t frozen
      | o => o).modify 0 fun
      | .cells _ t frozen => .cells #[.int .i64 31, .int .i64 28, .int .i64 31, .int .i64 30, .int .i64 31, .int .i64 30, .int .i64 31, .int .i64 31, .int .i64 30, .int .i64 31, .int .i64 30, .int .i64 31] t frozen
      | o => o).modify 1 fun
      | .cells _ t frozen => .cells #[.string ⟨#[107, 97, 108]⟩, .string ⟨#[110, 111, 110]⟩, .string ⟨#[105, 100]⟩] t frozen
      | o => o) }
theorem laid_met (os : Os) : laidMet Tryd.prog Rows.fnExactRomanTextRow.laid ((laidWorld os).forCall (fun _ _ => 0) ⟨#[], #[.agg #[.int .i64 0, .int .i64 0, .int .i64 0, .bool false]], []⟩).memory :=
  laidMet_of_run' 8 (by kernel_rfl) (by kernel_rfl)
theorem reads (os : Os) {H : Type} (enc : TypeId × Value → H) : ∃ places, DataW.whole enc Tryd.prog ((laidWorld os).forCall (fun _ _ => 0) ⟨#[], #[.agg #[.int .i64 0, .int .i64 0, .int .i64 0, .bool false]], []⟩).memory Tryd.f7.params.toList Rows.fnExactRomanTextSpec.vars false (#[.agg #[.int .i64 0, .int .i64 0, .int .i64 0, .bool false]] : Array Value).toList 8 = some ([.agg [.lit (.int .i64 0), .lit (.int .i64 0), .lit (.int .i64 0), .lit (.bool false)]], [Rows.laid_loop_example_g00638_impl_markNames, Rows.laid_loop_example_g00638_impl_monthLengths, Rows.laid_loop_example_g00638_impl_digitShapes, Rows.laid_loop_example_g00638_impl_monthNames], places) :=
  ⟨MemPlace.row ⟨1, 0, none⟩ 3 ++ [] ++ MemPlace.row ⟨0, 0, none⟩ 12 ++ [] ++ MemPlace.row ⟨3, 0, none⟩ 10 ++ [] ++ MemPlace.row ⟨2, 0, none⟩ 12 ++ [] ++ [], by kernel_rfl⟩

set_option maxRecDepth 100000 in
theorem lifted (os : Os) (started : os.Started) (H : Type) (enc : TypeId × Value → H) (F : Stop.Interp) :
    ReturnsInHanded {} Tryd.checked os 7 .any ((OpenSpec.ofChange Rows.fnExactRomanTextSpec).preRow enc Tryd.prog Tryd.f7 Rows.fnExactRomanTextRow.domain false Rows.fnExactRomanTextRow.laid) (((OpenSpec.ofChange Rows.fnExactRomanTextSpec).at F).post enc Tryd.prog Tryd.f7 false true false false) := by
  obtain ⟨places, hx⟩ := reads os enc
  refine returnsInHanded_of_row (C := Tryd.checked) (s := OpenSpec.ofChange Rows.fnExactRomanTextSpec) own started (by kernel_rfl) Tryd.func7
    (witness_row_at (enc := enc) (C := Tryd.checked) false (laidWorld os) #[.agg #[.int .i64 0, .int .i64 0, .int .i64 0, .bool false]] rfl (by kernel_rfl) (by kernel_rfl) (by kernel_rfl)
      (OpenSpec.preRow_of_cond 8 hx (by kernel_rfl) (fun k hk => by cases hk) (by kernel_rfl) (laid_met os))) ?_
  intro W base args ds gs before hval hW _ _ _ hL _ _
  exact contract H enc W base args ds gs before hval hW hL

theorem said : Rows.FnExactRomanTextSaid :=
  OpenClaim.holds_of_cond 7 Tryd.f7 rfl rfl rfl rfl rfl rfl rfl ⟨rfl, rfl, rfl, rfl, rfl⟩ rfl rfl rfl rfl rfl (by kernel_rfl) Tryd.func7 (by kernel_rfl)
    (of_decide_eq_true (by kernel_rfl)) (by unfold Func.isWrapper; first | (rw [if_pos (by decide +kernel)]; kernel_rfl) | (rw [if_neg (by decide +kernel)]; exact ⟨rfl, rfl⟩))
    (fun os started H enc _ F => by rw [OpenClaim.pre_eq_preRow]; exact lifted os started H enc F)

theorem plain (f : FuncId) (fn : Func) (hf : Tryd.pinned.checked.prog.funcNamed "loop.example/g00638/laws.FnExactRomanText" = some f) (hfn : Tryd.pinned.checked.prog.funcs[f]? = some fn) :
    true = Tryd.pinned.checked.prog.looks [] ∧ ∀ (j : Nat) t, fn.params[j]? = some t → Tryd.pinned.checked.prog.wantsStandIn t = false := by
  obtain rfl : f = 7 := Option.some.inj ((show Tryd.prog.funcNamed "loop.example/g00638/laws.FnExactRomanText" = some 7 by kernel_rfl).symm.trans hf) |>.symm
  obtain rfl : fn = Tryd.f7 := (Option.some.inj (Tryd.func7.symm.trans hfn)).symm
  refine ⟨by kernel_rfl, fun j t ht => ?_⟩
  rw [Tryd.params7] at ht
  obtain rfl : t = 54 := by simpa using Array.mem_of_getElem? ht
  exact (show Tryd.prog.wantsStandIn 54 = false by kernel_rfl)

theorem card : Rows.FnExactRomanTextCardSaid :=
  Claim7.holds_tied_plain_at .later [] _ _ _ _ said (fun _ h => by cases h) (by kernel_rfl) (fun _ h => by cases h) fnExactRomanText_row_tie rfl ⟨rfl, rfl⟩ (by kernel_rfl) rfl plain (by kernel_rfl)
end Go.Proofs.YtnjfhfjnbimdlaaDoor.fnExactRomanText

namespace Go.Proofs.YtnjfhfjnbimdlaaDoor
theorem fnExactRomanText_holds : Rows.FnExactRomanTextCardSaid := fnExactRomanText.card
#print axioms fnExactRomanText_holds
end Go.Proofs.YtnjfhfjnbimdlaaDoor
