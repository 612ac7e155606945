/- FnExactFloorMod: for every two ints the law that impl.FloorMod answers as its model returns true, and both arguments read as before. No condition. -/
import Derived.Test.YtljlgnadomebcaeRows
import Derived.WalkKit
import Derived.ProofKit
import Derived.OpenShut
namespace Go.Proofs.Ytljlgnadomebcae.fnExactFloorMod
open Go.ChangeShapes Go.WideShapes Go.ChangeAt Go.RowKit
set_option linter.unusedVariables false      -- a walk need not use every 'w<i>' (that an integer argument fits its kind)

theorem own : ownKnob Try.prog.godebug = none := by kernel_rfl

/-! ### THE PLAIN LAWS: no Go in sight -/
theorem wrap_ex (x : Int) : ∃ k, wrap64 x = x + 18446744073709551616 * k :=
  ⟨-((x + 9223372036854775808) / 18446744073709551616), by unfold wrap64; omega⟩
theorem wrap_eq (x y : Int) (h : ∃ k, x = y + 18446744073709551616 * k) : wrap64 x = wrap64 y := by
  obtain ⟨k, rfl⟩ := h
  unfold wrap64
  omega
theorem in_range (n : Int) (h : -9223372036854775808 ≤ n ∧ n ≤ 9223372036854775807) : wrap64 n = n := by unfold wrap64; omega
theorem low_rest (a b : Int) (ha : -9223372036854775808 ≤ a ∧ a ≤ 9223372036854775807) (hb : -9223372036854775808 ≤ b ∧ b ≤ 9223372036854775807) (h0 : 0 < b) (hr : a.tmod b < 0) :
    (wrap64 (a - wrap64 (b * wrap64 (wrap64 (a.tdiv b) - 1))) != wrap64 (a.tmod b + b)) = false := by
  have hd := Int.mul_tdiv_add_tmod a b
  have : wrap64 (a - wrap64 (b * wrap64 (wrap64 (a.tdiv b) - 1))) = wrap64 (a.tmod b + b) := by
    apply wrap_eq
    obtain ⟨k1, e1⟩ := wrap_ex (a.tdiv b)
    obtain ⟨k2, e2⟩ := wrap_ex (wrap64 (a.tdiv b) - 1)
    obtain ⟨k3, e3⟩ := wrap_ex (b * wrap64 (wrap64 (a.tdiv b) - 1))
    refine ⟨-(b * k1) - b * k2 - k3, ?_⟩
    rw [e3, e2, e1]
    have : b * (a.tdiv b + 18446744073709551616 * k1 - 1 + 18446744073709551616 * k2) = b * a.tdiv b + 18446744073709551616 * (b * k1) - b + 18446744073709551616 * (b * k2) := by
      rw [Int.mul_add, Int.mul_sub, Int.mul_add, Int.mul_one, Int.mul_left_comm b, Int.mul_left_comm b]
    rw [this]
    omega
  rw [this]
  simp
theorem high_rest (a b : Int) (ha : -9223372036854775808 ≤ a ∧ a ≤ 9223372036854775807) (hr : 0 ≤ a.tmod b) :
    (wrap64 (a - wrap64 (b * wrap64 (a.tdiv b))) != a.tmod b) = false := by
  have hd := Int.mul_tdiv_add_tmod a b
  have hz : a.tmod b ≤ 9223372036854775807 := by
    have h1 : (a.tmod b).natAbs ≤ a.natAbs := by rw [Int.natAbs_tmod]; exact Nat.mod_le _ _
    by_cases hn : 0 ≤ a
    · omega
    · have h2 : 0 ≤ (-a).tmod b := Int.tmod_nonneg b (by omega)
      rw [Int.neg_tmod] at h2
      omega
  have : wrap64 (a - wrap64 (b * wrap64 (a.tdiv b))) = a.tmod b := by
    rw [← in_range (a.tmod b) ⟨by omega, hz⟩]
    apply wrap_eq
    obtain ⟨k1, e1⟩ := wrap_ex (a.tdiv b)
    obtain ⟨k3, e3⟩ := wrap_ex (b * wrap64 (a.tdiv b))
    refine ⟨-(b * k1) - k3, ?_⟩
    rw [e3, e1]
    have : b * (a.tdiv b + 18446744073709551616 * k1) = b * a.tdiv b + 18446744073709551616 * (b * k1) := by
      rw [Int.mul_add, Int.mul_left_comm b]
    rw [this]
    omega
  rw [this]
  simp

/-! ### STEP 1: THE WALK: the Go text returns true. 'Grown w w'': the world has at most new blocks (Derived/RowKit3.lean). Part the cases AHEAD of 'go_enter' where a test parts the walk; take each callee by a contract of your own. -/
theorem walk (a0 : Int) (a1 : Int) (w0 : (Lit.int .i64 a0).wf = true) (w1 : (Lit.int .i64 a1).wf = true) (w : World) :
    Calls Try.prog 4 #[.int .i64 a0, .int .i64 a1] w fun e w' => e = .returned (.bool true) ∧ Grown w w' := by
  by_cases c1 : a1 ≤ 0
  · go_enter Try.func4, Try.ntmps4
    go_wp2
    go_ret
    exact ⟨rfl, by repeat (first | exact Grown.refl _ | apply Grown.drew | apply Grown.alloc)⟩
  · by_cases c2 : Int.tmod a0 a1 < 0
    · have e1 := low_rest a0 a1 (bounds_i64 w0) (bounds_i64 w1) (by omega) c2
      go_enter Try.func4, Try.ntmps4
      go_wp2
      go_ret
      exact ⟨rfl, by repeat (first | exact Grown.refl _ | apply Grown.drew | apply Grown.alloc)⟩
    · have e2 := high_rest a0 a1 (bounds_i64 w0) (by omega)
      go_enter Try.func4, Try.ntmps4
      go_wp2
      go_ret
      exact ⟨rfl, by repeat (first | exact Grown.refl _ | apply Grown.drew | apply Grown.alloc)⟩

/-! ### THE ROW's STEP: WRITTEN OUT: LEAVE IT -/
set_option maxRecDepth 100000 in
theorem lifted (os : Os) (started : os.Started) (H : Type) (enc : TypeId × Value → H) :
    ReturnsInHanded {} Try.checked os 4 .any (Rows.fnExactFloorModSpec.pre6 enc Try.prog Try.f4 Rows.fnExactFloorModRow.domain false) (Rows.fnExactFloorModSpec.post enc Try.prog Try.f4 false true false false) := by
  refine returnsInHanded_of_change (C := Try.checked) own started (by kernel_rfl) Try.func4
    (ChangeSpec.witness6 (enc := enc) (C := Try.checked) false ⟨#[], #[.int .i64 0, .int .i64 0], []⟩ 8 (by kernel_rfl) (by kernel_rfl) (by kernel_rfl) (by kernel_rfl)) ?_
  intro W base args ds gs before hval0 hW hcnd _
  have hval : ∀ (j : Nat) t v, Try.f4.params[j]? = some t → args[j]? = some v → Value.okWide Try.prog W .any base t v := hval0
  have hW' := hW
  obtain ⟨p, q, hA0, hV, rfl, hfz, hnd⟩ := hW
  have hA : DataW.TrodAll enc Try.prog W 0 (fun _ => true) true Try.f4.params.toList args.toList ds p := hA0
  rw [Try.params4] at hA hval
  obtain ⟨v0, vs0, d0, ds0, p0, q0, hargs, rfl, rfl, h0, r0⟩ := trodAll_cons hA
  obtain ⟨v1, vs1, d1, ds1, p1, q1, rfl, rfl, rfl, h1, r1⟩ := trodAll_cons r0
  obtain ⟨rfl, rfl, rfl⟩ := trodAll_nil r1
  obtain rfl : args = #[v0, v1] := by cases args; simp_all
  obtain ⟨rfl, rfl⟩ := trodVars_none hV
  obtain ⟨a0, rfl, rfl, rfl, w0⟩ := open_int Try.underlying3 (hval 0 3 v0 rfl rfl) h0
  obtain ⟨a1, rfl, rfl, rfl, w1⟩ := open_int Try.underlying3 (hval 1 3 v1 rfl rfl) h1
  clear hA0 hval0
  simp only [List.append_nil] at hW'
  refine (walk a0 a1 w0 w1 W).mono fun e W' ⟨he, hg⟩ => ?_
  subst he
  exact ⟨_, rfl, post_of_same (pa := []) (pv := []) hW' (fun _ _ _ => (trodAll_cons_mk (shut_bool Try.underlying4 _) trodAll_mk0)) (fun sp _ => (trodAll_cons_mk (shut_int Try.underlying3 w0) (trodAll_cons_mk (shut_int Try.underlying3 w1) trodAll_mk0))) (fun _ _ => rfl) rfl
    (hg.frame _) hg.2.1 (ok_one (by kernel_rfl) rfl (okWide_bool_mk Try.underlying4 _))⟩

theorem over : Rows.fnExactFloorModRow.holds Try.pinned (OpenSpec.ofChange Rows.fnExactFloorModSpec) :=
  OpenClaim.holds_of_wide 4 Try.f4 rfl rfl rfl rfl rfl rfl rfl ⟨rfl, rfl, rfl, rfl, rfl⟩ rfl rfl rfl rfl rfl (by kernel_rfl) Try.func4 (by kernel_rfl)
    (of_decide_eq_true (by kernel_rfl)) (by unfold Func.isWrapper; first | (rw [if_pos (by decide +kernel)]; kernel_rfl) | (rw [if_neg (by decide +kernel)]; exact ⟨rfl, rfl⟩))
    (fun os started H enc _ => lifted os started H enc)

/-- ████ THE STATEMENT ████ -/
theorem proved : Rows.FnExactFloorModSaid :=
  over
end Go.Proofs.Ytljlgnadomebcae.fnExactFloorMod

namespace Go.Proofs.Ytljlgnadomebcae
theorem fnExactFloorMod_holds : Rows.FnExactFloorModSaid := fnExactFloorMod.proved
#print axioms fnExactFloorMod_holds
end Go.Proofs.Ytljlgnadomebcae
