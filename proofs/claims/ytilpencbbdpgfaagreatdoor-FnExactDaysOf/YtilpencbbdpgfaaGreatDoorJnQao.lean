/- Contracts of the program's firstShared and firstBare: whether two segments share a day, whether a day is bare. errors.As at an error of the program's own type, held in an interface by value, and a variable of that type: true, and the variable holds it; at no error: false. errors.As, the hit. -/
import Derived.Test.YtilpencbbdpgfaaGreatDoorJnQan
import Derived.Test.YtilpencbbdpgfaaGreatDoorJnQaa
import Derived.WalkKit
import Derived.LaidEql
import Derived.Stop.Asserts
import Derived.RowKitTokens
namespace Go.Proofs.YtilpencbbdpgfaaGreatDoor.ctr
open Go.RowKit
set_option maxRecDepth 100000 in
set_option maxHeartbeats 2000000 in
theorem implShared (v : Value) (L : List Seg) (w : World) (h : IRow segK w v L) (hl : L.length ≤ 1048576) : Calls Tryz.prog 298 #[v] w fun e w' => ∃ d : Int, e = .returned (.tuple #[.int .i64 d, .bool (sharedB L)]) ∧ Below w.heap.size w w' := by
  obtain ⟨ad, c, rfl, hc, hcm, H⟩ := h
  have HR := hideP H
  unfold maxLen at hcm
  obtain ⟨N, hN⟩ : ∃ N, N = L.length := ⟨_, rfl⟩
  have HN := hideP hN
  rw [← hN] at hl hc ⊢
  obtain ⟨R, hR⟩ : ∃ R, R = sharedB L := ⟨_, rfl⟩
  have HRr := hideP hR
  rw [← hR]
  clear H hN hR
  go_enter Tryz.func298, Tryz.ntmps298
  go_wp2
  go_loopw [4] (fun i wr => ∃ k : Nat, i = .int .i64 ((k : Int) + 1) ∧ k ≤ N ∧ Hid (NoSh L N k) ∧ ∃ y : Later w, wr = y.w) (fun i _ => N + 1 - (intOf i).toNat)
  case atStart => exact ⟨0, rfl, Nat.zero_le _, fun j h1 h2 => by omega, ⟨w, Below.refl _ _⟩, rfl⟩
  case round =>
    obtain ⟨k, rfl, hk, HJ, y, rfl⟩ := hrel
    by_cases hlt : k + 1 < N
    · obtain ⟨g, rfl, hg, x1⟩ := HR.out (k + 1) (by rw [← HN.out]; exact hlt)
      obtain ⟨g', eg, _, x0⟩ := HR.out k (by rw [← HN.out]; omega)
      cases eg
      have hlt' : (k : Int) + 1 < (N : Int) := by omega
      have e1 : (k : Int) + 1 - 1 = (k : Int) := by omega
      have a0 : ∀ y : Later w, y.w.cell? ⟨g, (k + 1) * 5, none⟩ = some (.int .i64 (sgA L (k + 1)).fr) := fun y => (x1.below y.below hg).seg.1
      have a1 : ∀ y : Later w, y.w.cell? ⟨g, k * 5 + 1, none⟩ = some (.int .i64 (sgA L k).to) := fun y => (x0.below y.below hg).seg.2.1
      have HY : Hid ((sgA L (k + 1)).fr ≤ (sgA L k).to → R = true) := fun q => by rw [HRr.out]; exact shared_yes ⟨k + 1, by omega, by rw [← HN.out]; exact hlt, q⟩
      have HX : Hid (¬ (sgA L (k + 1)).fr ≤ (sgA L k).to → NoSh L N (k + 1)) := fun q j h1 h2 h3 => by
        by_cases e : j = k + 1
        · subst e; exact q
        · exact HJ.out j h1 (by omega) h3
      clear HJ x0 x1
      generalize (sgA L (k + 1)).fr = p at *
      generalize (sgA L k).to = q at *
      by_cases hpq : p ≤ q
      · have hd : decide (p ≤ q) = true := decide_eq_true hpq
        have HE := hideP (HY.out hpq)
        go_wp2_with fail
        refine wp_region_later (W := w) y.below (by kernel_rfl) (by kernel_rfl) ?_
        repeat (go_big_quiet_step (fail))
        refine wpQuiet_nil ?_
        intro _ hw'
        obtain ⟨x, rfl⟩ := hw'
        go_wp2_with fail
        go_returns
        first | exact ⟨p, (by rw [HE.out]; first | done | rfl), x.below⟩ | exact ⟨⟨p, (by rw [HE.out]; first | done | rfl)⟩, x.below⟩
      · have hd : decide (p ≤ q) = false := decide_eq_false hpq
        have HE := hideP (HX.out hpq)
        go_wp2_with fail
        refine wp_region_later (W := w) y.below (by kernel_rfl) (by kernel_rfl) ?_
        repeat (go_big_quiet_step (fail))
        refine wpQuiet_nil ?_
        intro _ hw'
        obtain ⟨x, rfl⟩ := hw'
        go_wp2
        exact ⟨⟨k + 1, by go_num, by omega, HE.out, x, rfl⟩, by simp [intOf]; omega⟩
    · have hlt' : ¬ ((k : Int) + 1 < (N : Int)) := by omega
      have HS : Hid (R = false) := by
        unfold Hid
        rw [HRr.out]
        exact shared_no (fun ⟨i, h1, h2, h3⟩ => HJ.out i h1 (by rw [← HN.out] at h2; omega) (by rw [HN.out]; exact h2) h3)
      clear HJ
      go_wp2
      go_returns
      first | exact ⟨0, (by rw [HS.out]; first | done | rfl), y.below⟩ | exact ⟨⟨0, (by rw [HS.out]; first | done | rfl)⟩, y.below⟩
def bareB (f t : Int) (L : List Seg) : Bool := if t < f then false else bareI t L f
theorem bareB_same {f t : Int} {l : List Seg} : bareB f t (fullS l) = bareS t (fullS l) f := by
  unfold bareB
  by_cases h : t < f
  · rw [if_pos h, bareS_no (by omega)]
  · rw [if_neg h]
    exact bare_same _ _ (full_days l) (by omega)
set_option maxRecDepth 100000 in
set_option maxHeartbeats 2000000 in
theorem implBare (f t : Int) (v : Value) (L : List Seg) (w : World) (h : IRow segK w v L) (hl : L.length ≤ 1048576) (ht : t ≤ 9223372036854775807) (hw : ∀ s ∈ L, -9223372036854775808 ≤ s.to) : Calls Tryz.prog 299 #[.int .i64 f, .int .i64 t, v] w fun e w' => ∃ d : Int, e = .returned (.tuple #[.int .i64 d, .bool (bareB f t L)]) ∧ Below w.heap.size w w' := by
  obtain ⟨ad, c, rfl, hc, hcm, H⟩ := h
  have HR := hideP H
  unfold maxLen at hcm
  have HW : Hid (∀ k, k < L.length → -9223372036854775808 ≤ (sgA L k).to) := fun k hk => by rw [sgA_eq hk]; exact hw _ (List.getElem_mem hk)
  obtain ⟨N, hN⟩ : ∃ N, N = L.length := ⟨_, rfl⟩
  have HN := hideP hN
  rw [← hN] at hl hc ⊢
  obtain ⟨R, hR⟩ : ∃ R, R = bareB f t L := ⟨_, rfl⟩
  have HRr := hideP hR
  rw [← hR]
  clear H hN hR hw
  by_cases hft : t < f
  · have HE : Hid (R = false) := by unfold Hid; rw [HRr.out, bareB, if_pos hft]
    have hd : decide (t < f) = true := decide_eq_true hft
    go_enter Tryz.func299, Tryz.ntmps299
    go_wp2
    go_returns
    first | exact ⟨0, (by rw [HE.out]; first | done | rfl), Below.refl _ _⟩ | exact ⟨⟨0, (by rw [HE.out]; first | done | rfl)⟩, Below.refl _ _⟩
  have hd : decide (t < f) = false := decide_eq_false hft
  have HRI : Hid (R = bareI t L f) := by unfold Hid; rw [HRr.out, bareB, if_neg hft]
  go_enter Tryz.func299, Tryz.ntmps299
  go_wp2
  go_loopw [8, 17] (fun n i wr => ∃ (k : Nat) (z : Int), k ≤ N ∧ i = .int .i64 (k : Int) ∧ n = .int .i64 z ∧ Hid (bareI t (L.drop k) z = R) ∧ Below w.heap.size w wr) (fun _ i _ => N - (intOf i).toNat)
  case atStart => exact ⟨0, f, Nat.zero_le _, rfl, rfl, HRI.out.symm, Below.refl _ _⟩
  case round =>
    obtain ⟨k, z, hk, rfl, rfl, HF, hB⟩ := hrel
    have HB := hideP hB
    clear hB
    by_cases hlt : k < N
    · obtain ⟨g, rfl, hg, x⟩ := HR.out k (by rw [← HN.out]; exact hlt)
      obtain ⟨c0, c1, c2, c3, c4⟩ := (x.below HB.out hg).seg
      have HA := hideP (bareI_at (to := t) (n := z) (L := L) (k := k) (by rw [← HN.out]; exact hlt))
      have hs0 := HW.out k (by rw [← HN.out]; exact hlt)
      rw [show atK segK L k = sgA L k from rfl] at c0 c1 c2 c3 c4
      clear x
      generalize sgA L k = s at *
      by_cases h1 : z < s.fr
      · have HE : Hid (R = true) := by unfold Hid; rw [← HF.out, HA.out, if_pos h1]
        have hd1 : decide (z < s.fr) = true := decide_eq_true h1
        go_wp2
        go_returns
        first | exact ⟨z, (by rw [HE.out]; first | done | rfl), HB.out.alloc HB.out.size _⟩ | exact ⟨⟨z, (by rw [HE.out]; first | done | rfl)⟩, HB.out.alloc HB.out.size _⟩
      have hd1 : decide (z < s.fr) = false := decide_eq_false h1
      by_cases h2 : t ≤ s.to
      · have HE : Hid (R = false) := by unfold Hid; rw [← HF.out, HA.out, if_neg h1, if_pos h2]
        have hd2 : decide (t ≤ s.to) = true := decide_eq_true h2
        go_wp2
        go_returns
        first | exact ⟨0, (by rw [HE.out]; first | done | rfl), HB.out.alloc HB.out.size _⟩ | exact ⟨⟨0, (by rw [HE.out]; first | done | rfl)⟩, HB.out.alloc HB.out.size _⟩
      have hd2 : decide (t ≤ s.to) = false := decide_eq_false h2
      have HE : Hid (bareI t (L.drop (k + 1)) (max z (s.to + 1)) = R) := by unfold Hid; rw [← HF.out, HA.out, if_neg h1, if_neg h2]
      go_wp2
      exact ⟨⟨k + 1, max z (s.to + 1), by omega, by go_num, by first | rfl | go_num | (congr 1; omega), HE.out, HB.out.alloc HB.out.size _⟩, by simp [intOf]; omega⟩
    · have HE : Hid (R = true) := by unfold Hid; rw [← HF.out]; exact bareI_end (by rw [← HN.out]; omega)
      go_wp2
      go_returns
      first | exact ⟨z, (by rw [HE.out]; first | done | rfl), HB.out⟩ | exact ⟨⟨z, (by rw [HE.out]; first | done | rfl)⟩, HB.out⟩
end Go.Proofs.YtilpencbbdpgfaaGreatDoor.ctr
namespace Go.Proofs.YtilpencbbdpgfaaGreatDoor.ctr
open Go.RowKit Go.Extern.Stop Go.Stop Go.Extern
theorem as_nil (t : Value) (w : World) : Calls Tryz.prog 244 #[.nilIface, t] w fun e w' => e = .returned (.bool false) ∧ w' = w := by
  go_enter Tryz.func244, Tryz.ntmps244
  go_wp2
  go_ret
  exact ⟨rfl, rfl⟩
theorem a_valueOfP (t : Addr) (w : World) : (ReflectliteValue.unpack (.iface 246 (.pointer (some t)))).run Tryz.prog w
    = .ok (.agg #[.pointer (some ⟨10, 246, none⟩), .pointer (some ⟨w.heap.size, 0, none⟩), .int .u64 150]) (w.alloc (.cells #[.pointer (some t)] 246)) := by kernel_rfl
theorem a_typeP (a : Addr) (w : World) : (ReflectliteValue.methodAny (ReflectliteValue.valueError "reflectlite.Value.Type" 0) (fun t _ _ _ => ReflectliteType.toType t) #[.agg #[.pointer (some ⟨10, 246, none⟩), .pointer (some a), .int .u64 150]]).run Tryz.prog w
    = .ok (.iface 300 (.agg #[.pointer (some ⟨10, 246, none⟩)])) w := by kernel_rfl
theorem a_mKind (h : Value) (w : World) : (Go.method 511 300 (.agg #[h]) "Kind").run Tryz.prog w = .ok (391, h) w := by kernel_rfl
theorem a_kindP (w : World) : ((ReflectliteType.abiMethod fun t => (fun a : Nat => Value.int IntKind.u8 (a : Int)) <$> Rtype.kind t) #[.pointer (some ⟨10, 246, none⟩)]).run Tryz.prog w = .ok (.int .u8 22) w := by kernel_rfl
theorem a_kindS (w : World) : ((ReflectliteType.abiMethod fun t => (fun a : Nat => Value.int IntKind.u8 (a : Int)) <$> Rtype.kind t) #[.pointer (some ⟨10, 243, none⟩)]).run Tryz.prog w = .ok (.int .u8 25) w := by kernel_rfl
theorem a_mElem (h : Value) (w : World) : (Go.method 511 300 (.agg #[h]) "Elem").run Tryz.prog w = .ok (418, .agg #[h]) w := by kernel_rfl
theorem a_mImpl (h : Value) (w : World) : (Go.method 511 300 (.agg #[h]) "Implements").run Tryz.prog w = .ok (419, .agg #[h]) w := by kernel_rfl
theorem a_mAssign (h : Value) (w : World) : (Go.method 511 300 (.agg #[h]) "AssignableTo").run Tryz.prog w = .ok (416, .agg #[h]) w := by kernel_rfl
theorem a_elemT (w : World) : (ReflectliteType.method ReflectliteType.elem #[.agg #[.pointer (some ⟨10, 246, none⟩)]]).run Tryz.prog w = .ok (.iface 300 (.agg #[.pointer (some ⟨10, 243, none⟩)])) w := by kernel_rfl
theorem a_implS (w : World) : (ReflectliteType.relation "Implements" ReflectliteType.implements_ #[.agg #[.pointer (some ⟨10, 243, none⟩)], .iface 300 (.agg #[.pointer (some ⟨10, 192, none⟩)])]).run Tryz.prog w = .ok (.bool true) w := by kernel_rfl
theorem a_typeOfS (v : Value) (w : World) : (ReflectliteType.typeOf #[.iface 243 v]).run Tryz.prog w = .ok (.iface 300 (.agg #[.pointer (some ⟨10, 243, none⟩)])) w := by kernel_rfl
theorem a_assignS (w : World) : (ReflectliteType.relation "AssignableTo" ReflectliteType.assignableTo #[.agg #[.pointer (some ⟨10, 243, none⟩)], .iface 300 (.agg #[.pointer (some ⟨10, 243, none⟩)])]).run Tryz.prog w = .ok (.bool true) w := by kernel_rfl
theorem a_valueOfS (a b : Int) (w : World) : (ReflectliteValue.unpack (.iface 243 (.agg #[.int .i64 a, .int .i64 b]))).run Tryz.prog w
    = .ok (.agg #[.pointer (some ⟨10, 243, none⟩), .pointer (some ⟨w.heap.size, 0, none⟩), .int .u64 153]) (w.alloc (.cells #[.int .i64 a, .int .i64 b] 243)) := by kernel_rfl
theorem a_rlm (z : Sem Value) (f : TypeId → Addr → Nat → Nat → Sem Value) (v : Value) :
    ReflectliteValue.method z f #[v] = (do match ← ReflectliteValue.parts v with | none => z | some (t, a, fl) => f t a fl (fl % 32)) := rfl
theorem a_partsP (a : Addr) (w : World) : (ReflectliteValue.parts (.agg #[.pointer (some ⟨10, 246, none⟩), .pointer (some a), .int .u64 150])).run Tryz.prog w = .ok (some (246, a, 150)) w := by kernel_rfl
theorem a_isNilP (a p : Addr) (W : World) (ha : W.cell? a = some (.pointer (some p))) :
    (ReflectliteValue.method (ReflectliteValue.valueError "reflectlite.Value.IsNil" 0) ReflectliteValue.isNil #[.agg #[.pointer (some ⟨10, 246, none⟩), .pointer (some a), .int .u64 150]]).run Tryz.prog W = .ok (.bool false) W := by
  rw [a_rlm]
  simp only [Sem.run_bind, a_partsP, Result.andThen]
  simp [ReflectliteValue.isNil, loadVar, isAgg, underlying, Tryz.underlying246, ha, Result.andThen]
theorem a_elemOf (w : World) : (Rtype.elem? 246).run Tryz.prog w = .ok (some 243) w := by kernel_rfl
theorem a_mkS (p : Addr) (w : World) : (ReflectliteValue.mk 243 p ReflectliteValue.flagAddr).run Tryz.prog w = .ok (.agg #[.pointer (some ⟨10, 243, none⟩), .pointer (some p), .int .u64 409]) w := by kernel_rfl
theorem a_elemV (a p : Addr) (W : World) (ha : W.cell? a = some (.pointer (some p))) :
    (ReflectliteValue.method (ReflectliteValue.valueError "reflectlite.Value.Elem" 0) ReflectliteValue.elem #[.agg #[.pointer (some ⟨10, 246, none⟩), .pointer (some a), .int .u64 150]]).run Tryz.prog W
      = .ok (.agg #[.pointer (some ⟨10, 243, none⟩), .pointer (some p), .int .u64 409]) W := by
  rw [a_rlm]
  simp only [Sem.run_bind, a_partsP, Result.andThen]
  simp [ReflectliteValue.elem, loadVar, isAgg, underlying, Tryz.underlying246, ha, Result.andThen, a_elemOf, a_mkS]
theorem a_rls (v x : Value) : ReflectliteValue.set #[v, x] = (do
    let (some (dst, a, fl), some (src, b, _)) := (← ReflectliteValue.parts v, ← ReflectliteValue.parts x)
      | unsupported (.noEntry "extern/(internal/reflectlite.Value).Set.zeroValue")
    if fl / ReflectliteValue.flagAddr % 2 == 0 then unsupported (.noEntry "extern/(internal/reflectlite.Value).Set.unaddressable")
    let val ← loadVar src b
    if ← Rtype.directlyAssignable dst src then storeVar dst a val
    else if ← Rtype.implements dst src then
      if (← Rtype.kind src) == 20 then
        match val with
        | .nilIface => unsupported (.noEntry "extern/reflectlite: a nil value of one interface type handed on as a value of another")
        | _ => storeVar dst a val
      else storeVar dst a (.iface src val)
    else panicString ("reflectlite.Set: value of type " ++ (← Rtype.spelt src) ++ " is not assignable to type " ++ (← Rtype.spelt dst))
    pure (.tuple #[])) := rfl
theorem a_partsA (a : Addr) (w : World) : (ReflectliteValue.parts (.agg #[.pointer (some ⟨10, 243, none⟩), .pointer (some a), .int .u64 409])).run Tryz.prog w = .ok (some (243, a, 409)) w := by kernel_rfl
theorem a_partsS (a : Addr) (w : World) : (ReflectliteValue.parts (.agg #[.pointer (some ⟨10, 243, none⟩), .pointer (some a), .int .u64 153])).run Tryz.prog w = .ok (some (243, a, 153)) w := by kernel_rfl
theorem a_direct (w : World) : (Rtype.directlyAssignable 243 243).run Tryz.prog w = .ok true w := by kernel_rfl
end Go.Proofs.YtilpencbbdpgfaaGreatDoor.ctr
namespace Go.Proofs.YtilpencbbdpgfaaGreatDoor.ctr
open Go.RowKit Go.Extern.Stop Go.Stop Go.Extern
theorem a_loadS (s : Nat) (a b : Int) (W : World) (h0 : W.cell? ⟨s, 0, none⟩ = some (.int .i64 a)) (h1 : W.cell? ⟨s, 1, none⟩ = some (.int .i64 b)) : (loadVar 243 ⟨s, 0, none⟩).run Tryz.prog W = .ok (.agg #[.int .i64 a, .int .i64 b]) W := by
  go_simp
theorem a_storeS (s : Nat) (a b : Int) (W : World) (u0 u1 : Value) (h0 : W.cell? ⟨s, 0, none⟩ = some u0) (h1 : W.cell? ⟨s, 1, none⟩ = some u1) (f0 : W.frozen? ⟨s, 0, none⟩ = false) (f1 : W.frozen? ⟨s, 1, none⟩ = false) : (storeVar 243 ⟨s, 0, none⟩ (.agg #[.int .i64 a, .int .i64 b])).run Tryz.prog W = .ok () ((W.setCell ⟨s, 0, none⟩ (.int .i64 a)).setCell ⟨s, 1, none⟩ (.int .i64 b)) := by
  go_simp
theorem a_set (t s : Nat) (a b : Int) (u0 u1 : Value) (W : World) (h0 : W.cell? ⟨s, 0, none⟩ = some (.int .i64 a)) (h1 : W.cell? ⟨s, 1, none⟩ = some (.int .i64 b)) (g0 : W.cell? ⟨t, 0, none⟩ = some u0) (g1 : W.cell? ⟨t, 1, none⟩ = some u1) (f0 : W.frozen? ⟨t, 0, none⟩ = false) (f1 : W.frozen? ⟨t, 1, none⟩ = false) :
    (ReflectliteValue.set #[.agg #[.pointer (some ⟨10, 243, none⟩), .pointer (some ⟨t, 0, none⟩), .int .u64 409], .agg #[.pointer (some ⟨10, 243, none⟩), .pointer (some ⟨s, 0, none⟩), .int .u64 153]]).run Tryz.prog W
      = .ok (.tuple #[]) ((W.setCell ⟨t, 0, none⟩ (.int .i64 a)).setCell ⟨t, 1, none⟩ (.int .i64 b)) := by
  rw [a_rls]
  simp only [Sem.run_bind, a_partsA, a_partsS, Result.andThen]
  simp [ReflectliteValue.flagAddr, a_loadS s a b W h0 h1, Result.andThen, a_direct, a_storeS t a b W u0 u1 g0 g1 f0 f1]
set_option maxRecDepth 100000 in
set_option maxHeartbeats 4000000 in
theorem as_hit (a b : Int) (t : Nat) (u0 u1 : Value) (w : World) (hg : w.cell? ⟨3, 0, none⟩ = some (.iface 300 (.agg #[.pointer (some ⟨10, 192, none⟩)]))) (ht : Blk w t #[u0, u1] 243) :
    Calls Tryz.prog 244 #[.iface 243 (.agg #[.int .i64 a, .int .i64 b]), .iface 246 (.pointer (some ⟨t, 0, none⟩))] w fun ev w' => ev = .returned (.bool true) ∧ w' = ((((((w.alloc (.cells #[.pointer (some ⟨t, 0, none⟩)] 246)).alloc (.cells #[.pointer (some ⟨10, 246, none⟩), .pointer (some ⟨w.heap.size, 0, none⟩), .int .u64 150] 289)).alloc (.cells #[.pointer (some ⟨10, 246, none⟩), .pointer (some ⟨w.heap.size, 0, none⟩), .int .u64 150] 289)).alloc (.cells #[.int .i64 a, .int .i64 b] 243)).setCell ⟨t, 0, none⟩ (.int .i64 a)).setCell ⟨t, 1, none⟩ (.int .i64 b)) := by
  have h6 := @run_callFunc_extern Tryz.prog 291 _ (fun args => ReflectliteValue.unpack (args.getD 0 (.tuple #[]))) Tryz.func291 (by kernel_rfl) (by kernel_rfl) (by kernel_rfl) (by kernel_rfl)
  have h7 := @run_callFunc_extern Tryz.prog 292 _ (ReflectliteValue.methodAny (ReflectliteValue.valueError "reflectlite.Value.Type" 0) (fun t _ _ _ => ReflectliteType.toType t)) Tryz.func292 (by kernel_rfl) (by kernel_rfl) (by kernel_rfl) (by kernel_rfl)
  have h8 := @run_callFunc_extern Tryz.prog 293 _ (ReflectliteValue.method (ReflectliteValue.valueError "reflectlite.Value.IsNil" 0) ReflectliteValue.isNil) Tryz.func293 (by kernel_rfl) (by kernel_rfl) (by kernel_rfl) (by kernel_rfl)
  have h27 := @run_callFunc_extern Tryz.prog 391 _ (ReflectliteType.abiMethod fun t => do pure (.int .u8 (← Rtype.kind t))) Tryz.func391 (by kernel_rfl) (by kernel_rfl) (by kernel_rfl) (by kernel_rfl)
  have h37 := @run_callFunc_extern Tryz.prog 418 _ (ReflectliteType.method ReflectliteType.elem) Tryz.func418 (by kernel_rfl) (by kernel_rfl) (by kernel_rfl) (by kernel_rfl)
  have h38 := @run_callFunc_extern Tryz.prog 419 _ (ReflectliteType.relation "Implements" ReflectliteType.implements_) Tryz.func419 (by kernel_rfl) (by kernel_rfl) (by kernel_rfl) (by kernel_rfl)
  have h10 := @run_callFunc_extern Tryz.prog 246 _ ReflectliteType.typeOf Tryz.func246 (by kernel_rfl) (by kernel_rfl) (by kernel_rfl) (by kernel_rfl)
  have h35 := @run_callFunc_extern Tryz.prog 416 _ (ReflectliteType.relation "AssignableTo" ReflectliteType.assignableTo) Tryz.func416 (by kernel_rfl) (by kernel_rfl) (by kernel_rfl) (by kernel_rfl)
  have h11 := @run_callFunc_extern Tryz.prog 319 _ (ReflectliteValue.method (ReflectliteValue.valueError "reflectlite.Value.Elem" 0) ReflectliteValue.elem) Tryz.func319 (by kernel_rfl) (by kernel_rfl) (by kernel_rfl) (by kernel_rfl)
  have h12 := @run_callFunc_extern Tryz.prog 320 _ ReflectliteValue.set Tryz.func320 (by kernel_rfl) (by kernel_rfl) (by kernel_rfl) (by kernel_rfl)
  have tO := a_typeOfS
  have mA := a_mAssign
  have aS := a_assignS
  have vS := a_valueOfS
  have f6 := a_valueOfP
  have f7 := a_typeP
  have mK := a_mKind
  have mE := a_mElem
  have mI := a_mImpl
  have kP := a_kindP
  have kS := a_kindS
  have eT := a_elemT
  have iS := a_implS
  have n8 := a_isNilP ⟨w.heap.size, 0, none⟩ ⟨t, 0, none⟩ ((w.alloc (.cells #[.pointer (some ⟨t, 0, none⟩)] 246)).alloc (.cells #[.pointer (some ⟨10, 246, none⟩), .pointer (some ⟨w.heap.size, 0, none⟩), .int .u64 150] 289)) (by simp)
  have hlt : 3 < w.heap.size := by
    rcases Nat.lt_or_ge 3 w.heap.size with h | h
    · exact h
    · simp [World.cell?, Array.getElem?_eq_none h] at hg
  have hg2 : ((w.alloc (.cells #[.pointer (some ⟨t, 0, none⟩)] 246)).alloc (.cells #[.pointer (some ⟨10, 246, none⟩), .pointer (some ⟨w.heap.size, 0, none⟩), .int .u64 150] 289)).cell? ⟨3, 0, none⟩ = some (.iface 300 (.agg #[.pointer (some ⟨10, 192, none⟩)])) := by
    rw [World.cell?_alloc_lt _ _ ⟨3, 0, none⟩ (by rw [World.size_alloc]; exact Nat.lt_succ_of_lt hlt), World.cell?_alloc_lt _ _ ⟨3, 0, none⟩ hlt]; exact hg
  have htl := ht.lt
  have el := a_elemV ⟨w.heap.size, 0, none⟩ ⟨t, 0, none⟩ (((w.alloc (.cells #[.pointer (some ⟨t, 0, none⟩)] 246)).alloc (.cells #[.pointer (some ⟨10, 246, none⟩), .pointer (some ⟨w.heap.size, 0, none⟩), .int .u64 150] 289)).alloc (.cells #[.pointer (some ⟨10, 246, none⟩), .pointer (some ⟨w.heap.size, 0, none⟩), .int .u64 150] 289)) (by rw [World.cell?_alloc_lt _ _ ⟨w.heap.size, 0, none⟩ (by simp; omega)]; simp)
  have HT := (((ht.alloc (.cells #[.pointer (some ⟨t, 0, none⟩)] 246)).alloc (.cells #[.pointer (some ⟨10, 246, none⟩), .pointer (some ⟨w.heap.size, 0, none⟩), .int .u64 150] 289)).alloc (.cells #[.pointer (some ⟨10, 246, none⟩), .pointer (some ⟨w.heap.size, 0, none⟩), .int .u64 150] 289)).alloc (.cells #[.int .i64 a, .int .i64 b] 243)
  have HN := Blk.new (((w.alloc (.cells #[.pointer (some ⟨t, 0, none⟩)] 246)).alloc (.cells #[.pointer (some ⟨10, 246, none⟩), .pointer (some ⟨w.heap.size, 0, none⟩), .int .u64 150] 289)).alloc (.cells #[.pointer (some ⟨10, 246, none⟩), .pointer (some ⟨w.heap.size, 0, none⟩), .int .u64 150] 289)) #[.int .i64 a, .int .i64 b] 243
  rw [World.size_alloc, World.size_alloc, World.size_alloc] at HN
  have st := a_set t (w.heap.size + 1 + 1 + 1) a b u0 u1 _ (HN.cell 0 rfl) (HN.cell 1 rfl) (HT.cell 0 rfl) (HT.cell 1 rfl) (HT.thaw 0) (HT.thaw 1)
  clear HT HN
  go_enter Tryz.func244, Tryz.ntmps244
  go_wp2
  refine wp_loop_rounds 1 ?_
  rw [rounds_succ]
  go_wp2
  go_ret
  exact ⟨rfl, rfl⟩
end Go.Proofs.YtilpencbbdpgfaaGreatDoor.ctr
