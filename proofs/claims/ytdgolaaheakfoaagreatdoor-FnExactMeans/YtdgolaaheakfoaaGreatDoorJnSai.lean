/- errors.As at an error of the program's own type, held in an interface by value, and a variable of that type: true, and the variable holds it; at no error: false. errors.As, the hit. Contracts of the program's checkTiles and Tiles. -/
import Derived.Test.YtdgolaaheakfoaaGreatDoorJnSaa
import Derived.WalkKit
import Derived.LaidEql
import Derived.Stop.Asserts
import Derived.RowKitTokens
import Derived.Test.YtdgolaaheakfoaaGreatDoorJnSah
namespace Go.Proofs.YtdgolaaheakfoaaGreatDoor.ctr
open Go.RowKit Go.Extern.Stop Go.Stop Go.Extern
theorem as_nil (t : Value) (w : World) : Calls Tryz.prog 164 #[.nilIface, t] w fun e w' => e = .returned (.bool false) ∧ w' = w := by
  go_enter Tryz.func164, Tryz.ntmps164
  go_wp2
  go_ret
  exact ⟨rfl, rfl⟩
theorem a_valueOfP (t : Addr) (w : World) : (ReflectliteValue.unpack (.iface 202 (.pointer (some t)))).run Tryz.prog w
    = .ok (.agg #[.pointer (some ⟨3, 202, none⟩), .pointer (some ⟨w.heap.size, 0, none⟩), .int .u64 150]) (w.alloc (.cells #[.pointer (some t)] 202)) := by kernel_rfl
theorem a_typeP (a : Addr) (w : World) : (ReflectliteValue.methodAny (ReflectliteValue.valueError "reflectlite.Value.Type" 0) (fun t _ _ _ => ReflectliteType.toType t) #[.agg #[.pointer (some ⟨3, 202, none⟩), .pointer (some a), .int .u64 150]]).run Tryz.prog w
    = .ok (.iface 232 (.agg #[.pointer (some ⟨3, 202, none⟩)])) w := by kernel_rfl
theorem a_mKind (h : Value) (w : World) : (Go.method 404 232 (.agg #[h]) "Kind").run Tryz.prog w = .ok (219, h) w := by kernel_rfl
theorem a_kindP (w : World) : ((ReflectliteType.abiMethod fun t => (fun a : Nat => Value.int IntKind.u8 (a : Int)) <$> Rtype.kind t) #[.pointer (some ⟨3, 202, none⟩)]).run Tryz.prog w = .ok (.int .u8 22) w := by kernel_rfl
theorem a_kindS (w : World) : ((ReflectliteType.abiMethod fun t => (fun a : Nat => Value.int IntKind.u8 (a : Int)) <$> Rtype.kind t) #[.pointer (some ⟨3, 199, none⟩)]).run Tryz.prog w = .ok (.int .u8 25) w := by kernel_rfl
theorem a_mElem (h : Value) (w : World) : (Go.method 404 232 (.agg #[h]) "Elem").run Tryz.prog w = .ok (266, .agg #[h]) w := by kernel_rfl
theorem a_mImpl (h : Value) (w : World) : (Go.method 404 232 (.agg #[h]) "Implements").run Tryz.prog w = .ok (267, .agg #[h]) w := by kernel_rfl
theorem a_mAssign (h : Value) (w : World) : (Go.method 404 232 (.agg #[h]) "AssignableTo").run Tryz.prog w = .ok (264, .agg #[h]) w := by kernel_rfl
theorem a_elemT (w : World) : (ReflectliteType.method ReflectliteType.elem #[.agg #[.pointer (some ⟨3, 202, none⟩)]]).run Tryz.prog w = .ok (.iface 232 (.agg #[.pointer (some ⟨3, 199, none⟩)])) w := by kernel_rfl
theorem a_implS (w : World) : (ReflectliteType.relation "Implements" ReflectliteType.implements_ #[.agg #[.pointer (some ⟨3, 199, none⟩)], .iface 232 (.agg #[.pointer (some ⟨3, 181, none⟩)])]).run Tryz.prog w = .ok (.bool true) w := by kernel_rfl
theorem a_typeOfS (v : Value) (w : World) : (ReflectliteType.typeOf #[.iface 199 v]).run Tryz.prog w = .ok (.iface 232 (.agg #[.pointer (some ⟨3, 199, none⟩)])) w := by kernel_rfl
theorem a_assignS (w : World) : (ReflectliteType.relation "AssignableTo" ReflectliteType.assignableTo #[.agg #[.pointer (some ⟨3, 199, none⟩)], .iface 232 (.agg #[.pointer (some ⟨3, 199, none⟩)])]).run Tryz.prog w = .ok (.bool true) w := by kernel_rfl
theorem a_valueOfS (a b : Int) (w : World) : (ReflectliteValue.unpack (.iface 199 (.agg #[.int .i64 a, .int .i64 b]))).run Tryz.prog w
    = .ok (.agg #[.pointer (some ⟨3, 199, none⟩), .pointer (some ⟨w.heap.size, 0, none⟩), .int .u64 153]) (w.alloc (.cells #[.int .i64 a, .int .i64 b] 199)) := by kernel_rfl
theorem a_rlm (z : Sem Value) (f : TypeId → Addr → Nat → Nat → Sem Value) (v : Value) :
    ReflectliteValue.method z f #[v] = (do match ← ReflectliteValue.parts v with | none => z | some (t, a, fl) => f t a fl (fl % 32)) := rfl
theorem a_partsP (a : Addr) (w : World) : (ReflectliteValue.parts (.agg #[.pointer (some ⟨3, 202, none⟩), .pointer (some a), .int .u64 150])).run Tryz.prog w = .ok (some (202, a, 150)) w := by kernel_rfl
theorem a_isNilP (a p : Addr) (W : World) (ha : W.cell? a = some (.pointer (some p))) :
    (ReflectliteValue.method (ReflectliteValue.valueError "reflectlite.Value.IsNil" 0) ReflectliteValue.isNil #[.agg #[.pointer (some ⟨3, 202, none⟩), .pointer (some a), .int .u64 150]]).run Tryz.prog W = .ok (.bool false) W := by
  rw [a_rlm]
  simp only [Sem.run_bind, a_partsP, Result.andThen]
  simp [ReflectliteValue.isNil, loadVar, isAgg, underlying, Tryz.underlying202, ha, Result.andThen]
theorem a_elemOf (w : World) : (Rtype.elem? 202).run Tryz.prog w = .ok (some 199) w := by kernel_rfl
theorem a_mkS (p : Addr) (w : World) : (ReflectliteValue.mk 199 p ReflectliteValue.flagAddr).run Tryz.prog w = .ok (.agg #[.pointer (some ⟨3, 199, none⟩), .pointer (some p), .int .u64 409]) w := by kernel_rfl
theorem a_elemV (a p : Addr) (W : World) (ha : W.cell? a = some (.pointer (some p))) :
    (ReflectliteValue.method (ReflectliteValue.valueError "reflectlite.Value.Elem" 0) ReflectliteValue.elem #[.agg #[.pointer (some ⟨3, 202, none⟩), .pointer (some a), .int .u64 150]]).run Tryz.prog W
      = .ok (.agg #[.pointer (some ⟨3, 199, none⟩), .pointer (some p), .int .u64 409]) W := by
  rw [a_rlm]
  simp only [Sem.run_bind, a_partsP, Result.andThen]
  simp [ReflectliteValue.elem, loadVar, isAgg, underlying, Tryz.underlying202, ha, Result.andThen, a_elemOf, a_mkS]
theorem a_rls (v x : Value) : ReflectliteValue.set #[v, x] = (do
    let (some (dst, a, fl), some (src, b, _)) := (← ReflectliteValue.parts v, ← ReflectliteValue.parts x)
      | unsupported (.noEntry "extern/(internal/reflectlite.Value).Set.zeroValue")
    if fl / ReflectliteValue.flagAddr % 2 == 0 then unsupported (.noEntry "extern/(internal/reflectlite.Value).Set.unaddressable")
    let val ← loadVar src b
    if ← Rtype.directlyAssignable dst src then storeVar dst a val
    else if ← Rtype.implements dst src then
      if (← Rtype.kind src) == 20 then
        match val with
        | .nilIface => unsupported (.noEntry "extern/reflectlite: a nil value of one interface type handed on as a value of another")
        | _ => storeVar dst a val
      else storeVar dst a (.iface src val)
    else panicString ("reflectlite.Set: value of type " ++ (← Rtype.spelt src) ++ " is not assignable to type " ++ (← Rtype.spelt dst))
    pure (.tuple #[])) := rfl
theorem a_partsA (a : Addr) (w : World) : (ReflectliteValue.parts (.agg #[.pointer (some ⟨3, 199, none⟩), .pointer (some a), .int .u64 409])).run Tryz.prog w = .ok (some (199, a, 409)) w := by kernel_rfl
theorem a_partsS (a : Addr) (w : World) : (ReflectliteValue.parts (.agg #[.pointer (some ⟨3, 199, none⟩), .pointer (some a), .int .u64 153])).run Tryz.prog w = .ok (some (199, a, 153)) w := by kernel_rfl
theorem a_direct (w : World) : (Rtype.directlyAssignable 199 199).run Tryz.prog w = .ok true w := by kernel_rfl
end Go.Proofs.YtdgolaaheakfoaaGreatDoor.ctr
namespace Go.Proofs.YtdgolaaheakfoaaGreatDoor.ctr
open Go.RowKit Go.Extern.Stop Go.Stop Go.Extern
theorem a_loadS (s : Nat) (a b : Int) (W : World) (h0 : W.cell? ⟨s, 0, none⟩ = some (.int .i64 a)) (h1 : W.cell? ⟨s, 1, none⟩ = some (.int .i64 b)) : (loadVar 199 ⟨s, 0, none⟩).run Tryz.prog W = .ok (.agg #[.int .i64 a, .int .i64 b]) W := by
  go_simp
theorem a_storeS (s : Nat) (a b : Int) (W : World) (u0 u1 : Value) (h0 : W.cell? ⟨s, 0, none⟩ = some u0) (h1 : W.cell? ⟨s, 1, none⟩ = some u1) (f0 : W.frozen? ⟨s, 0, none⟩ = false) (f1 : W.frozen? ⟨s, 1, none⟩ = false) : (storeVar 199 ⟨s, 0, none⟩ (.agg #[.int .i64 a, .int .i64 b])).run Tryz.prog W = .ok () ((W.setCell ⟨s, 0, none⟩ (.int .i64 a)).setCell ⟨s, 1, none⟩ (.int .i64 b)) := by
  go_simp
theorem a_set (t s : Nat) (a b : Int) (u0 u1 : Value) (W : World) (h0 : W.cell? ⟨s, 0, none⟩ = some (.int .i64 a)) (h1 : W.cell? ⟨s, 1, none⟩ = some (.int .i64 b)) (g0 : W.cell? ⟨t, 0, none⟩ = some u0) (g1 : W.cell? ⟨t, 1, none⟩ = some u1) (f0 : W.frozen? ⟨t, 0, none⟩ = false) (f1 : W.frozen? ⟨t, 1, none⟩ = false) :
    (ReflectliteValue.set #[.agg #[.pointer (some ⟨3, 199, none⟩), .pointer (some ⟨t, 0, none⟩), .int .u64 409], .agg #[.pointer (some ⟨3, 199, none⟩), .pointer (some ⟨s, 0, none⟩), .int .u64 153]]).run Tryz.prog W
      = .ok (.tuple #[]) ((W.setCell ⟨t, 0, none⟩ (.int .i64 a)).setCell ⟨t, 1, none⟩ (.int .i64 b)) := by
  rw [a_rls]
  simp only [Sem.run_bind, a_partsA, a_partsS, Result.andThen]
  simp [ReflectliteValue.flagAddr, a_loadS s a b W h0 h1, Result.andThen, a_direct, a_storeS t a b W u0 u1 g0 g1 f0 f1]
set_option maxRecDepth 100000 in
set_option maxHeartbeats 4000000 in
theorem as_hit (a b : Int) (t : Nat) (u0 u1 : Value) (w : World) (hg : w.cell? ⟨2, 0, none⟩ = some (.iface 232 (.agg #[.pointer (some ⟨3, 181, none⟩)]))) (ht : Blk w t #[u0, u1] 199) :
    Calls Tryz.prog 164 #[.iface 199 (.agg #[.int .i64 a, .int .i64 b]), .iface 202 (.pointer (some ⟨t, 0, none⟩))] w fun ev w' => ev = .returned (.bool true) ∧ w' = ((((((w.alloc (.cells #[.pointer (some ⟨t, 0, none⟩)] 202)).alloc (.cells #[.pointer (some ⟨3, 202, none⟩), .pointer (some ⟨w.heap.size, 0, none⟩), .int .u64 150] 221)).alloc (.cells #[.pointer (some ⟨3, 202, none⟩), .pointer (some ⟨w.heap.size, 0, none⟩), .int .u64 150] 221)).alloc (.cells #[.int .i64 a, .int .i64 b] 199)).setCell ⟨t, 0, none⟩ (.int .i64 a)).setCell ⟨t, 1, none⟩ (.int .i64 b)) := by
  have h6 := @run_callFunc_extern Tryz.prog 182 _ (fun args => ReflectliteValue.unpack (args.getD 0 (.tuple #[]))) Tryz.func182 (by kernel_rfl) (by kernel_rfl) (by kernel_rfl) (by kernel_rfl)
  have h7 := @run_callFunc_extern Tryz.prog 183 _ (ReflectliteValue.methodAny (ReflectliteValue.valueError "reflectlite.Value.Type" 0) (fun t _ _ _ => ReflectliteType.toType t)) Tryz.func183 (by kernel_rfl) (by kernel_rfl) (by kernel_rfl) (by kernel_rfl)
  have h8 := @run_callFunc_extern Tryz.prog 184 _ (ReflectliteValue.method (ReflectliteValue.valueError "reflectlite.Value.IsNil" 0) ReflectliteValue.isNil) Tryz.func184 (by kernel_rfl) (by kernel_rfl) (by kernel_rfl) (by kernel_rfl)
  have h27 := @run_callFunc_extern Tryz.prog 219 _ (ReflectliteType.abiMethod fun t => do pure (.int .u8 (← Rtype.kind t))) Tryz.func219 (by kernel_rfl) (by kernel_rfl) (by kernel_rfl) (by kernel_rfl)
  have h37 := @run_callFunc_extern Tryz.prog 266 _ (ReflectliteType.method ReflectliteType.elem) Tryz.func266 (by kernel_rfl) (by kernel_rfl) (by kernel_rfl) (by kernel_rfl)
  have h38 := @run_callFunc_extern Tryz.prog 267 _ (ReflectliteType.relation "Implements" ReflectliteType.implements_) Tryz.func267 (by kernel_rfl) (by kernel_rfl) (by kernel_rfl) (by kernel_rfl)
  have h10 := @run_callFunc_extern Tryz.prog 166 _ ReflectliteType.typeOf Tryz.func166 (by kernel_rfl) (by kernel_rfl) (by kernel_rfl) (by kernel_rfl)
  have h35 := @run_callFunc_extern Tryz.prog 264 _ (ReflectliteType.relation "AssignableTo" ReflectliteType.assignableTo) Tryz.func264 (by kernel_rfl) (by kernel_rfl) (by kernel_rfl) (by kernel_rfl)
  have h11 := @run_callFunc_extern Tryz.prog 195 _ (ReflectliteValue.method (ReflectliteValue.valueError "reflectlite.Value.Elem" 0) ReflectliteValue.elem) Tryz.func195 (by kernel_rfl) (by kernel_rfl) (by kernel_rfl) (by kernel_rfl)
  have h12 := @run_callFunc_extern Tryz.prog 196 _ ReflectliteValue.set Tryz.func196 (by kernel_rfl) (by kernel_rfl) (by kernel_rfl) (by kernel_rfl)
  have tO := a_typeOfS
  have mA := a_mAssign
  have aS := a_assignS
  have vS := a_valueOfS
  have f6 := a_valueOfP
  have f7 := a_typeP
  have mK := a_mKind
  have mE := a_mElem
  have mI := a_mImpl
  have kP := a_kindP
  have kS := a_kindS
  have eT := a_elemT
  have iS := a_implS
  have n8 := a_isNilP ⟨w.heap.size, 0, none⟩ ⟨t, 0, none⟩ ((w.alloc (.cells #[.pointer (some ⟨t, 0, none⟩)] 202)).alloc (.cells #[.pointer (some ⟨3, 202, none⟩), .pointer (some ⟨w.heap.size, 0, none⟩), .int .u64 150] 221)) (by simp)
  have hlt : 2 < w.heap.size := by
    rcases Nat.lt_or_ge 2 w.heap.size with h | h
    · exact h
    · simp [World.cell?, Array.getElem?_eq_none h] at hg
  have hg2 : ((w.alloc (.cells #[.pointer (some ⟨t, 0, none⟩)] 202)).alloc (.cells #[.pointer (some ⟨3, 202, none⟩), .pointer (some ⟨w.heap.size, 0, none⟩), .int .u64 150] 221)).cell? ⟨2, 0, none⟩ = some (.iface 232 (.agg #[.pointer (some ⟨3, 181, none⟩)])) := by
    rw [World.cell?_alloc_lt _ _ ⟨2, 0, none⟩ (by rw [World.size_alloc]; exact Nat.lt_succ_of_lt hlt), World.cell?_alloc_lt _ _ ⟨2, 0, none⟩ hlt]; exact hg
  have htl := ht.lt
  have el := a_elemV ⟨w.heap.size, 0, none⟩ ⟨t, 0, none⟩ (((w.alloc (.cells #[.pointer (some ⟨t, 0, none⟩)] 202)).alloc (.cells #[.pointer (some ⟨3, 202, none⟩), .pointer (some ⟨w.heap.size, 0, none⟩), .int .u64 150] 221)).alloc (.cells #[.pointer (some ⟨3, 202, none⟩), .pointer (some ⟨w.heap.size, 0, none⟩), .int .u64 150] 221)) (by rw [World.cell?_alloc_lt _ _ ⟨w.heap.size, 0, none⟩ (by simp; omega)]; simp)
  have HT := (((ht.alloc (.cells #[.pointer (some ⟨t, 0, none⟩)] 202)).alloc (.cells #[.pointer (some ⟨3, 202, none⟩), .pointer (some ⟨w.heap.size, 0, none⟩), .int .u64 150] 221)).alloc (.cells #[.pointer (some ⟨3, 202, none⟩), .pointer (some ⟨w.heap.size, 0, none⟩), .int .u64 150] 221)).alloc (.cells #[.int .i64 a, .int .i64 b] 199)
  have HN := Blk.new (((w.alloc (.cells #[.pointer (some ⟨t, 0, none⟩)] 202)).alloc (.cells #[.pointer (some ⟨3, 202, none⟩), .pointer (some ⟨w.heap.size, 0, none⟩), .int .u64 150] 221)).alloc (.cells #[.pointer (some ⟨3, 202, none⟩), .pointer (some ⟨w.heap.size, 0, none⟩), .int .u64 150] 221)) #[.int .i64 a, .int .i64 b] 199
  rw [World.size_alloc, World.size_alloc, World.size_alloc] at HN
  have st := a_set t (w.heap.size + 1 + 1 + 1) a b u0 u1 _ (HN.cell 0 rfl) (HN.cell 1 rfl) (HT.cell 0 rfl) (HT.cell 1 rfl) (HT.thaw 0) (HT.thaw 1)
  clear HT HN
  go_enter Tryz.func164, Tryz.ntmps164
  go_wp2
  refine wp_loop_rounds 1 ?_
  rw [rounds_succ]
  go_wp2
  go_ret
  exact ⟨rfl, rfl⟩
end Go.Proofs.YtdgolaaheakfoaaGreatDoor.ctr
namespace Go.Proofs.YtdgolaaheakfoaaGreatDoor.ctr
open Go.RowKit
theorem ins_mem {l : List Seg} {s x : Seg} (h : x ∈ insS l s) : x ∈ l ∨ x = s := by
  unfold insS at h
  rcases List.mem_append.1 h with h | h
  · exact .inl (List.mem_of_mem_take h)
  · rcases List.mem_cons.1 h with h | h
    · exact .inr h
    · exact .inl (List.mem_of_mem_drop h)
theorem fold_mem : ∀ (l a : List Seg) {x : Seg}, x ∈ l.foldl insS a → x ∈ a ∨ x ∈ l
  | [], _, _, h => .inl h
  | s :: l, a, x, h => by
    rcases fold_mem l (insS a s) h with h | h
    · rcases ins_mem h with h | h
      · exact .inl h
      · exact .inr (h ▸ List.mem_cons_self)
    · exact .inr (List.mem_cons_of_mem _ h)
theorem full_mem {l : List Seg} {x : Seg} (h : x ∈ fullS l) : x ∈ l := by
  rcases fold_mem l [] (List.mem_filter.1 h).1 with h | h
  · simp at h
  · exact h
def errOf (c d : Int) : Value := if c = 0 then .nilIface else .iface 199 (.agg #[.int .i64 c, .int .i64 d])
theorem tilesZ_eq (f t : Int) (l : List Seg) : tilesZ f t l = if sharedB (fullS l) = true then 1 else if bareB f t (fullS l) = true then 2 else 0 := by
  unfold tilesZ tileC
  rw [bareB_same]
set_option maxRecDepth 100000 in
set_option maxHeartbeats 2000000 in
theorem implCheckT (f t : Int) (v : Value) (l : List Seg) (w : World) (h : IRow segK w v l) (hl : l.length ≤ 1048576) (ht : t ≤ 9223372036854775807) (hw : ∀ s ∈ l, -9223372036854775808 ≤ s.to) : Calls Tryz.prog 165 #[.int .i64 f, .int .i64 t, v] w fun e w' => ∃ d : Int, e = .returned (errOf (tilesZ f t l) d) ∧ Below w.heap.size w w' := by
  have KS := hideP (implSorted v l w h hl)
  have hfl := full_len l
  have hw' : ∀ s ∈ fullS l, -9223372036854775808 ≤ s.to := fun s hs => hw s (full_mem hs)
  have HF : Hid ((sortS l).filter hasDayB = fullS l) := rfl
  obtain ⟨Z, hZ⟩ : ∃ Z : Int, Z = tilesZ f t l := ⟨_, rfl⟩
  have HZ0 := hideP hZ
  rw [tilesZ_eq] at HZ0
  rw [← hZ]
  clear hZ
  obtain ⟨ad, ca, rfl, _⟩ := h
  have HZ := HZ0
  clear HZ0
  go_enter Tryz.func165, Tryz.ntmps165
  go_wp2_with fail
  refine KS.out.mono ?_
  rintro e w1 ⟨o, rfl, ⟨g, c, rfl, hg, hP⟩, hB⟩
  have KD := hideP (deleteDel g c (sortS l) w1 hP)
  have HB := hideP hB
  have Hg := hideP hg
  clear hP hB hg
  go_wp2_with fail
  refine KD.out.mono ?_
  rintro e w2 ⟨o, rfl, rfl, hP2, hG2⟩
  rw [HF.out] at hP2
  rw [HF.out]
  have HB2 : Hid (Below w.heap.size w w2) := HB.out.trans (below_grown2 hG2 HB.out.size (fun k e => by cases e; exact Hg.out))
  have KSh := hideP (implShared _ _ w2 hP2.row (by omega))
  have KBa : Hid (∀ W, Below w2.heap.size w2 W → Calls Tryz.prog 190 #[.int .i64 f, .int .i64 t, .slice (some ⟨g, 0, none⟩) (fullS l).length c] W fun e w' => ∃ d : Int, e = .returned (.tuple #[.int .i64 d, .bool (bareB f t (fullS l))]) ∧ Below W.heap.size W w') := fun W hb => implBare f t _ _ W (hP2.row.below hb) (by omega) ht hw'
  clear hP2 hG2 hw hw' HF
  generalize sharedB (fullS l) = sb at *
  generalize bareB f t (fullS l) = bb at *
  go_wp2_with fail
  refine KSh.out.mono ?_
  rintro e w3 ⟨d, rfl, hb⟩
  have HB3 : Hid (Below w.heap.size w w3) := HB2.out.trans (hb.mono HB2.out.size)
  have HB23 := hideP hb
  clear hb
  cases sb
  case true =>
    have HQ : Hid (Z = 1) := HZ.out
    clear HZ
    go_wp2_with fail
    go_ret
    exact ⟨d, (by rw [HQ.out]; rfl), HB3.out⟩
  go_wp2_with fail
  refine (KBa.out w3 HB23.out).mono ?_
  rintro e w4 ⟨d', rfl, hb⟩
  have HB4 : Hid (Below w.heap.size w w4) := HB3.out.trans (hb.mono HB3.out.size)
  clear hb
  cases bb
  · have HQ : Hid (Z = 0) := HZ.out
    clear HZ
    go_wp2_with fail
    go_ret
    exact ⟨0, (by rw [HQ.out]; rfl), HB4.out⟩
  · have HQ : Hid (Z = 2) := HZ.out
    clear HZ
    go_wp2_with fail
    go_ret
    exact ⟨d', (by rw [HQ.out]; rfl), HB4.out⟩
def ErrT (w : World) : Prop := w.cell? ⟨2, 0, none⟩ = some (.iface 232 (.agg #[.pointer (some ⟨3, 181, none⟩)]))
theorem ErrT.below {w w' : World} (h : ErrT w) (hb : Below w.heap.size w w') : ErrT w' := Later.at h ⟨w', hb⟩
theorem tilesZ_cases (f t : Int) (l : List Seg) : tilesZ f t l = 0 ∨ tilesZ f t l = 1 ∨ tilesZ f t l = 2 := by
  unfold tilesZ tileC
  split
  · exact .inr (.inl rfl)
  · split
    · exact .inr (.inr rfl)
    · exact .inl rfl
set_option maxRecDepth 100000 in
set_option maxHeartbeats 2000000 in
theorem implTiles (f t : Int) (v : Value) (l : List Seg) (w : World) (h : IRow segK w v l) (hl : l.length ≤ 1048576) (ht : t ≤ 9223372036854775807) (hw : ∀ s ∈ l, -9223372036854775808 ≤ s.to) (hE : ErrT w) : Calls Tryz.prog 137 #[.int .i64 f, .int .i64 t, v] w fun e w' => e = .returned (.int .i64 (tilesZ f t l)) ∧ Below w.heap.size w w' := by
  obtain ⟨W0, hW0⟩ : ∃ W0, W0 = w.alloc (.cells #[.int .i64 0, .int .i64 0] 199) := ⟨_, rfl⟩
  have hb0 : Below w.heap.size w W0 := by rw [hW0]; exact (Below.refl _ _).alloc (Nat.le_refl _) _
  have hK0 : Blk W0 w.heap.size #[.int .i64 0, .int .i64 0] 199 := by rw [hW0]; exact Blk.new _ _ _
  have KC := hideP (implCheckT f t v l W0 (h.below hb0) hl ht hw)
  have hz := tilesZ_cases f t l
  have HE := hideP (hE.below hb0)
  have HB0 := hideP hb0
  have HK0 := hideP hK0
  have HW0 := hideP hW0
  obtain ⟨ad, ca, rfl, _⟩ := h
  generalize tilesZ f t l = z at *
  clear hb0 hK0 hW0 hE hw
  go_enter Tryz.func137, Tryz.ntmps137
  go_wp2_with fail
  rw [← HW0.out]
  refine KC.out.mono ?_
  rintro e w1 ⟨d, rfl, hb⟩
  have HB1 : Hid (Below w.heap.size w w1) := HB0.out.trans (hb.mono HB0.out.size)
  have HE1 := hideP (HE.out.below hb)
  have HK1 := hideP (HK0.out.below hb HK0.out.lt)
  clear hb
  by_cases h0 : z = 0
  · subst h0
    have KN := hideP (as_nil (.iface 202 (.pointer (some ⟨w.heap.size, 0, none⟩))) w1)
    rw [errOf, if_pos rfl]
    go_wp2_with fail
    refine KN.out.mono ?_
    rintro e w2 ⟨rfl, rfl⟩
    go_wp2_with fail
    go_ret
    exact ⟨rfl, HB1.out⟩
  · rw [errOf, if_neg h0]
    have KN := hideP (as_hit z d w.heap.size _ _ w1 HE1.out HK1.out)
    go_wp2_with fail
    refine KN.out.mono ?_
    rintro e w2 ⟨rfl, hw2⟩
    have HB2 : Hid (Below w.heap.size w w2) := by
      unfold Hid
      rw [hw2]
      have s1 := HB1.out.size
      exact below_store (below_store ((((HB1.out.alloc s1 _).alloc (by rw [World.size_alloc]; omega) _).alloc (by rw [World.size_alloc, World.size_alloc]; omega) _).alloc (by rw [World.size_alloc, World.size_alloc, World.size_alloc]; omega) _) _ (Nat.le_refl _)) _ (Nat.le_refl _)
    have c0 : w2.cell? ⟨w.heap.size, 0, none⟩ = some (.int .i64 z) := by
      rw [hw2]
      exact ((((((HK1.out.alloc _).alloc _).alloc _).alloc _).set 0 _).set 1 _).cell 0 rfl
    clear hw2
    go_wp2_with fail
    go_ret
    exact ⟨rfl, HB2.out⟩
end Go.Proofs.YtdgolaaheakfoaaGreatDoor.ctr
