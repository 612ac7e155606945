/- What a tied card's proof wants of the listed handle errors.errorType. Plain laws on package-level variables, of no program: what a later world keeps of them; a table of texts that is listed holds just its texts. errors.Is by its contracts, where the target is the program's errNoTable: false at nil, true at a wrongReign (whose Unwrap answers that variable). Go's own text is walked. -/
import Derived.Test.YtdgolaaheakfoaaGreatDoorJnSai
import Derived.LaidLaws
import Derived.LaidHandle
import Derived.Test.YtdgolaaheakfoaaGreatDoorRows
import Derived.WalkKit
import Derived.ProofKit
import Derived.OpenShut
import Derived.ChangeOld
import Derived.Below
import Derived.WalkSmall
import Derived.Lib.LaidTab
import Derived.Stop.LaidErr
import Derived.Test.YtdgolaaheakfoaaGreatDoorJnSaa
import Derived.LaidEql
import Derived.Stop.Asserts
import Derived.RowKitTokens
namespace Go.Proofs.YtdgolaaheakfoaaGreatDoor.kit
open Go.RowKit
theorem a_et : Tryz.prog.globalNamed "errors.errorType" = some 2 := by kernel_rfl
theorem a_rt : (Tryz.prog.cutTypes.find? (·.1 == "internal/reflectlite.rtype")).map (·.2) = some 232 := by kernel_rfl
theorem a_row : ((List.range 304).filter fun t => Tryz.prog.rowNamed t [101, 114, 114, 111, 114]) = [181] := by kernel_rfl
theorem a_size : Tryz.prog.types.size = 304 := by kernel_rfl
theorem err_of {W : World} (h : handlesMet Tryz.prog [("errors.errorType", .iface "internal/reflectlite.rtype" (.agg [.ptr (.lit (.string [101, 114, 114, 111, 114]))]))] W) : ctr.ErrT W := by
  obtain ⟨name, u, ty, e1, e2, e3, e4, e5⟩ := h _ (List.mem_singleton.2 rfl)
  have en : name = [101, 114, 114, 111, 114] := (Option.some.inj e1).symm
  subst en
  obtain rfl := Option.some.inj (a_rt.symm.trans e2)
  have hm : ty ∈ (List.range 304).filter fun t => Tryz.prog.rowNamed t [101, 114, 114, 111, 114] := List.mem_filter.2 ⟨List.mem_range.2 (by rw [← a_size]; exact e3), e4⟩
  rw [a_row] at hm
  obtain rfl := List.mem_singleton.1 hm
  have hh : typeHandle Tryz.prog 181 = .pointer (some ⟨3, 181, none⟩) := by kernel_rfl
  rw [hh] at e5
  unfold ctr.ErrT
  simpa using World.var?_cell a_et e5 0
end Go.Proofs.YtdgolaaheakfoaaGreatDoor.kit
namespace Go.Proofs.YtdgolaaheakfoaaGreatDoor.kit
open Go.RowKit
theorem trodVars_kept {H : Type} {enc : TypeId × Value → H} {P : Program} {W W' : World} (hl : laidOutB P = true) (hb : Below W.heap.size W W') :
    ∀ {ns : List String} {gs : List (DataW H)} {ps : List MemPlace}, (∀ n ∈ ns, ∀ g t, P.globalNamed n = some g → (P.globals[g]?).map (·.type) = some t → P.readableRec t = true ∧ t < P.types.size) →
    DataW.TrodVars enc P W (fun _ => true) ns gs ps → (∀ x ∈ ps, x.block < W.heap.size) → DataW.TrodVars enc P W' (fun b => decide (b < W.heap.size)) ns gs ps
  | [], [], ps, _, h, _ => h
  | [], _ :: _, _, _, h, _ => h.elim
  | _ :: _, [], _, _, h, _ => h.elim
  | n :: ns, d :: ds, ps, hr, h, hlt => by
    obtain ⟨g, t, cs, fuel, p, q, h1, h2, h3, h4, h5, e⟩ := h
    subst e
    obtain ⟨hr1, hr2⟩ := hr n (by simp) g t h1 h2
    have hg : g < W.heap.size := by
      unfold World.var? at h3
      simp only [h1, Option.bind_some] at h3
      by_cases hg : g < W.heap.size
      · exact hg
      · rw [Array.getElem?_eq_none (by omega)] at h3
        simp at h3
    have hcs : (Value.agg cs).cells.toList = cs.toList := rfl
    have ht : DataW.Trod enc P W 0 (fun _ => true) true t (.agg cs) d p := ⟨fuel, by rw [hcs]; exact h4⟩
    obtain ⟨fuel', h4'⟩ := Below.trod hl hr1 hr2 ht hb (fun x hx => hlt x (by simp [hx]))
    rw [hcs] at h4'
    exact ⟨g, t, cs, fuel', p, q, h1, h2, var?_below hb h1 hg h3, h4', trodVars_kept hl hb (fun n hn => hr n (by simp [hn])) h5 (fun x hx => hlt x (by simp [hx])), rfl⟩
def StrIs (P : Program) (w : World) (name : String) (ss : List (List UInt8)) : Prop := w.var? P name = some (ss.map fun s => Value.string ⟨s.toArray⟩).toArray
theorem StrIs.cell {P : Program} {W : World} {name : String} {ss : List (List UInt8)} {g : Nat} (h : StrIs P W name ss) (hg : P.globalNamed name = some g) (i : Nat) (hi : i < ss.length) :
    W.cell? ⟨g, i, none⟩ = some (.string ⟨(ss.getD i []).toArray⟩) := by
  have := World.var?_cell hg h i
  simpa [List.getD, hi] using this
theorem StrIs.heap {P : Program} {W : World} {name : String} {ss : List (List UInt8)} {g : Nat} (h : StrIs P W name ss) (hg : P.globalNamed name = some g) :
    ∃ t fr, W.heap[g]? = some (.cells (ss.map fun s => Value.string ⟨s.toArray⟩).toArray t fr) := by
  unfold StrIs World.var? at h
  simp only [hg, Option.bind_some] at h
  cases hh : W.heap[g]? with
  | none => simp [hh] at h
  | some o =>
    cases o with
    | cells c t fr =>
      simp only [hh, Option.some.injEq] at h
      exact ⟨t, fr, by rw [h]⟩
    | _ => simp [hh] at h
theorem var_lt {P : Program} {W : World} {name : String} {g : Nat} {cs : Array Value} (h : W.var? P name = some cs) (hg : P.globalNamed name = some g) : g < W.heap.size := by
  unfold World.var? at h
  simp only [hg, Option.bind_some] at h
  by_cases hl : g < W.heap.size
  · exact hl
  · rw [Array.getElem?_eq_none (by omega)] at h
    simp at h
theorem StrIs.below {P : Program} {W W' : World} {name : String} {ss : List (List UInt8)} {g : Nat} (h : StrIs P W name ss) (hb : Below W.heap.size W W') (hg : P.globalNamed name = some g) : StrIs P W' name ss :=
  var?_below hb hg (var_lt h hg) h
theorem tab_below {P : Program} {W W' : World} {name : String} {k : IntKind} {zs : List Int} {g : Nat} (h : Lib.TabIs P W name k zs) (hb : Below W.heap.size W W') (hg : P.globalNamed name = some g) : Lib.TabIs P W' name k zs :=
  var?_below hb hg (var_lt h hg) h
end Go.Proofs.YtdgolaaheakfoaaGreatDoor.kit
namespace Go.Proofs.YtdgolaaheakfoaaGreatDoor.ctr
open Go.RowKit Go.Extern.Stop Go.Stop Go.Extern
theorem isTypeOf (v : Value) (w : World) : (Extern.ReflectliteType.typeOf #[.iface 269 v]).run Tryz.prog w = .ok (.iface 232 (.agg #[.pointer (some ⟨3, 269, none⟩)])) w := by kernel_rfl
def cmpEntry : Array Value → Sem Value := Extern.ReflectliteType.method fun t => do Rtype.noPackHeld "Comparable" t; pure (.bool (← typeInfo t).comparable)
theorem isComparable (w : World) : (cmpEntry #[.agg #[.pointer (some ⟨3, 269, none⟩)]]).run Tryz.prog w = .ok (.bool true) w := by kernel_rfl
theorem isMethodComparable (v : Value) (w : World) : (Go.method 304 232 v "Comparable").run Tryz.prog w = .ok (265, v) w := by kernel_rfl
theorem isComp : (Tryz.prog.info? 269).map (·.comparable) = some true := by kernel_rfl
theorem isSize : (Tryz.prog.info? 292).map (·.size) = some 1 := by kernel_rfl
theorem noIsR (v : Value) (xT : TypeId) (w : World) : (Instr.typeAssert (.iface 208 v) xT 234 true).run Tryz.prog w = .ok (.tuple #[.nilIface, .bool false]) w := run_typeAssert_lacksB Tryz.underlying234 (by kernel_rfl) (by kernel_rfl) v xT w
theorem hasUnwrapR (v : Value) (xT : TypeId) (w : World) : (Instr.typeAssert (.iface 208 v) xT 237 true).run Tryz.prog w = .ok (.tuple #[.iface 208 v, .bool true]) w := run_typeAssert_hasB Tryz.underlying237 (by kernel_rfl) v xT w
theorem methodUnwrap (v : Value) (w : World) : (Go.method 304 208 v "Unwrap").run Tryz.prog w = .ok (258, v) w := by kernel_rfl
def Sent (w : World) (a : Addr) : Prop := w.cell? ⟨0, 0, none⟩ = some (.iface 269 (.pointer (some a)))
theorem Sent.later {w w' : World} {a : Addr} (h : Sent w a) (hb : Below w.heap.size w w') : Sent w' a := Later.at h ⟨w', hb⟩
theorem implUnwrap (z : Int) (a : Addr) (w : World) (h : Sent w a) : Calls Tryz.prog 258 #[.agg #[.int .i64 z]] w fun e w' => e = .returned (.iface 269 (.pointer (some a))) ∧ Below w.heap.size w w' := by
  have hb : Below w.heap.size w (w.alloc (.cells #[.int .i64 z] 208)) := (Below.refl _ _).alloc (Nat.le_refl _) _
  have h1 : Sent (w.alloc (.cells #[.int .i64 z] 208)) a := h.later hb
  have HB := hideP hb
  unfold Sent at h1
  clear hb h
  go_enter Tryz.func258, Tryz.ntmps258
  go_wp2
  go_ret
  exact ⟨rfl, HB.out⟩
set_option maxHeartbeats 2000000 in
theorem isWrong (z : Int) (a : Addr) (w : World) (h : Sent w a) : Calls Tryz.prog 167 #[.iface 208 (.agg #[.int .i64 z]), .iface 269 (.pointer (some a)), .bool true] w fun e w' => e = .returned (.bool true) ∧ Below w.heap.size w w' := by
  obtain ⟨i, hi, hcmp⟩ := Option.map_eq_some_iff.1 isComp
  obtain ⟨j, hj, hjs⟩ := Option.map_eq_some_iff.1 isSize
  have nW := noIsR
  have uW := hasUnwrapR
  have mU := methodUnwrap
  have heq := fun W => run_eql_iface_ptr_same (P := Tryz.prog) W a Tryz.underlying181 Tryz.underlying269 hi hcmp hj
  have hty := fun W => run_eql_iface_types (P := Tryz.prog) 208 269 (.agg #[.int .i64 z]) (.pointer (some a)) Tryz.underlying181 (by decide) W
  go_enter Tryz.func167, Tryz.ntmps167
  go_wp2
  refine wp_loop_rounds 2 ?_
  rw [rounds_succ]
  go_wp2_with fail
  refine (implUnwrap z a _ h).mono ?_
  rintro e w1 ⟨rfl, hb⟩
  have HB := hideP hb
  clear hb
  go_wp2
  rw [rounds_succ]
  go_wp2
  go_ret
  exact ⟨rfl, HB.out⟩
set_option maxHeartbeats 2000000 in
theorem implIsWrong (z : Int) (a : Addr) (w : World) (h : Sent w a) : Calls Tryz.prog 139 #[.iface 208 (.agg #[.int .i64 z]), .iface 269 (.pointer (some a))] w fun e w' => e = .returned (.bool true) ∧ Below w.heap.size w w' := by
  have h8 := @run_callFunc_extern Tryz.prog 166 _ Extern.ReflectliteType.typeOf Tryz.func166 (by kernel_rfl) (by kernel_rfl) (by kernel_rfl) (by kernel_rfl)
  have h32 := @run_callFunc_extern Tryz.prog 265 _ cmpEntry Tryz.func265 (by kernel_rfl) (by kernel_rfl) (by kernel_rfl) (by kernel_rfl)
  have tT := isTypeOf
  have cT := isComparable
  have mR := isMethodComparable
  go_enter Tryz.func139, Tryz.ntmps139
  go_wp2_with fail
  refine (isWrong z a _ h).mono ?_
  rintro e w1 ⟨rfl, hb⟩
  have HB := hideP hb
  clear hb
  go_wp2
  go_ret
  exact ⟨rfl, HB.out⟩
theorem implIsNil (b : Addr) (w : World) : Calls Tryz.prog 139 #[.nilIface, .iface 269 (.pointer (some b))] w fun e w' => e = .returned (.bool false) ∧ Below w.heap.size w w' := by
  have hn := run_eql_iface_nil_left (P := Tryz.prog) w 269 (.pointer (some b)) Tryz.underlying181
  go_enter Tryz.func139, Tryz.ntmps139
  go_wp2
  go_ret
  exact ⟨rfl, Below.refl _ _⟩
end Go.Proofs.YtdgolaaheakfoaaGreatDoor.ctr
