/- A region that draws its order: a row of guarded copies, each of which may come up now, is taken first, all at once ('any_moves'). The great region of the law FnRegime, as the program has it: closed facts on the order of its operations. -/
import Derived.Test.YtchhdoipkimbgaaGreatDoorRegSplitM
namespace Go.Proofs.YtchhdoipkimbgaaGreatDoor.ctr
open Go.RowKit

/-- Of each copy: its number, the slot it reads, the slot it writes, what it reads. -/
abbrev Mv := Nat × Tmp × Tmp × Value
def isMove (s : Tmp) : Op → Bool
  | .move (.tmp x) => x == s
  | _ => false
def mvB (md : Region.Mode) (ops : Array Oper) (g : Nat) (G : Tmp) (ds : List Tmp) : List Mv → Array Bool → Bool
  | [], _ => true
  | m :: ms, L => ((ops[m.1]?).map fun o => isMove m.2.1 o.op && o.dst == some m.2.2.1 && o.guard == some (g, false)).getD false && (Region.ready md ops L).contains m.1 && Region.free md ops L m.1 && ds.contains m.2.2.1 && !ds.contains m.2.1 && mvB md ops g G ds ms (L.setIfInBounds m.1 true)
def putM : List Mv → Act → Act
  | [], a => a
  | m :: ms, a => putM ms (a.put (some m.2.2.1) m.2.2.2)
def setM : List Mv → Array Bool → Array Bool
  | [], L => L
  | m :: ms, L => setM ms (L.setIfInBounds m.1 true)
def vM : List Mv → Act → Prop
  | [], _ => True
  | m :: ms, a => a.tmps[m.2.1]? = some m.2.2.2 ∧ vM ms a
theorem vM_put {md : Region.Mode} {ops : Array Oper} {g : Nat} {G : Tmp} {ds : List Tmp} {d : Tmp} (hd : ds.contains d = true) (u : Value) : ∀ (ms : List Mv) (L : Array Bool) (a : Act), mvB md ops g G ds ms L = true → vM ms a → vM ms (a.put (some d) u)
  | [], _, _, _, _ => trivial
  | m :: ms, L, a, hB, h => by
    simp only [mvB, Bool.and_eq_true] at hB
    refine ⟨?_, vM_put hd u ms _ a hB.2 h.2⟩
    show (a.tmps.setIfInBounds d u)[m.2.1]? = _
    rw [Array.getElem?_setIfInBounds_ne (fun e => by
      have := hB.1.2
      rw [← e, hd] at this
      cases this)]
    exact h.1
theorem any_moves {P : Program} {ops : Array Oper} {md : Region.Mode} {Q : Exit → Act → World → Prop} {g : Nat} {G : Tmp} {ds : List Tmp} (hs : Region.noSelect ops = true) (hg : (ops[g]?).bind (·.dst) = some G) (hG : ds.contains G = false) (hQ : ∀ c a d u w, Q (.panic c) (a.put (some d) u) w → Q (.panic c) a w) :
    ∀ (ms : List Mv) (f F : Nat) (L : Array Bool) (a : Act) (w : World), F = f + ms.length → mvB md ops g G ds ms L = true → a.tmps[G]? = some (.bool false) → vM ms a → wpAny P md ops Q f (setM ms L) (putM ms a) w → wpAny P md ops Q F L a w
  | [], f, F, L, a, w, hF, _, _, _, h => by
    rw [hF]
    exact h
  | m :: ms, f, F, L, a, w, hF, hB, ha, hv, h => by
    have hB' := hB
    simp only [mvB, Bool.and_eq_true] at hB
    obtain ⟨⟨⟨⟨⟨h1, h2⟩, h3⟩, h4⟩, _⟩, h6⟩ := hB
    cases ho : ops[m.1]? with
    | none => simp [ho] at h1
    | some o =>
      simp only [ho, Option.map_some, Option.getD_some, Bool.and_eq_true, beq_iff_eq] at h1
      obtain ⟨⟨hm, hd⟩, hgd⟩ := h1
      have hop : o.op = .move (.tmp m.2.1) := by
        cases hx : o.op with
        | move x =>
          cases x with
          | tmp x =>
            rw [hx] at hm
            simp only [isMove, beq_iff_eq] at hm
            rw [hm]
          | _ => rw [hx] at hm; simp [isMove] at hm
        | _ => rw [hx] at hm; simp [isMove] at hm
      have hw : Region.wanted o (yielded ops a.tmps) = true := by
        unfold Region.wanted
        rw [hgd]
        unfold yielded
        simp only [hg, Option.bind_some, ha]
        rfl
      have he : a.eval (.tmp m.2.1) = m.2.2.2 := by
        show a.tmps.getD m.2.1 undef = _
        rw [Array.getD_eq_getD_getElem?, hv.1]
        rfl
      rw [hF, List.length_cons, show f + (ms.length + 1) = f + ms.length + 1 by omega]
      refine wpAny_take (i := m.1) (v := m.2.2.2) ho hs h3 h2 (fun c a' w' hq => by rw [hd] at hq; exact hQ c a' _ _ w' hq) (Or.inl ⟨hw, fun w' => ?_⟩) ?_
      · simp [execOp, hop, he]
      · rw [hd]
        refine any_moves hs hg hG hQ ms f _ _ _ w rfl h6 ?_ (vM_put h4 _ ms _ a h6 hv.2) h
        show (a.tmps.setIfInBounds m.2.2.1 m.2.2.2)[G]? = _
        rw [Array.getElem?_setIfInBounds_ne (fun e => by rw [e, hG] at h4; cases h4)]
        exact ha
end Go.Proofs.YtchhdoipkimbgaaGreatDoor.ctr

namespace Go.Proofs.YtchhdoipkimbgaaGreatDoor.ctr
open Go.RowKit

/-- The regions of a number in a function's code. -/
def regOf (id : Nat) : Code → List (List Oper)
  | .region i ops _ => if i = id then [ops.toList] else []
  | .seq a b => regOf id a ++ regOf id b
  | .cond _ a b => regOf id a ++ regOf id b
  | .block _ b => regOf id b
  | .loop b => regOf id b
  | .scope b => regOf id b
  | _ => []
noncomputable def ops10 : List Oper := ((Tryz.f4.body.bind fun c => (regOf 10 c).head?)).getD []
abbrev L31 : Array Bool := setN 31 0 (Array.replicate 42 false)
def mv1 (v : Value) : List Mv := [(31, 12, 70, v)]
theorem len10 : ops10.length = 42 := by kernel_rfl
theorem ns10 : Region.noSelect ops10.toArray = true := by kernel_rfl
theorem lex10 : lexP .any ops10.toArray 31 0 (Array.replicate 42 false) = true := by kernel_rfl
theorem link10 : linkB .any ops10.toArray 31 = true := by kernel_rfl
theorem wait10 : waitB .any ops10.toArray 31 = true := by kernel_rfl
theorem mvs10 (v : Value) : mvB .any ops10.toArray 30 69 [70] (mv1 v) L31 = true := by kernel_rfl
theorem rd10 (v : Value) : Region.ready .any ops10.toArray (setM (mv1 v) L31) = [32] := by kernel_rfl
theorem rc10 (v : Value) : Region.ready .any ops10.toArray ((setM (mv1 v) L31).setIfInBounds 32 true) = [33] := by kernel_rfl
theorem rest10 (v : Value) : Region.lexFrom .any ops10.toArray 8 34 (((setM (mv1 v) L31).setIfInBounds 32 true).setIfInBounds 33 true) = true := by kernel_rfl
theorem op_run {P : Program} {ops : Array Oper} {Q : Exit → Act → World → Prop} {i : Nat} {o : Oper} {d : Tmp} {v : Value} {K : Act → World → Prop} {a : Act} {w : World} (hi : ops[i]? = some o) (hd : o.dst = some d) (hw : Region.wanted o (yielded ops a.tmps) = true) (hx : (execOp a.eval o).run P w = .ok (.value v) w) (h : K (a.put (some d) v) w) : wpOp P ops Q i K a w := by
  unfold wpOp
  simp only [hi, hw, if_true]
  left
  unfold Oper.wp
  rw [hx, Oper.upon_value, hd]
  exact h
end Go.Proofs.YtchhdoipkimbgaaGreatDoor.ctr
