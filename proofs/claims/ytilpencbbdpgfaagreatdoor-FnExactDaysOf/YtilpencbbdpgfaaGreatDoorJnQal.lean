/- A regime's plain check: which segments, which patches, which rules are right. Regions that draw their order, walked in pieces: a first piece whose operations are quiet in a class of worlds and behind which alone the others come up ('any_prefix'); and three moves beside a call whose answer hangs on the world ('any_call'). Contracts of cmp.Compare and cmp.Or at ints, and of the heap's Less: one segment is ahead of another by From, then To, then its number. A row of structs of ints that lies in a block of its own with room behind it ('PRow'): what is read, what stores make of it, what append makes of it. Contract of the heap's Swap: two segments take each other's place; nothing else turns. -/
import Derived.Test.YtilpencbbdpgfaaGreatDoorJnQad
import Derived.Test.YtilpencbbdpgfaaGreatDoorJnQah
import Derived.Test.YtilpencbbdpgfaaGreatDoorJnQak
import Derived.Test.YtilpencbbdpgfaaGreatDoorJnQaa
import Derived.Test.YtilpencbbdpgfaaGreatDoorJnQac
import Derived.BigRegion
import Derived.Laws.AppendOwn
import Derived.Handy
namespace Go.Proofs.YtilpencbbdpgfaaGreatDoor.ctr
open Go.RowKit
def allTo (p : Nat → Bool) (k : Nat) : Bool := (List.range k).all p
theorem allTo_next {p : Nat → Bool} {k : Nat} (h : allTo p k = true) (hk : p k = true) : allTo p (k + 1) = true := by
  unfold allTo at *
  rw [List.range_succ, List.all_append, h]
  simp [hk]
theorem allTo_bad {p : Nat → Bool} {k n : Nat} (hk : p k = false) (h : k < n) : allTo p n = false := by
  unfold allTo
  rw [List.all_eq_false]
  exact ⟨k, List.mem_range.2 h, by rw [hk]; simp⟩
theorem allTo_at {p : Nat → Bool} {k n : Nat} (h : allTo p n = true) (hk : k < n) : p k = true := by
  unfold allTo at h
  exact List.all_eq_true.1 h k (List.mem_range.2 hk)
def segFit (f t : Int) (l : List Seg) (k : Nat) : Bool := segOkB (atK segK l k) && (decide (f ≤ (atK segK l k).fr) && (decide ((atK segK l k).to ≤ t) && (decide (k = 0) || decide ((atK segK l (k - 1)).fr < (atK segK l k).fr))))
noncomputable def segsB (f t : Int) (l : List Seg) : Bool := inB l.length 1 20 && (allTo (segFit f t l) l.length && decide (tilesZ f t l = 0))
theorem segs_short {f t : Int} {l : List Seg} (h : inB l.length 1 20 = false) : segsB f t l = false := by unfold segsB; rw [h, Bool.false_and]
theorem segs_bad {f t : Int} {l : List Seg} {k : Nat} (h : segFit f t l k = false) (hk : k < l.length) : segsB f t l = false := by unfold segsB; rw [allTo_bad h hk, Bool.false_and, Bool.and_false]
theorem segs_end {f t : Int} {l : List Seg} (h : inB l.length 1 20 = true) (ha : allTo (segFit f t l) l.length = true) : segsB f t l = decide (tilesZ f t l = 0) := by unfold segsB; rw [h, ha, Bool.true_and, Bool.true_and]
theorem segFit_ok {f t : Int} {l : List Seg} {k : Nat} (h : segFit f t l k = true) : segOkB (atK segK l k) = true ∧ f ≤ (atK segK l k).fr ∧ (atK segK l k).to ≤ t := by
  unfold segFit at h
  simp only [Bool.and_eq_true, decide_eq_true_eq] at h
  exact ⟨h.1, h.2.1, h.2.2.1⟩
theorem segOk_days {s : Seg} (h : segOkB s = true) : s.fr ≤ s.to ∧ 400 ≤ s.to := by
  unfold segOkB at h
  simp only [Bool.and_eq_true, decide_eq_true_eq] at h
  refine ⟨h.2.2.1, ?_⟩
  by_cases hs : 400 ≤ s.to
  · exact hs
  · have := h.2.1; unfold dayB at this; rw [inB_false (.inl (by omega))] at this; cases this
theorem segs_days {f t : Int} {l : List Seg} (ha : allTo (segFit f t l) l.length = true) : ∀ s ∈ l, -9223372036854775808 ≤ s.to := by
  intro s hs
  obtain ⟨i, hi, rfl⟩ := List.mem_iff_getElem.1 hs
  have h := (segOk_days (segFit_ok (allTo_at ha hi)).1).2
  rw [atK_eq hi] at h
  omega
theorem segs_order {f t : Int} {l : List Seg} (h : ¬ f ≤ t) : segsB f t l = false := by
  cases hb : inB l.length 1 20
  · exact segs_short hb
  have hl : 0 < l.length := by
    by_cases hl : 0 < l.length
    · exact hl
    · rw [inB_false (.inl (by omega))] at hb; cases hb
  cases hs : segFit f t l 0
  · exact segs_bad hs hl
  · have := segFit_ok hs; have := segOk_days this.1; omega
theorem segFit_zero {f t : Int} {l : List Seg} : segFit f t l 0 = (segOkB (atK segK l 0) && (decide (f ≤ (atK segK l 0).fr) && (decide ((atK segK l 0).to ≤ t) && true))) := rfl
theorem segFit_succ {f t : Int} {l : List Seg} {j : Nat} : segFit f t l (j + 1) = (segOkB (atK segK l (j + 1)) && (decide (f ≤ (atK segK l (j + 1)).fr) && (decide ((atK segK l (j + 1)).to ≤ t) && decide ((atK segK l j).fr < (atK segK l (j + 1)).fr)))) := by
  unfold segFit
  rw [decide_eq_false (p := j + 1 = 0) (by omega), Bool.false_or]
  rfl
def patB (p : Pat) : Bool := inB p.mon 1 12 && inB p.dom 1 31
def patFit (f t : Int) (l : List Pat) (k : Nat) : Bool := patB (atK patK l k) && (inB (atK patK l k).day f t && (decide (k = 0) || decide ((atK patK l (k - 1)).day < (atK patK l k).day)))
def patsB (f t : Int) (l : List Pat) : Bool := decide ((l.length : Int) ≤ 8) && allTo (patFit f t l) l.length
theorem pats_bad {f t : Int} {l : List Pat} {k : Nat} (h : patFit f t l k = false) (hk : k < l.length) : patsB f t l = false := by unfold patsB; rw [allTo_bad h hk, Bool.and_false]
theorem pats_end {f t : Int} {l : List Pat} (ha : allTo (patFit f t l) l.length = true) : patsB f t l = decide ((l.length : Int) ≤ 8) := by unfold patsB; rw [ha, Bool.and_true]
theorem patFit_zero {f t : Int} {l : List Pat} : patFit f t l 0 = (patB (atK patK l 0) && (inB (atK patK l 0).day f t && true)) := rfl
theorem patFit_succ {f t : Int} {l : List Pat} {j : Nat} : patFit f t l (j + 1) = (patB (atK patK l (j + 1)) && (inB (atK patK l (j + 1)).day f t && decide ((atK patK l j).day < (atK patK l (j + 1)).day))) := by
  unfold patFit
  rw [decide_eq_false (p := j + 1 = 0) (by omega), Bool.false_or]
  rfl
theorem fit_no1 {f t : Int} {l : List Seg} {k : Nat} (h : segOkB (atK segK l k) = false) : segFit f t l k = false := by unfold segFit; rw [h, Bool.false_and]
theorem fit_no2 {f t : Int} {l : List Seg} {k : Nat} (h : (atK segK l k).fr < f) : segFit f t l k = false := by unfold segFit; rw [decide_eq_false (by omega : ¬ f ≤ (atK segK l k).fr), Bool.false_and, Bool.and_false]
theorem fit_no3 {f t : Int} {l : List Seg} {k : Nat} (h : t < (atK segK l k).to) : segFit f t l k = false := by unfold segFit; rw [decide_eq_false (by omega : ¬ (atK segK l k).to ≤ t), Bool.false_and, Bool.and_false, Bool.and_false]
theorem fit_no4 {f t : Int} {l : List Seg} {k j : Nat} (e : k = j + 1) (h : (atK segK l k).fr ≤ (atK segK l j).fr) : segFit f t l k = false := by subst e; rw [segFit_succ, decide_eq_false (by omega : ¬ (atK segK l j).fr < (atK segK l (j + 1)).fr), Bool.and_false, Bool.and_false, Bool.and_false]
theorem fit_yes {f t : Int} {l : List Seg} {k : Nat} (h1 : segOkB (atK segK l k) = true) (h2 : f ≤ (atK segK l k).fr) (h3 : (atK segK l k).to ≤ t) (h4 : ∀ j, k = j + 1 → (atK segK l j).fr < (atK segK l k).fr) : segFit f t l k = true := by
  cases k with
  | zero => rw [segFit_zero, h1, decide_eq_true h2, decide_eq_true h3]; rfl
  | succ j => rw [segFit_succ, h1, decide_eq_true h2, decide_eq_true h3, decide_eq_true (h4 j rfl)]; rfl
theorem pfit_no1 {f t : Int} {l : List Pat} {k : Nat} (h : patB (atK patK l k) = false) : patFit f t l k = false := by unfold patFit; rw [h, Bool.false_and]
theorem pfit_no2 {f t : Int} {l : List Pat} {k : Nat} (h : inB (atK patK l k).day f t = false) : patFit f t l k = false := by unfold patFit; rw [h, Bool.false_and, Bool.and_false]
theorem pfit_no4 {f t : Int} {l : List Pat} {k j : Nat} (e : k = j + 1) (h : (atK patK l k).day ≤ (atK patK l j).day) : patFit f t l k = false := by subst e; rw [patFit_succ, decide_eq_false (by omega : ¬ (atK patK l j).day < (atK patK l (j + 1)).day), Bool.and_false, Bool.and_false]
theorem pfit_yes {f t : Int} {l : List Pat} {k : Nat} (h1 : patB (atK patK l k) = true) (h2 : inB (atK patK l k).day f t = true) (h4 : ∀ j, k = j + 1 → (atK patK l j).day < (atK patK l k).day) : patFit f t l k = true := by
  cases k with
  | zero => rw [patFit_zero, h1, h2]; rfl
  | succ j => rw [patFit_succ, h1, h2, decide_eq_true (h4 j rfl)]; rfl
def ruleB (z : Int) : Bool := decide (z = 0) || decide (z = 1)
noncomputable def regimeB (r : Rgm) : Bool := nameOk r.name && (dayB r.fr && (dayB r.to && (segsB r.fr r.to r.segs && (patsB r.fr r.to r.pats && (reignsOk r.rgns && ruleB r.rule)))))
theorem pat_box (w : World) (a b c : Int) (t : TypeId) : ∃ W0, W0 = w.alloc (.cells #[.int .i64 a, .int .i64 b, .int .i64 c] t) ∧ (∀ x : Later W0, x.w.cell? ⟨w.heap.size, 0, none⟩ = some (.int .i64 a)) ∧ (∀ x : Later W0, x.w.cell? ⟨w.heap.size, 1, none⟩ = some (.int .i64 b)) ∧ (∀ x : Later W0, x.w.cell? ⟨w.heap.size, 2, none⟩ = some (.int .i64 c)) ∧ ∀ x : Later W0, Below w.heap.size w x.w :=
  ⟨_, rfl, Later.new rfl 0 rfl, Later.new rfl 1 rfl, Later.new rfl 2 rfl, fun x => below_alloc x.below⟩
end Go.Proofs.YtilpencbbdpgfaaGreatDoor.ctr
namespace Go.Proofs.YtilpencbbdpgfaaGreatDoor.ctr
open Go.RowKit
section
variable {P : Program} {ops : Array Oper} {md : Region.Mode} {C : World → Prop}
theorem wpQuiet_mono {Q1 Q2 : Act → Prop} (hQ : ∀ a, Q1 a → Q2 a) : ∀ (l : List Oper) (a : Act), wpQuiet P ops C Q1 l a → wpQuiet P ops C Q2 l a
  | [], a, h => hQ a h
  | o :: l, a, h => by
    unfold wpQuiet at h ⊢
    split
    · rename_i hw
      rw [if_pos hw] at h
      exact Oper.quiet_mono (fun a' => wpQuiet_mono hQ l a') h
    · rename_i hw
      rw [if_neg hw] at h
      exact wpQuiet_mono hQ l _ h
def wpMix (P : Program) (md : Region.Mode) (ops : Array Oper) (C : World → Prop) (N : Nat) (R : Array Bool → Act → Prop) : Nat → Array Bool → Act → Prop
  | 0, listed, a => R listed a
  | m + 1, listed, a => Region.ready md ops listed ≠ [] ∧ ∀ i ∈ Region.ready md ops listed, i < N ∧ qOp P ops C i (wpMix P md ops C N R m (listed.setIfInBounds i true)) a
def lexP (md : Region.Mode) (ops : Array Oper) : Nat → Nat → Array Bool → Bool
  | 0, _, _ => true
  | n + 1, k, listed => (Region.ready md ops listed).contains k && Region.free md ops listed k && lexP md ops n (k + 1) (listed.setIfInBounds k true)
def setN : Nat → Nat → Array Bool → Array Bool
  | 0, _, l => l
  | n + 1, k, l => setN n (k + 1) (l.setIfInBounds k true)
def linkB (md : Region.Mode) (ops : Array Oper) (N : Nat) : Bool := (List.range (N - 1)).all fun i => (List.range N).any fun k => decide (i < k) && ((ops[k]?).map fun o => o.after.any fun e => Region.binds md e && e.on == i).getD false
def waitB (md : Region.Mode) (ops : Array Oper) (N : Nat) : Bool := (List.range ops.size).all fun j => decide (j < N) || ((ops[j]?).map fun o => o.after.any fun e => Region.binds md e && (e.on == N - 1 || (decide (N ≤ e.on) && decide (e.on < ops.size)))).getD false
def Closed (md : Region.Mode) (ops : Array Oper) (listed : Array Bool) : Prop := ∀ j o, ops[j]? = some o → listed.getD j false = true → ∀ e ∈ o.after, Region.binds md e = true → listed.getD e.on false = true
def Above (ops : Array Oper) (N : Nat) (listed : Array Bool) : Prop := ∀ j, N ≤ j → j < ops.size → listed.getD j true = false
theorem yes_no {listed : Array Bool} {i : Nat} (h : listed.getD i false = true) (h' : listed.getD i true = false) : False := by
  rcases Nat.lt_or_ge i listed.size with k | k
  · simp [k] at h h'
    rw [h] at h'
    cases h'
  · simp [Array.getElem?_eq_none k] at h
theorem closed_set {listed : Array Bool} (h : Closed md ops listed) {j : Nat} (hj : j ∈ Region.ready md ops listed) : Closed md ops (listed.setIfInBounds j true) := fun k o ho hk e he hb => by
  by_cases hkj : j = k
  · subst hkj
    obtain ⟨_, o', ho', hall⟩ := mem_ready.1 hj
    obtain rfl := Option.some.inj (ho.symm.trans ho')
    exact getD_set_true (hall e he hb)
  · rw [getD_set_ne false hkj] at hk
    exact getD_set_true (h k o ho hk e he hb)
theorem above_set {listed : Array Bool} {N : Nat} (h : Above ops N listed) {j : Nat} (hj : j < N) : Above ops N (listed.setIfInBounds j true) := fun k hk hs => by
  rw [getD_set_ne true (by omega)]
  exact h k hk hs
theorem all_below {listed : Array Bool} {N : Nat} (hc : Closed md ops listed) (hl : linkB md ops N = true) (hN : listed.getD (N - 1) false = true) : ∀ (d i : Nat), i + d = N - 1 → i < N → listed.getD i false = true := by
  intro d
  induction d using Nat.strongRecOn with
  | ind d ih =>
    intro i hid hi
    by_cases hd : d = 0
    · rw [show i = N - 1 by omega]
      exact hN
    · have h1 := List.all_eq_true.1 hl i (List.mem_range.2 (by omega))
      obtain ⟨k, hk, h2⟩ := List.any_eq_true.1 h1
      have hkN := List.mem_range.1 hk
      simp only [Bool.and_eq_true, decide_eq_true_eq] at h2
      obtain ⟨hik, h3⟩ := h2
      cases ho : ops[k]? with
      | none => simp [ho] at h3
      | some o =>
        simp only [ho, Option.map_some, Option.getD_some] at h3
        obtain ⟨x, hx, hxe⟩ := Array.any_eq_true'.1 h3
        simp only [Bool.and_eq_true, beq_iff_eq] at hxe
        have hkl := ih (N - 1 - k) (by omega) k (by omega) hkN
        have := hc k o ho hkl x hx hxe.1
        rw [hxe.2] at this
        exact this
theorem wait_for {listed : Array Bool} {N : Nat} (hc : Closed md ops listed) (ha : Above ops N listed) (hl : linkB md ops N = true) (hw : waitB md ops N = true) {i j : Nat} (hi : i < N) (hun : listed.getD i true = false) (hj : j ∈ Region.ready md ops listed) : j < N := by
  rcases Nat.lt_or_ge j N with h | h
  · exact h
  · exfalso
    obtain ⟨_, o, ho, hall⟩ := mem_ready.1 hj
    have hsz : j < ops.size := (Array.getElem?_eq_some_iff.1 ho).1
    have h1 := List.all_eq_true.1 hw j (List.mem_range.2 hsz)
    simp only [ho, Option.map_some, Option.getD_some, Bool.or_eq_true, decide_eq_true_eq] at h1
    rcases h1 with h1 | h1
    · omega
    · obtain ⟨x, hx, hxe⟩ := Array.any_eq_true'.1 h1
      simp only [Bool.and_eq_true, Bool.or_eq_true, beq_iff_eq, decide_eq_true_eq] at hxe
      have hlx := hall x hx hxe.1
      rcases hxe.2 with e | ⟨e1, e2⟩
      · rw [e] at hlx
        exact yes_no (all_below hc hl hlx (N - 1 - i) i (by omega) hi) hun
      · exact yes_no hlx (ha x.on e1 e2)
theorem wpAny_of_mix {N : Nat} {R : Array Bool → Act → Prop} {Q' : Exit → Act → World → Prop} {f : Nat} (hR : ∀ listed a w, C w → R listed a → wpAny P md ops Q' f listed a w) :
    ∀ (m : Nat) (listed : Array Bool) (a : Act) (w : World), C w → wpMix P md ops C N R m listed a → wpAny P md ops Q' (f + m) listed a w
  | 0, _, _, _, hw, h => hR _ _ _ hw h
  | m + 1, _, _, _, hw, h => ⟨fun h0 => absurd h0 h.1, fun i hi => wpOp_of_qOp hw (fun a' w' hw' k => wpAny_of_mix hR m _ a' w' hw' k) (h.2 i hi).2⟩
theorem mix_first {N : Nat} {R : Array Bool → Act → Prop} (hRl : ∀ listed a, R listed a → ∀ j, j < N → listed.getD j false = true) (hl : linkB md ops N = true) (hwt : waitB md ops N = true) {i : Nat} {oi : Oper} {v : Value} (hi : ops[i]? = some oi) (hN : i < N) (hsel : ∀ (j : Nat) (o : Oper) cs b, ops[j]? = some o → o.op ≠ .select cs b) :
    ∀ (m : Nat) (listed : Array Bool) (a : Act), Closed md ops listed → Above ops N listed →
      (∀ j oj, ops[j]? = some oj → j ≠ i → listed.getD j true = false → (∀ e ∈ oj.after, Region.binds md e = true → e.on ≠ i) → oi.apart ops oj = true) →
      i ∈ Region.ready md ops listed → YieldsIn P ops C oi v a →
      wpMix P md ops C N R m (listed.setIfInBounds i true) (a.put oi.dst v) → wpMix P md ops C N R (m + 1) listed a := by
  intro m
  induction m with
  | zero =>
    intro listed a hc ha _ hr hy H
    refine ⟨fun h => (by rw [h] at hr; cases hr), fun j hj => ?_⟩
    have hjN := wait_for hc ha hl hwt hN (mem_ready.1 hr).1 hj
    by_cases hji : j = i
    · subst hji
      exact ⟨hjN, hy.qOp hi H⟩
    · have h1 := hRl _ _ H j hjN
      rw [getD_set_ne false (Ne.symm hji)] at h1
      exact absurd (mem_ready.1 hj).1 (fun h => yes_no h1 h)
  | succ m ih =>
    intro listed a hc ha hfree hr hy H
    refine ⟨fun h => (by rw [h] at hr; cases hr), fun j hj => ?_⟩
    by_cases hji : j = i
    · subst hji
      exact ⟨hN, hy.qOp hi H⟩
    · obtain ⟨hjN, h1⟩ := H.2 j (ready_mono hj hji)
      refine ⟨hjN, ?_⟩
      obtain ⟨hjun, oj, hoj, hall⟩ := mem_ready.1 hj
      have hnot : ∀ e ∈ oj.after, Region.binds md e = true → e.on ≠ i := fun e he hb heq => by
        have k1 := hall e he hb
        rw [heq] at k1
        exact yes_no k1 (mem_ready.1 hr).1
      have h2 := qOp_put hoj (hfree j oj hoj hji hjun hnot) (fun cs b => hsel i oi cs b hi) (fun cs b => hsel j oj cs b hoj) hy h1
      have hfree' : ∀ k ok, ops[k]? = some ok → k ≠ i → (listed.setIfInBounds j true).getD k true = false → (∀ e ∈ ok.after, Region.binds md e = true → e.on ≠ i) → oi.apart ops ok = true := fun k ok hk hki hun hno => by
        refine hfree k ok hk hki ?_ hno
        by_cases hjk : j = k
        · subst hjk
          exact hjun
        · rw [getD_set_ne true hjk] at hun
          exact hun
      refine qOp_mono (fun a' h3 => ih (listed.setIfInBounds j true) a' (closed_set hc hj) (above_set ha hjN) hfree' (ready_mono hr (Ne.symm hji)) h3.1 ?_) h2
      rw [Array.setIfInBounds_comm _ _ hji]
      exact h3.2
theorem mix_lex {N : Nat} {R : Array Bool → Act → Prop} (hRl : ∀ listed a, R listed a → ∀ j, j < N → listed.getD j false = true) (hl : linkB md ops N = true) (hwt : waitB md ops N = true) (hs : Region.noSelect ops = true) : ∀ (l : List Oper) (k : Nat) (listed : Array Bool) (a : Act), k + l.length ≤ N → (∀ j, j < l.length → l[j]? = ops[k + j]?) →
    lexP md ops l.length k listed = true → Closed md ops listed → Above ops N listed → wpQuiet P ops C (fun a' => R (setN l.length k listed) a') l a → wpMix P md ops C N R l.length listed a
  | [], _, _, _, _, _, _, _, _, h => h
  | o :: l, k, listed, a, hk, hll, hB, hc, ha, h => by
    have h0 : ops[k]? = some o := by simpa using (hll 0 (by simp)).symm
    simp only [List.length_cons] at hk
    simp only [List.length_cons, lexP, Bool.and_eq_true] at hB
    obtain ⟨⟨hr, hf⟩, hB'⟩ := hB
    have hr' : k ∈ Region.ready md ops listed := by simpa using hr
    have hst : qOp P ops C k (wpQuiet P ops C (fun a' => R (setN (o :: l).length k listed) a') l) a := by unfold qOp; simp only [h0]; exact h
    obtain ⟨v, hy, hK⟩ := yieldsIn_of_qOp h0 hst
    exact mix_first hRl hl hwt h0 (by omega) (Region.noSelect_spec hs) l.length listed a hc ha (Region.free_spec h0 hf) hr' hy
      (mix_lex hRl hl hwt hs l (k + 1) _ _ (by omega) (fun j hj => by have := hll (j + 1) (by simpa using hj); simpa [Nat.add_assoc, Nat.add_comm 1 j] using this) hB' (closed_set hc hr') (above_set ha (by omega)) hK)
end
theorem any_prefix {P : Program} {C : World → Prop} {Q : Exit → Act → World → Prop} {big : List Oper} (n f : Nat) {a : Act} {w : World} (hn : n ≤ big.length) (hs : Region.noSelect big.toArray = true) (hB : lexP .any big.toArray n 0 (Array.replicate big.length false) = true) (hl : linkB .any big.toArray n = true) (hwt : waitB .any big.toArray n = true)
    (hA : ((List.range n).all fun j => (setN n 0 (Array.replicate big.length false)).getD j false) = true) (hw : C w)
    (h : wpQuiet P big.toArray C (fun a' => ∀ w', C w' → wpAny P .any big.toArray Q f (setN n 0 (Array.replicate big.length false)) a' w') (big.take n) a) : wpAny P .any big.toArray Q (f + n) (Array.replicate big.length false) a w := by
  have hlen : (big.take n).length = n := by rw [List.length_take]; omega
  have hAll : ∀ j, j < n → (setN n 0 (Array.replicate big.length false)).getD j false = true := fun j hj => List.all_eq_true.1 hA j (List.mem_range.2 hj)
  have hm := mix_lex (P := P) (md := .any) (ops := big.toArray) (C := C) (N := n) (R := fun listed a => (∀ j, j < n → listed.getD j false = true) ∧ ∀ w', C w' → wpAny P .any big.toArray Q f listed a w') (fun _ _ h => h.1) hl hwt hs (big.take n) 0 (Array.replicate big.length false) a (by omega)
    (fun j hj => by rw [hlen] at hj; simp [hj]) (by rw [hlen]; exact hB)
    (fun j o _ hj => by
      exfalso
      by_cases hjl : j < big.length
      · simp [hjl] at hj
      · simp [Array.getElem?_eq_none (show (Array.replicate big.length false).size ≤ j by simp; omega)] at hj)
    (fun j _ hj => by
      have hj' : j < big.length := by simpa using hj
      simp [hj'])
    (by rw [hlen]; exact wpQuiet_mono (fun a' h => ⟨hAll, h⟩) _ _ h)
  rw [hlen] at hm
  exact wpAny_of_mix (N := n) (R := fun listed a => (∀ j, j < n → listed.getD j false = true) ∧ ∀ w', C w' → wpAny P .any big.toArray Q f listed a w') (fun _ _ w h1 h2 => h2.2 w h1) n _ a w hw hm
section
variable {P : Program} {ops : Array Oper} {Q : Exit → Act → World → Prop} {md : Region.Mode}
theorem op_call {i : Nat} {o : Oper} {g : FuncId} {xs : Array Operand} {ats : Array TypeId} {d : Tmp} {args : Array Value} {T : Value → World → Prop} {K : Act → World → Prop} {a : Act} {w : World} (hi : ops[i]? = some o) (ho : o.op = .call { callee := .value (.func g), args := xs, argTypes := ats }) (hd : o.dst = some d) (hw : Region.wanted o (yielded ops a.tmps) = true)
    (ha : xs.map a.eval = args) (he : ∀ args w, (callFunc g args).run P w = .ok (.enter g args) w) (hc : Calls P g args w fun e w' => ∃ u, e = .returned u ∧ T u w') (h : ∀ u w', T u w' → K (a.put (some d) u) w') : wpOp P ops Q i K a w := by
  unfold wpOp
  simp only [hi, hw, if_true]
  left
  unfold Oper.wp
  have hx : execOp a.eval o = callFunc g args := by
    rw [← ha]
    simp [execOp, ho, resolve, invoke, Act.eval, Deferred.ofValue]
  rw [hx, he]
  refine hc.mono ?_
  rintro e w' ⟨u, rfl, hT⟩
  rw [hd]
  exact h u w' hT
end
end Go.Proofs.YtilpencbbdpgfaaGreatDoor.ctr
namespace Go.Proofs.YtilpencbbdpgfaaGreatDoor.ctr
open Go.RowKit
def cmpI (a b : Int) : Int := if a < b then -1 else if b < a then 1 else 0
def or3 (x y z : Int) : Int := if x ≠ 0 then x else if y ≠ 0 then y else z
theorem cmpI_cases (a b : Int) : (a < b ∧ cmpI a b = -1) ∨ (a = b ∧ cmpI a b = 0) ∨ (b < a ∧ cmpI a b = 1) := by
  unfold cmpI
  rcases Int.lt_trichotomy a b with h | h | h
  · exact .inl ⟨h, by rw [if_pos h]⟩
  · exact .inr (.inl ⟨h, by rw [if_neg (by omega), if_neg (by omega)]⟩)
  · exact .inr (.inr ⟨h, by rw [if_neg (by omega), if_pos h]⟩)
theorem or_lt (a b : PSeg) : decide (or3 (cmpI a.s.fr b.s.fr) (cmpI a.s.to b.s.to) (cmpI a.at' b.at') < 0) = ltP a b := by
  have e : ∀ x y : Bool, (x = true ↔ y = true) → x = y := by decide
  apply e
  rw [ltP_iff, decide_eq_true_eq]
  unfold or3
  rcases cmpI_cases a.s.fr b.s.fr with ⟨h, k⟩ | ⟨h, k⟩ | ⟨h, k⟩ <;> rw [k]
  · simp; omega
  · rcases cmpI_cases a.s.to b.s.to with ⟨h', k'⟩ | ⟨h', k'⟩ | ⟨h', k'⟩ <;> rw [k']
    · simp; omega
    · rcases cmpI_cases a.at' b.at' with ⟨h2, k2⟩ | ⟨h2, k2⟩ | ⟨h2, k2⟩ <;> rw [k2] <;> simp <;> omega
    · simp; omega
  · simp; omega
def psK : IK PSeg := ⟨6, fun p => [p.s.fr, p.s.to, p.s.cal, p.s.sty, p.s.off, p.at'], fun zs => ⟨⟨zs.getD 0 0, zs.getD 1 0, zs.getD 2 0, zs.getD 3 0, zs.getD 4 0⟩, zs.getD 5 0⟩, p0, fun _ => rfl, fun zs h => by
  match zs, h with
  | [_, _, _, _, _, _], _ => rfl⟩
theorem IAt.ps {w : World} {g k : Nat} {r : PSeg} (h : IAt psK w g k r) : w.cell? ⟨g, k * 6, none⟩ = some (.int .i64 r.s.fr) ∧ w.cell? ⟨g, k * 6 + 1, none⟩ = some (.int .i64 r.s.to) ∧ w.cell? ⟨g, k * 6 + 2, none⟩ = some (.int .i64 r.s.cal) ∧ w.cell? ⟨g, k * 6 + 3, none⟩ = some (.int .i64 r.s.sty) ∧ w.cell? ⟨g, k * 6 + 4, none⟩ = some (.int .i64 r.s.off) ∧ w.cell? ⟨g, k * 6 + 5, none⟩ = some (.int .i64 r.at') :=
  ⟨h 0 _ rfl, h 1 _ rfl, h 2 _ rfl, h 3 _ rfl, h 4 _ rfl, h 5 _ rfl⟩
theorem cmpNaN (a : Int) (w : World) : Calls Tryz.prog 257 #[.int .i64 a] w fun e w' => e = .returned (.bool false) ∧ w' = w := by
  go_enter Tryz.func257, Tryz.ntmps257
  go_wp2
  go_ret
  exact ⟨rfl, rfl⟩
theorem cmpCmp (a b : Int) (w : World) : Calls Tryz.prog 433 #[.int .i64 a, .int .i64 b] w fun e w' => e = .returned (.int .i64 (cmpI a b)) ∧ w' = w := by
  unfold cmpI
  by_cases h1 : a < b
  · rw [if_pos h1]
    go_enter Tryz.func433, Tryz.ntmps433
    go_wp2_with (go_at_call 257; refine (cmpNaN _ _).mono ?_; rintro e w1 ⟨rfl, rfl⟩)
    go_ret
    exact ⟨rfl, rfl⟩
  rw [if_neg h1]
  by_cases h2 : b < a
  · rw [if_pos h2]
    go_enter Tryz.func433, Tryz.ntmps433
    go_wp2_with (go_at_call 257; refine (cmpNaN _ _).mono ?_; rintro e w1 ⟨rfl, rfl⟩)
    go_ret
    exact ⟨rfl, rfl⟩
  rw [if_neg h2]
  go_enter Tryz.func433, Tryz.ntmps433
  go_wp2_with (go_at_call 257; refine (cmpNaN _ _).mono ?_; rintro e w1 ⟨rfl, rfl⟩)
  go_ret
  exact ⟨rfl, rfl⟩
set_option maxHeartbeats 1000000 in
theorem cmpOr (x y z : Int) (g : Nat) (w : World) (h0 : w.cell? ⟨g, 0, none⟩ = some (.int .i64 x)) (h1 : w.cell? ⟨g, 1, none⟩ = some (.int .i64 y)) (h2 : w.cell? ⟨g, 2, none⟩ = some (.int .i64 z)) : Calls Tryz.prog 432 #[.slice (some ⟨g, 0, none⟩) 3 3] w fun e w' => e = .returned (.int .i64 (or3 x y z)) ∧ w' = w := by
  obtain ⟨R, hR⟩ : ∃ R, R = or3 x y z := ⟨_, rfl⟩
  have HR := hideP hR
  rw [← hR]
  clear hR
  go_enter Tryz.func432, Tryz.ntmps432
  go_wp2
  go_loopw [8] (fun i wr => ∃ k : Nat, k ≤ 3 ∧ i = .int .i64 (k : Int) ∧ Hid ((0 < k → x = 0) ∧ (1 < k → y = 0) ∧ (2 < k → z = 0)) ∧ wr = w) (fun i _ => 3 - (intOf i).toNat)
  case atStart => exact ⟨0, by omega, rfl, ⟨by omega, by omega, by omega⟩, rfl⟩
  case round =>
    obtain ⟨k, hk, rfl, HH, rfl⟩ := hrel
    have k0 := HH.out.1
    have k1 := HH.out.2.1
    have k2 := HH.out.2.2
    clear HH
    rcases (show k = 0 ∨ k = 1 ∨ k = 2 ∨ k = 3 by omega) with rfl | rfl | rfl | rfl
    · clear k0 k1 k2
      by_cases hx : x = 0
      · have HN : Hid ((0 < 1 → x = 0) ∧ (1 < 1 → y = 0) ∧ (2 < 1 → z = 0)) := ⟨fun _ => hx, by omega, by omega⟩
        have hq : (x == 0) = true := by simp [hx]
        clear hx
        go_wp2
        exact ⟨⟨1, by omega, rfl, HN.out, trivial⟩, by simp [intOf]⟩
      · have hq : (x == 0) = false := by simp [hx]
        have HN : Hid (R = x) := by unfold Hid; rw [HR.out, or3, if_pos hx]
        go_wp2
        go_ret
        exact ⟨ret_int HN.out.symm, rfl⟩
    · have HX := hideP (k0 (by omega))
      clear k0 k1 k2
      by_cases hy : y = 0
      · have HN : Hid ((0 < 2 → x = 0) ∧ (1 < 2 → y = 0) ∧ (2 < 2 → z = 0)) := ⟨fun _ => HX.out, fun _ => hy, by omega⟩
        have hq : (y == 0) = true := by simp [hy]
        clear hy
        go_wp2
        exact ⟨⟨2, by omega, rfl, HN.out, trivial⟩, by simp [intOf]⟩
      · have hq : (y == 0) = false := by simp [hy]
        have HN : Hid (R = y) := by unfold Hid; rw [HR.out, or3, if_neg (by simp [HX.out]), if_pos hy]
        go_wp2
        go_ret
        exact ⟨ret_int HN.out.symm, rfl⟩
    · have HX := hideP (k0 (by omega))
      have HY := hideP (k1 (by omega))
      clear k0 k1 k2
      have HN : Hid (R = z) := by unfold Hid; rw [HR.out, or3, if_neg (by simp [HX.out]), if_neg (by simp [HY.out])]
      by_cases hz : z = 0
      · have HM : Hid ((0 < 3 → x = 0) ∧ (1 < 3 → y = 0) ∧ (2 < 3 → z = 0)) := ⟨fun _ => HX.out, fun _ => HY.out, fun _ => hz⟩
        have hq : (z == 0) = true := by simp [hz]
        clear hz
        go_wp2
        exact ⟨⟨3, by omega, rfl, HM.out, trivial⟩, by simp [intOf]⟩
      · have hq : (z == 0) = false := by simp [hz]
        go_wp2
        go_ret
        exact ⟨ret_int HN.out.symm, rfl⟩
    · have HN : Hid (R = 0) := by unfold Hid; rw [HR.out, or3, if_neg (by simp [k0 (by omega)]), if_neg (by simp [k1 (by omega)]), k2 (by omega)]
      clear k0 k1 k2
      go_wp2
      go_ret
      exact ⟨ret_int HN.out.symm, rfl⟩
end Go.Proofs.YtilpencbbdpgfaaGreatDoor.ctr
namespace Go.Proofs.YtilpencbbdpgfaaGreatDoor.ctr
open Go.RowKit
def CIs {α : Type} (K : IK α) (cur : Array Value) (L : List α) : Prop := ∀ k, k < L.length → ∀ (j : Nat) (z : Int), (K.iv (atK K L k))[j]? = some z → cur[k * K.m + j]? = some (.int .i64 z)
def PRow {α : Type} (K : IK α) (T : TypeId) (w : World) (g cap : Nat) (L : List α) : Prop := ∃ cur, Blk w g cur T ∧ cur.size = cap * K.m ∧ L.length ≤ cap ∧ cap ≤ maxLen ∧ CIs K cur L
theorem atK_set {α : Type} {K : IK α} {L : List α} {i k : Nat} {x : α} (hi : i < L.length) : atK K (L.set i x) k = if k = i then x else atK K L k := by
  unfold atK
  simp only [List.getD, List.getElem?_set]
  by_cases e : i = k
  · subst e; simp [hi]
  · simp [e, Ne.symm e]
theorem CIs.set {α : Type} {K : IK α} {cur : Array Value} {L : List α} (h : CIs K cur L) {i cap : Nat} (x : α) (hi : i < L.length) (hc : L.length ≤ cap) (hs : cur.size = cap * K.m) : CIs K (setI cur (i * K.m) 0 (K.iv x)) (L.set i x) := by
  intro k hk j z e
  have hk' : k < L.length := by simpa using hk
  have hl : (K.iv x).length = K.m := K.len x
  have h1 : (i + 1) * K.m ≤ cap * K.m := Nat.mul_le_mul_right _ (by omega)
  have e1 : (i + 1) * K.m = i * K.m + K.m := by rw [Nat.add_mul]; omega
  rw [atK_set hi] at e
  by_cases q : k = i
  · subst q
    rw [if_pos rfl] at e
    have := setI_new (K.iv x) cur (k * K.m) 0 j z (by omega) e
    rw [Nat.add_zero] at this
    exact this
  · rw [if_neg q] at e
    have hj : j < K.m := by rw [← K.len (atK K L k)]; exact (List.getElem?_eq_some_iff.1 e).1
    rw [setI_old _ _ _ _ _ (by
      rcases Nat.lt_or_gt_of_ne q with q | q
      · left
        have : (k + 1) * K.m ≤ i * K.m := Nat.mul_le_mul_right _ q
        rw [Nat.add_mul] at this
        omega
      · right
        have : (i + 1) * K.m ≤ k * K.m := Nat.mul_le_mul_right _ q
        omega)]
    exact h k hk' j z e
theorem PRow.lt {α : Type} {K : IK α} {T : TypeId} {w : World} {g cap : Nat} {L : List α} (h : PRow K T w g cap L) : g < w.heap.size := by obtain ⟨cur, h, _⟩ := h; exact h.lt
theorem PRow.at {α : Type} {K : IK α} {T : TypeId} {w : World} {g cap : Nat} {L : List α} (h : PRow K T w g cap L) {k : Nat} (hk : k < L.length) : IAt K w g k (atK K L k) := by
  obtain ⟨cur, hB, _, _, _, hC⟩ := h
  exact fun j z e => hB.cell _ (hC k hk j z e)
theorem PRow.below {α : Type} {K : IK α} {T : TypeId} {B : Nat} {w w' : World} {g cap : Nat} {L : List α} (h : PRow K T w g cap L) (hb : Below B w w') (hg : g < B) : PRow K T w' g cap L := by
  obtain ⟨cur, hB, r⟩ := h
  exact ⟨cur, hB.below hb hg, r⟩
theorem PRow.grown {α : Type} {K : IK α} {T : TypeId} {w w' : World} {g cap : Nat} {L : List α} {r : Option Nat} (h : PRow K T w g cap L) (hb : w.grownBy w' r) (hg : some g ≠ r) : PRow K T w' g cap L := by
  obtain ⟨cur, hB, q⟩ := h
  exact ⟨cur, (hb.block g hB.lt hg).trans hB, q⟩
theorem PRow.row {α : Type} {K : IK α} {T : TypeId} {w : World} {g cap : Nat} {L : List α} (h : PRow K T w g cap L) : IRow K w (.slice (some ⟨g, 0, none⟩) L.length cap) L := by
  obtain ⟨cur, hB, _, h1, h2, hC⟩ := h
  exact ⟨_, cap, rfl, h1, h2, fun k hk => ⟨g, rfl, hB.lt, fun j z e => hB.cell _ (hC k hk j z e)⟩⟩
theorem CIs.take {α : Type} {K : IK α} {cur : Array Value} {L : List α} (h : CIs K cur L) (hm : 0 < K.m) {cap : Nat} (hc : L.length ≤ cap) (hs : cur.size = cap * K.m) : cur.toList.take (L.length * K.m) = icells K L := by
  have h1 : L.length * K.m ≤ cap * K.m := Nat.mul_le_mul_right _ hc
  apply List.ext_getElem?
  intro q
  by_cases hq : q < L.length * K.m
  · rw [List.getElem?_take, if_pos hq]
    have hk : q / K.m < L.length := Nat.div_lt_of_lt_mul (by rw [Nat.mul_comm]; exact hq)
    have hj : q % K.m < K.m := Nat.mod_lt _ hm
    have hd : q / K.m * K.m + q % K.m = q := by rw [Nat.mul_comm]; exact Nat.div_add_mod q K.m
    have e : (K.iv (atK K L (q / K.m)))[q % K.m]? = some ((K.iv (atK K L (q / K.m)))[q % K.m]'(by rw [K.len]; exact hj)) := by simp
    have a := h _ hk _ _ e
    have b := icells_at L _ _ _ hk e
    rw [hd] at a b
    rw [b]
    simpa using a
  · rw [List.getElem?_eq_none (by simp; omega), List.getElem?_eq_none (by rw [icells_len]; omega)]
theorem CIs.of_take {α : Type} {K : IK α} {cur : Array Value} {L : List α} (h : cur.toList.take (L.length * K.m) = icells K L) : CIs K cur L := by
  intro k hk j z e
  have hj : j < K.m := by rw [← K.len (atK K L k)]; exact (List.getElem?_eq_some_iff.1 e).1
  have b := icells_at L k j z hk e
  have hq : k * K.m + j < L.length * K.m := by
    have : (k + 1) * K.m ≤ L.length * K.m := Nat.mul_le_mul_right _ hk
    rw [Nat.add_mul] at this
    omega
  rw [← h, List.getElem?_take, if_pos hq] at b
  simpa using b
theorem PRow.owns {α : Type} {K : IK α} {T : TypeId} {w : World} {g cap base : Nat} {L : List α} (h : PRow K T w g cap L) (hm : 0 < K.m) (hg : base ≤ g) : w.ownsRow base T K.m (.slice (some ⟨g, 0, none⟩) L.length cap) L.length (icells K L) := by
  obtain ⟨cur, hB, hs, h1, h2, hC⟩ := h
  exact ⟨icells_len L, .inr ⟨g, cap, cur, rfl, hg, hB, h1, h2, hs, hC.take hm h1 hs⟩⟩
theorem PRow.of_owns {α : Type} {K : IK α} {T : TypeId} {w : World} {base : Nat} {v : Value} {L : List α} (h : w.ownsRow base T K.m v L.length (icells K L)) (h0 : 0 < L.length) : ∃ g cap, v = .slice (some ⟨g, 0, none⟩) L.length cap ∧ base ≤ g ∧ PRow K T w g cap L := by
  obtain ⟨_, ⟨_, h⟩ | ⟨g, cap, cur, rfl, hg, hB, h1, h2, hs, hC⟩⟩ := h
  · omega
  · exact ⟨g, cap, rfl, hg, cur, hB, hs, h1, h2, CIs.of_take hC⟩
theorem icells_app {α : Type} {K : IK α} : ∀ (l l' : List α), icells K (l ++ l') = icells K l ++ icells K l'
  | [], l' => rfl
  | a :: l, l' => by rw [List.cons_append, icells, icells, icells_app l l', List.append_assoc]
theorem icell_one {α : Type} {K : IK α} {l : List α} : ∀ u ∈ icells K l, u.oneCell' = true := by
  induction l with
  | nil => simp [icells]
  | cons a l ih =>
    intro u hu
    rcases List.mem_append.1 hu with h | h
    · obtain ⟨z, _, rfl⟩ := List.mem_map.1 h
      rfl
    · exact ih u h
theorem PRow.shorter {α : Type} {K : IK α} {T : TypeId} {w : World} {g cap : Nat} {L : List α} (h : PRow K T w g cap L) (n : Nat) : PRow K T w g cap (L.take n) := by
  obtain ⟨cur, hB, hs, h1, h2, hC⟩ := h
  refine ⟨cur, hB, hs, by simp; omega, h2, fun k hk j z e => hC k (by simp at hk; omega) j z ?_⟩
  simp at hk
  have hkn : k < n := by omega
  have : atK K (L.take n) k = atK K L k := by simp [atK, List.getD, hkn]
  rw [← this]
  exact e
end Go.Proofs.YtilpencbbdpgfaaGreatDoor.ctr
namespace Go.Proofs.YtilpencbbdpgfaaGreatDoor.ctr
open Go.RowKit
def putI (w : World) (g b : Nat) : Nat → List Int → World
  | _, [] => w
  | j, z :: zs => putI (w.setCell ⟨g, b + j, none⟩ (.int .i64 z)) g b (j + 1) zs
theorem putI_blk : ∀ (zs : List Int) (w : World) (g b j : Nat) (cur : Array Value) (T : TypeId), Blk w g cur T → Blk (putI w g b j zs) g (setI cur b j zs) T
  | [], _, _, _, _, _, _, h => h
  | _ :: zs, _, g, b, j, _, T, h => putI_blk zs _ g b (j + 1) _ T (h.set (b + j) _)
theorem putI_grown : ∀ (zs : List Int) (w : World) (g b j : Nat), w.grownBy (putI w g b j zs) (some g)
  | [], _, _, _, _ => ⟨rfl, rfl, rfl, Nat.le_refl _, fun _ _ _ => rfl⟩
  | z :: zs, w, g, b, j => by
    have h := putI_grown zs (w.setCell ⟨g, b + j, none⟩ (.int .i64 z)) g b (j + 1)
    refine ⟨h.os, h.tape, h.output, Nat.le_trans (by rw [World.size_setCell]; exact Nat.le_refl _) h.size, fun k hk hn => ?_⟩
    rw [putI, h.block k (by rw [World.size_setCell]; exact hk) hn]
    exact Below.heap_setCell w _ _ k (fun e => hn (by rw [e]))
theorem grown_two {w w1 w2 : World} {r : Option Nat} (h : w.grownBy w1 r) (k : w1.grownBy w2 r) : w.grownBy w2 r := ⟨k.os.trans h.os, k.tape.trans h.tape, k.output.trans h.output, Nat.le_trans h.size k.size, fun j hj hn => (k.block j (Nat.lt_of_lt_of_le hj h.size) hn).trans (h.block j hj hn)⟩
theorem PRow.put {α : Type} {K : IK α} {T : TypeId} {w : World} {g cap : Nat} {L : List α} (h : PRow K T w g cap L) {i : Nat} (hi : i < L.length) (x : α) : PRow K T (putI w g (i * K.m) 0 (K.iv x)) g cap (L.set i x) := by
  obtain ⟨cur, hB, hs, h1, h2, hC⟩ := h
  exact ⟨_, putI_blk _ w g _ 0 cur T hB, by rw [setI_size, hs], by simpa using h1, h2, hC.set x hi h1 hs⟩
theorem PRow.swapped {w : World} {g cap i j : Nat} {T : TypeId} {L : List PSeg} (h : PRow psK T w g cap L) (hi : i < L.length) (hj : j < L.length) : PRow psK T (putI (putI w g (i * 6) 0 (psK.iv (atK psK L j))) g (j * 6) 0 (psK.iv (atK psK L i))) g cap (swP L i j) ∧ w.grownBy (putI (putI w g (i * 6) 0 (psK.iv (atK psK L j))) g (j * 6) 0 (psK.iv (atK psK L i))) (some g) :=
  ⟨(h.put hi (atK psK L j)).put (by simpa using hj) (atK psK L i), grown_two (putI_grown _ _ _ _ _) (putI_grown _ _ _ _ _)⟩
theorem end_void {P : Program} {fn : Func} {R : Ending → World → Prop} {a : Act} {w : World} (hr : fn.results = #[]) (hd : a.defers = []) (hR : R (.returned (.tuple #[])) w) : bodyPost P fn R .normal a w := ⟨hd, .tuple #[], by simp [results, hr], hR⟩
theorem swap_world (w : World) (g i j : Nat) (a b : PSeg) : ((((((((((((w.setCell ⟨g, i * 6, none⟩ (.int .i64 b.s.fr)).setCell ⟨g, i * 6 + 1, none⟩ (.int .i64 b.s.to)).setCell ⟨g, i * 6 + 2, none⟩ (.int .i64 b.s.cal)).setCell ⟨g, i * 6 + 3, none⟩ (.int .i64 b.s.sty)).setCell ⟨g, i * 6 + 4, none⟩ (.int .i64 b.s.off)).setCell ⟨g, i * 6 + 5, none⟩ (.int .i64 b.at')).setCell ⟨g, j * 6, none⟩ (.int .i64 a.s.fr)).setCell ⟨g, j * 6 + 1, none⟩ (.int .i64 a.s.to)).setCell ⟨g, j * 6 + 2, none⟩ (.int .i64 a.s.cal)).setCell ⟨g, j * 6 + 3, none⟩ (.int .i64 a.s.sty)).setCell ⟨g, j * 6 + 4, none⟩ (.int .i64 a.s.off)).setCell ⟨g, j * 6 + 5, none⟩ (.int .i64 a.at')) = putI (putI w g (i * 6) 0 (psK.iv b)) g (j * 6) 0 (psK.iv a) := rfl
theorem PRow.drew {α : Type} {K : IK α} {T : TypeId} {w : World} {g cap : Nat} {L : List α} (h : PRow K T w g cap L) : PRow K T w.drew g cap L := h
theorem grown_drew {w w1 : World} {r : Option Nat} (h : w.grownBy w1 r) : w.grownBy w1.drew r := ⟨h.os, h.tape, h.output, h.size, h.block⟩
set_option maxHeartbeats 1000000 in
theorem heapSwap (g cap i j : Nat) (L : List PSeg) (w : World) (hP : PRow psK 337 w g cap L) (hi : i < L.length) (hj : j < L.length) :
    Calls Tryz.prog 431 #[.slice (some ⟨g, 0, none⟩) L.length cap, .int .i64 (i : Int), .int .i64 (j : Int)] w fun e w' => e = .returned (.tuple #[]) ∧ PRow psK 337 w' g cap (swP L i j) ∧ w.grownBy w' (some g) := by
  obtain ⟨a0, a1, a2, a3, a4, a5⟩ := (hP.at hi).ps
  obtain ⟨b0, b1, b2, b3, b4, b5⟩ := (hP.at hj).ps
  have hf : ∀ k, w.frozen? ⟨g, k, none⟩ = false := by obtain ⟨cur, hB, _⟩ := hP; exact hB.thaw
  have hc : L.length ≤ cap := by obtain ⟨cur, _, _, h, _⟩ := hP; exact h
  have hm : cap ≤ maxLen := by obtain ⟨cur, _, _, _, h, _⟩ := hP; exact h
  unfold maxLen at hm
  have HP := hideP hP
  clear hP
  by_cases hij : i = j
  · subst hij
    clear b0 b1 b2 b3 b4 b5
    have HS := hideP (HP.out.swapped hi hi)
    generalize atK psK L i = a at *
    go_enter Tryz.func431, Tryz.ntmps431
    go_wp2_with fail
    go_region
    all_goals go_wp2_with fail
    all_goals rw [swap_world]
    all_goals exact end_void Tryz.results431 rfl ⟨rfl, HS.out.1.drew, grown_drew HS.out.2⟩
  · have HS := hideP (HP.out.swapped hi hj)
    generalize atK psK L i = a at *
    generalize atK psK L j = b at *
    go_enter Tryz.func431, Tryz.ntmps431
    go_wp2_with fail
    go_region
    all_goals go_wp2_with fail
    all_goals rw [swap_world]
    all_goals exact end_void Tryz.results431 rfl ⟨rfl, HS.out.1.drew, grown_drew HS.out.2⟩
end Go.Proofs.YtilpencbbdpgfaaGreatDoor.ctr
