/- Regions that draw their order, walked in pieces: a first piece whose operations are quiet in a class of worlds and behind which alone the others come up ('any_prefix'); and three moves beside a call whose answer hangs on the world ('any_call'). -/
import Derived.Test.YtoofnjccpoeomaaGreatDoorLaterKit
namespace Go.Proofs.YtoofnjccpoeomaaGreatDoor.ctr
open Go.RowKit

section
variable {P : Program} {ops : Array Oper} {md : Region.Mode} {C : World → Prop}

theorem wpQuiet_mono {Q1 Q2 : Act → Prop} (hQ : ∀ a, Q1 a → Q2 a) : ∀ (l : List Oper) (a : Act), wpQuiet P ops C Q1 l a → wpQuiet P ops C Q2 l a
  | [], a, h => hQ a h
  | o :: l, a, h => by
    unfold wpQuiet at h ⊢
    split
    · rename_i hw
      rw [if_pos hw] at h
      exact Oper.quiet_mono (fun a' => wpQuiet_mono hQ l a') h
    · rename_i hw
      rw [if_neg hw] at h
      exact wpQuiet_mono hQ l _ h

/-- Whatever order is picked for the next m operations, all below N and all quiet; then R. -/
def wpMix (P : Program) (md : Region.Mode) (ops : Array Oper) (C : World → Prop) (N : Nat) (R : Array Bool → Act → Prop) : Nat → Array Bool → Act → Prop
  | 0, listed, a => R listed a
  | m + 1, listed, a => Region.ready md ops listed ≠ [] ∧ ∀ i ∈ Region.ready md ops listed, i < N ∧ qOp P ops C i (wpMix P md ops C N R m (listed.setIfInBounds i true)) a
/-- Each of the next n operations, in the order of the text, is ready when it comes, and apart from those that do not wait for it. -/
def lexP (md : Region.Mode) (ops : Array Oper) : Nat → Nat → Array Bool → Bool
  | 0, _, _ => true
  | n + 1, k, listed => (Region.ready md ops listed).contains k && Region.free md ops listed k && lexP md ops n (k + 1) (listed.setIfInBounds k true)
def setN : Nat → Nat → Array Bool → Array Bool
  | 0, _, l => l
  | n + 1, k, l => setN n (k + 1) (l.setIfInBounds k true)
/-- Each operation below N - 1 is waited for by a later one below N. -/
def linkB (md : Region.Mode) (ops : Array Oper) (N : Nat) : Bool := (List.range (N - 1)).all fun i => (List.range N).any fun k => decide (i < k) && ((ops[k]?).map fun o => o.after.any fun e => Region.binds md e && e.on == i).getD false
/-- Each operation from N on waits for number N - 1, or for one from N on. -/
def waitB (md : Region.Mode) (ops : Array Oper) (N : Nat) : Bool := (List.range ops.size).all fun j => decide (j < N) || ((ops[j]?).map fun o => o.after.any fun e => Region.binds md e && (e.on == N - 1 || (decide (N ≤ e.on) && decide (e.on < ops.size)))).getD false
def Closed (md : Region.Mode) (ops : Array Oper) (listed : Array Bool) : Prop := ∀ j o, ops[j]? = some o → listed.getD j false = true → ∀ e ∈ o.after, Region.binds md e = true → listed.getD e.on false = true
def Above (ops : Array Oper) (N : Nat) (listed : Array Bool) : Prop := ∀ j, N ≤ j → j < ops.size → listed.getD j true = false
theorem yes_no {listed : Array Bool} {i : Nat} (h : listed.getD i false = true) (h' : listed.getD i true = false) : False := by
  rcases Nat.lt_or_ge i listed.size with k | k
  · simp [k] at h h'
    rw [h] at h'
    cases h'
  · simp [Array.getElem?_eq_none k] at h
theorem closed_set {listed : Array Bool} (h : Closed md ops listed) {j : Nat} (hj : j ∈ Region.ready md ops listed) : Closed md ops (listed.setIfInBounds j true) := fun k o ho hk e he hb => by
  by_cases hkj : j = k
  · subst hkj
    obtain ⟨_, o', ho', hall⟩ := mem_ready.1 hj
    obtain rfl := Option.some.inj (ho.symm.trans ho')
    exact getD_set_true (hall e he hb)
  · rw [getD_set_ne false hkj] at hk
    exact getD_set_true (h k o ho hk e he hb)
theorem above_set {listed : Array Bool} {N : Nat} (h : Above ops N listed) {j : Nat} (hj : j < N) : Above ops N (listed.setIfInBounds j true) := fun k hk hs => by
  rw [getD_set_ne true (by omega)]
  exact h k hk hs
theorem all_below {listed : Array Bool} {N : Nat} (hc : Closed md ops listed) (hl : linkB md ops N = true) (hN : listed.getD (N - 1) false = true) : ∀ (d i : Nat), i + d = N - 1 → i < N → listed.getD i false = true := by
  intro d
  induction d using Nat.strongRecOn with
  | ind d ih =>
    intro i hid hi
    by_cases hd : d = 0
    · rw [show i = N - 1 by omega]
      exact hN
    · have h1 := List.all_eq_true.1 hl i (List.mem_range.2 (by omega))
      obtain ⟨k, hk, h2⟩ := List.any_eq_true.1 h1
      have hkN := List.mem_range.1 hk
      simp only [Bool.and_eq_true, decide_eq_true_eq] at h2
      obtain ⟨hik, h3⟩ := h2
      cases ho : ops[k]? with
      | none => simp [ho] at h3
      | some o =>
        simp only [ho, Option.map_some, Option.getD_some] at h3
        obtain ⟨x, hx, hxe⟩ := Array.any_eq_true'.1 h3
        simp only [Bool.and_eq_true, beq_iff_eq] at hxe
        have hkl := ih (N - 1 - k) (by omega) k (by omega) hkN
        have := hc k o ho hkl x hx hxe.1
        rw [hxe.2] at this
        exact this
theorem wait_for {listed : Array Bool} {N : Nat} (hc : Closed md ops listed) (ha : Above ops N listed) (hl : linkB md ops N = true) (hw : waitB md ops N = true) {i j : Nat} (hi : i < N) (hun : listed.getD i true = false) (hj : j ∈ Region.ready md ops listed) : j < N := by
  rcases Nat.lt_or_ge j N with h | h
  · exact h
  · exfalso
    obtain ⟨_, o, ho, hall⟩ := mem_ready.1 hj
    have hsz : j < ops.size := (Array.getElem?_eq_some_iff.1 ho).1
    have h1 := List.all_eq_true.1 hw j (List.mem_range.2 hsz)
    simp only [ho, Option.map_some, Option.getD_some, Bool.or_eq_true, decide_eq_true_eq] at h1
    rcases h1 with h1 | h1
    · omega
    · obtain ⟨x, hx, hxe⟩ := Array.any_eq_true'.1 h1
      simp only [Bool.and_eq_true, Bool.or_eq_true, beq_iff_eq, decide_eq_true_eq] at hxe
      have hlx := hall x hx hxe.1
      rcases hxe.2 with e | ⟨e1, e2⟩
      · rw [e] at hlx
        exact yes_no (all_below hc hl hlx (N - 1 - i) i (by omega) hi) hun
      · exact yes_no hlx (ha x.on e1 e2)
theorem wpAny_of_mix {N : Nat} {R : Array Bool → Act → Prop} {Q' : Exit → Act → World → Prop} {f : Nat} (hR : ∀ listed a w, C w → R listed a → wpAny P md ops Q' f listed a w) :
    ∀ (m : Nat) (listed : Array Bool) (a : Act) (w : World), C w → wpMix P md ops C N R m listed a → wpAny P md ops Q' (f + m) listed a w
  | 0, _, _, _, hw, h => hR _ _ _ hw h
  | m + 1, _, _, _, hw, h => ⟨fun h0 => absurd h0 h.1, fun i hi => wpOp_of_qOp hw (fun a' w' hw' k => wpAny_of_mix hR m _ a' w' hw' k) (h.2 i hi).2⟩
theorem mix_first {N : Nat} {R : Array Bool → Act → Prop} (hRl : ∀ listed a, R listed a → ∀ j, j < N → listed.getD j false = true) (hl : linkB md ops N = true) (hwt : waitB md ops N = true) {i : Nat} {oi : Oper} {v : Value} (hi : ops[i]? = some oi) (hN : i < N) (hsel : ∀ (j : Nat) (o : Oper) cs b, ops[j]? = some o → o.op ≠ .select cs b) :
    ∀ (m : Nat) (listed : Array Bool) (a : Act), Closed md ops listed → Above ops N listed →
      (∀ j oj, ops[j]? = some oj → j ≠ i → listed.getD j true = false → (∀ e ∈ oj.after, Region.binds md e = true → e.on ≠ i) → oi.apart ops oj = true) →
      i ∈ Region.ready md ops listed → YieldsIn P ops C oi v a →
      wpMix P md ops C N R m (listed.setIfInBounds i true) (a.put oi.dst v) → wpMix P md ops C N R (m + 1) listed a := by
  intro m
  induction m with
  | zero =>
    intro listed a hc ha _ hr hy H
    refine ⟨fun h => (by rw [h] at hr; cases hr), fun j hj => ?_⟩
    have hjN := wait_for hc ha hl hwt hN (mem_ready.1 hr).1 hj
    by_cases hji : j = i
    · subst hji
      exact ⟨hjN, hy.qOp hi H⟩
    · have h1 := hRl _ _ H j hjN
      rw [getD_set_ne false (Ne.symm hji)] at h1
      exact absurd (mem_ready.1 hj).1 (fun h => yes_no h1 h)
  | succ m ih =>
    intro listed a hc ha hfree hr hy H
    refine ⟨fun h => (by rw [h] at hr; cases hr), fun j hj => ?_⟩
    by_cases hji : j = i
    · subst hji
      exact ⟨hN, hy.qOp hi H⟩
    · obtain ⟨hjN, h1⟩ := H.2 j (ready_mono hj hji)
      refine ⟨hjN, ?_⟩
      obtain ⟨hjun, oj, hoj, hall⟩ := mem_ready.1 hj
      have hnot : ∀ e ∈ oj.after, Region.binds md e = true → e.on ≠ i := fun e he hb heq => by
        have k1 := hall e he hb
        rw [heq] at k1
        exact yes_no k1 (mem_ready.1 hr).1
      have h2 := qOp_put hoj (hfree j oj hoj hji hjun hnot) (fun cs b => hsel i oi cs b hi) (fun cs b => hsel j oj cs b hoj) hy h1
      have hfree' : ∀ k ok, ops[k]? = some ok → k ≠ i → (listed.setIfInBounds j true).getD k true = false → (∀ e ∈ ok.after, Region.binds md e = true → e.on ≠ i) → oi.apart ops ok = true := fun k ok hk hki hun hno => by
        refine hfree k ok hk hki ?_ hno
        by_cases hjk : j = k
        · subst hjk
          exact hjun
        · rw [getD_set_ne true hjk] at hun
          exact hun
      refine qOp_mono (fun a' h3 => ih (listed.setIfInBounds j true) a' (closed_set hc hj) (above_set ha hjN) hfree' (ready_mono hr (Ne.symm hji)) h3.1 ?_) h2
      rw [Array.setIfInBounds_comm _ _ hji]
      exact h3.2
theorem mix_lex {N : Nat} {R : Array Bool → Act → Prop} (hRl : ∀ listed a, R listed a → ∀ j, j < N → listed.getD j false = true) (hl : linkB md ops N = true) (hwt : waitB md ops N = true) (hs : Region.noSelect ops = true) : ∀ (l : List Oper) (k : Nat) (listed : Array Bool) (a : Act), k + l.length ≤ N → (∀ j, j < l.length → l[j]? = ops[k + j]?) →
    lexP md ops l.length k listed = true → Closed md ops listed → Above ops N listed → wpQuiet P ops C (fun a' => R (setN l.length k listed) a') l a → wpMix P md ops C N R l.length listed a
  | [], _, _, _, _, _, _, _, _, h => h
  | o :: l, k, listed, a, hk, hll, hB, hc, ha, h => by
    have h0 : ops[k]? = some o := by simpa using (hll 0 (by simp)).symm
    simp only [List.length_cons] at hk
    simp only [List.length_cons, lexP, Bool.and_eq_true] at hB
    obtain ⟨⟨hr, hf⟩, hB'⟩ := hB
    have hr' : k ∈ Region.ready md ops listed := by simpa using hr
    have hst : qOp P ops C k (wpQuiet P ops C (fun a' => R (setN (o :: l).length k listed) a') l) a := by unfold qOp; simp only [h0]; exact h
    obtain ⟨v, hy, hK⟩ := yieldsIn_of_qOp h0 hst
    exact mix_first hRl hl hwt h0 (by omega) (Region.noSelect_spec hs) l.length listed a hc ha (Region.free_spec h0 hf) hr' hy
      (mix_lex hRl hl hwt hs l (k + 1) _ _ (by omega) (fun j hj => by have := hll (j + 1) (by simpa using hj); simpa [Nat.add_assoc, Nat.add_comm 1 j] using this) hB' (closed_set hc hr') (above_set ha (by omega)) hK)
end
/-- The first n operations. -/
theorem any_prefix {P : Program} {C : World → Prop} {Q : Exit → Act → World → Prop} {big : List Oper} (n f : Nat) {a : Act} {w : World} (hn : n ≤ big.length) (hs : Region.noSelect big.toArray = true) (hB : lexP .any big.toArray n 0 (Array.replicate big.length false) = true) (hl : linkB .any big.toArray n = true) (hwt : waitB .any big.toArray n = true)
    (hA : ((List.range n).all fun j => (setN n 0 (Array.replicate big.length false)).getD j false) = true) (hw : C w)
    (h : wpQuiet P big.toArray C (fun a' => ∀ w', C w' → wpAny P .any big.toArray Q f (setN n 0 (Array.replicate big.length false)) a' w') (big.take n) a) : wpAny P .any big.toArray Q (f + n) (Array.replicate big.length false) a w := by
  have hlen : (big.take n).length = n := by rw [List.length_take]; omega
  have hAll : ∀ j, j < n → (setN n 0 (Array.replicate big.length false)).getD j false = true := fun j hj => List.all_eq_true.1 hA j (List.mem_range.2 hj)
  have hm := mix_lex (P := P) (md := .any) (ops := big.toArray) (C := C) (N := n) (R := fun listed a => (∀ j, j < n → listed.getD j false = true) ∧ ∀ w', C w' → wpAny P .any big.toArray Q f listed a w') (fun _ _ h => h.1) hl hwt hs (big.take n) 0 (Array.replicate big.length false) a (by omega)
    (fun j hj => by rw [hlen] at hj; simp [hj]) (by rw [hlen]; exact hB)
    (fun j o _ hj => by
      exfalso
      by_cases hjl : j < big.length
      · simp [hjl] at hj
      · simp [Array.getElem?_eq_none (show (Array.replicate big.length false).size ≤ j by simp; omega)] at hj)
    (fun j _ hj => by
      have hj' : j < big.length := by simpa using hj
      simp [hj'])
    (by rw [hlen]; exact wpQuiet_mono (fun a' h => ⟨hAll, h⟩) _ _ h)
  rw [hlen] at hm
  exact wpAny_of_mix (N := n) (R := fun listed a => (∀ j, j < n → listed.getD j false = true) ∧ ∀ w', C w' → wpAny P .any big.toArray Q f listed a w') (fun _ _ w h1 h2 => h2.2 w h1) n _ a w hw hm
/-- What is left, to the end, all quiet. -/
theorem any_rest {P : Program} {C : World → Prop} {Q : Exit → Act → World → Prop} {big : List Oper} (k n : Nat) {listed : Array Bool} {a : Act} {w : World} (hn : k + n = big.length) (hs : Region.noSelect big.toArray = true) (hB : Region.lexFrom .any big.toArray n k listed = true) (hw : C w)
    (h : wpQuiet P big.toArray C (fun a' => ∀ w', C w' → Q .normal a' w') (big.drop k) a) : wpAny P .any big.toArray Q n listed a w := by
  have hlen : (big.drop k).length = n := by rw [List.length_drop]; omega
  have := wpAnyQ_lex (P := P) (md := .any) (ops := big.toArray) (C := C) (Q := fun a' => ∀ w', C w' → Q .normal a' w') hs (big.drop k) k listed a (fun j => by simp) (by rw [hlen]; exact hB) h
  rw [hlen] at this
  exact wpAny_of_quiet (C := C) (fun _ w' hw' h => h w' hw') n listed a w hw this

section
variable {P : Program} {ops : Array Oper} {Q : Exit → Act → World → Prop} {md : Region.Mode}
theorem any_one {f i : Nat} {L : Array Bool} {a : Act} {w : World} (hr : Region.ready md ops L = [i]) (h : wpOp P ops Q i (wpAny P md ops Q f (L.setIfInBounds i true)) a w) : wpAny P md ops Q (f + 1) L a w :=
  ⟨fun h0 => (by rw [hr] at h0; cases h0), fun j hj => by rw [hr] at hj; obtain rfl : j = i := (by simpa using hj); exact h⟩
theorem any_two {f i k : Nat} {L : Array Bool} {a : Act} {w : World} (hr : Region.ready md ops L = [i, k]) (h : wpOp P ops Q i (wpAny P md ops Q f (L.setIfInBounds i true)) a w) (h' : wpOp P ops Q k (wpAny P md ops Q f (L.setIfInBounds k true)) a w) : wpAny P md ops Q (f + 1) L a w :=
  ⟨fun h0 => (by rw [hr] at h0; cases h0), fun j hj => by
    rw [hr] at hj
    have : j = i ∨ j = k := by simpa using hj
    rcases this with rfl | rfl
    · exact h
    · exact h'⟩
theorem any_three {f i k m : Nat} {L : Array Bool} {a : Act} {w : World} (hr : Region.ready md ops L = [i, k, m]) (h : wpOp P ops Q i (wpAny P md ops Q f (L.setIfInBounds i true)) a w) (h' : wpOp P ops Q k (wpAny P md ops Q f (L.setIfInBounds k true)) a w) (h'' : wpOp P ops Q m (wpAny P md ops Q f (L.setIfInBounds m true)) a w) : wpAny P md ops Q (f + 1) L a w :=
  ⟨fun h0 => (by rw [hr] at h0; cases h0), fun j hj => by
    rw [hr] at hj
    have : j = i ∨ j = k ∨ j = m := by simpa using hj
    rcases this with rfl | rfl | rfl
    · exact h
    · exact h'
    · exact h''⟩
theorem put_swap (a : Act) {x y : Tmp} (u v : Value) (h : x ≠ y) : (a.put (some x) u).put (some y) v = (a.put (some y) v).put (some x) u := Act.put_comm a u v (fun d hd => by cases hd; intro e; cases e; exact h rfl)
/-- Three moves i, j, k into x, y, z, and a call m into t that waits for j and k alone. -/
theorem any_call {f i j k m : Nat} {x y z t : Tmp} {vx vy vz : Value} {L : Array Bool} {a : Act} {w : World} {T : Value → World → Prop} (G : Act → Prop)
    (hxy : x ≠ y) (hxz : x ≠ z) (hxt : x ≠ t) (hyz : y ≠ z) (hij : i ≠ j) (hik : i ≠ k) (him : i ≠ m) (hjk : j ≠ k)
    (r0 : Region.ready md ops L = [i, j, k]) (r1 : Region.ready md ops (L.setIfInBounds i true) = [j, k]) (r2 : Region.ready md ops (L.setIfInBounds j true) = [i, k]) (r3 : Region.ready md ops (L.setIfInBounds k true) = [i, j])
    (r4 : Region.ready md ops ((L.setIfInBounds i true).setIfInBounds j true) = [k]) (r5 : Region.ready md ops ((L.setIfInBounds i true).setIfInBounds k true) = [j]) (r6 : Region.ready md ops ((L.setIfInBounds j true).setIfInBounds k true) = [i, m])
    (r7 : Region.ready md ops (((L.setIfInBounds i true).setIfInBounds j true).setIfInBounds k true) = [m]) (r8 : Region.ready md ops (((L.setIfInBounds j true).setIfInBounds k true).setIfInBounds m true) = [i])
    (g : G a) (gx : ∀ a' v, G a' → G (a'.put (some x) v)) (gy : ∀ a' v, G a' → G (a'.put (some y) v)) (gz : ∀ a' v, G a' → G (a'.put (some z) v)) (gt : ∀ a' v, G a' → G (a'.put (some t) v))
    (mi : ∀ a' w' K, G a' → K (a'.put (some x) vx) w' → wpOp P ops Q i K a' w') (mj : ∀ a' w' K, G a' → K (a'.put (some y) vy) w' → wpOp P ops Q j K a' w') (mk : ∀ a' w' K, G a' → K (a'.put (some z) vz) w' → wpOp P ops Q k K a' w')
    (mm : ∀ a' K, G a' → (∀ u w', T u w' → K (((a'.put (some y) vy).put (some z) vz).put (some t) u) w') → wpOp P ops Q m K ((a'.put (some y) vy).put (some z) vz) w)
    (F : ∀ u w', T u w' → wpAny P md ops Q f ((((L.setIfInBounds i true).setIfInBounds j true).setIfInBounds k true).setIfInBounds m true) ((((a.put (some x) vx).put (some y) vy).put (some z) vz).put (some t) u) w') : wpAny P md ops Q (f + 4) L a w := by
  have S7 : ∀ u w', T u w' → wpAny P md ops Q (f + 1) (((L.setIfInBounds j true).setIfInBounds k true).setIfInBounds m true) (((a.put (some y) vy).put (some z) vz).put (some t) u) w' := fun u w' hT => by
    refine any_one r8 (mi _ _ _ (gt _ _ (gz _ _ (gy _ _ g))) ?_)
    have h := F u w' hT
    rw [put_swap a vx vy hxy, put_swap _ vx vz hxz, put_swap _ vx u hxt, Array.setIfInBounds_comm _ _ hij, Array.setIfInBounds_comm _ _ hik, Array.setIfInBounds_comm _ _ him] at h
    exact h
  have S3 : wpAny P md ops Q (f + 1) (((L.setIfInBounds i true).setIfInBounds j true).setIfInBounds k true) (((a.put (some x) vx).put (some y) vy).put (some z) vz) w :=
    any_one r7 (mm _ _ (gx _ _ g) fun u w' hT => F u w' hT)
  have S56 : wpAny P md ops Q (f + 2) ((L.setIfInBounds j true).setIfInBounds k true) ((a.put (some y) vy).put (some z) vz) w := by
    refine any_two r6 (mi _ _ _ (gz _ _ (gy _ _ g)) ?_) (mm _ _ g fun u w' hT => S7 u w' hT)
    have h := S3
    rw [put_swap a vx vy hxy, put_swap _ vx vz hxz, Array.setIfInBounds_comm _ _ hij, Array.setIfInBounds_comm _ _ hik] at h
    exact h
  have S45 : wpAny P md ops Q (f + 2) ((L.setIfInBounds i true).setIfInBounds j true) ((a.put (some x) vx).put (some y) vy) w := any_one r4 (mk _ _ _ (gy _ _ (gx _ _ g)) S3)
  have S46 : wpAny P md ops Q (f + 2) ((L.setIfInBounds i true).setIfInBounds k true) ((a.put (some x) vx).put (some z) vz) w := by
    refine any_one r5 (mj _ _ _ (gz _ _ (gx _ _ g)) ?_)
    have h := S3
    rw [put_swap _ vy vz hyz, Array.setIfInBounds_comm _ _ hjk] at h
    exact h
  have S4 : wpAny P md ops Q (f + 3) (L.setIfInBounds i true) (a.put (some x) vx) w := any_two r1 (mj _ _ _ (gx _ _ g) S45) (mk _ _ _ (gx _ _ g) S46)
  have S5 : wpAny P md ops Q (f + 3) (L.setIfInBounds j true) (a.put (some y) vy) w := by
    refine any_two r2 (mi _ _ _ (gy _ _ g) ?_) (mk _ _ _ (gy _ _ g) S56)
    have h := S45
    rw [put_swap a vx vy hxy, Array.setIfInBounds_comm _ _ hij] at h
    exact h
  have S6 : wpAny P md ops Q (f + 3) (L.setIfInBounds k true) (a.put (some z) vz) w := by
    refine any_two r3 (mi _ _ _ (gz _ _ g) ?_) (mj _ _ _ (gz _ _ g) ?_)
    · have h := S46
      rw [put_swap a vx vz hxz, Array.setIfInBounds_comm _ _ hik] at h
      exact h
    · have h := S56
      rw [put_swap a vy vz hyz, Array.setIfInBounds_comm _ _ hjk] at h
      exact h
  exact any_three r0 (mi _ _ _ g S4) (mj _ _ _ g S5) (mk _ _ _ g S6)

theorem op_move {i : Nat} {o : Oper} {x : Operand} {d : Tmp} {v : Value} {K : Act → World → Prop} {a : Act} {w : World} (hi : ops[i]? = some o) (ho : o.op = .move x) (hd : o.dst = some d) (hw : Region.wanted o (yielded ops a.tmps) = true) (hv : a.eval x = v) (h : K (a.put (some d) v) w) : wpOp P ops Q i K a w := by
  refine wpOp_of_qOp (C := fun w' => w' = w) (K := fun a' => K a' w) rfl (fun a' w' hw' k => by rw [hw']; exact k) ?_
  unfold qOp
  simp only [hi, hw, if_true]
  refine BigFrame.quiet_move x ho ?_
  rw [hd, hv]
  exact h
theorem op_call {i : Nat} {o : Oper} {g : FuncId} {xs : Array Operand} {ats : Array TypeId} {d : Tmp} {args : Array Value} {T : Value → World → Prop} {K : Act → World → Prop} {a : Act} {w : World} (hi : ops[i]? = some o) (ho : o.op = .call { callee := .value (.func g), args := xs, argTypes := ats }) (hd : o.dst = some d) (hw : Region.wanted o (yielded ops a.tmps) = true)
    (ha : xs.map a.eval = args) (he : ∀ args w, (callFunc g args).run P w = .ok (.enter g args) w) (hc : Calls P g args w fun e w' => ∃ u, e = .returned u ∧ T u w') (h : ∀ u w', T u w' → K (a.put (some d) u) w') : wpOp P ops Q i K a w := by
  unfold wpOp
  simp only [hi, hw, if_true]
  left
  unfold Oper.wp
  have hx : execOp a.eval o = callFunc g args := by
    rw [← ha]
    simp [execOp, ho, resolve, invoke, Act.eval, Deferred.ofValue]
  rw [hx, he]
  refine hc.mono ?_
  rintro e w' ⟨u, rfl, hT⟩
  rw [hd]
  exact h u w' hT
end
end Go.Proofs.YtoofnjccpoeomaaGreatDoor.ctr
