/- A region that draws its order, in which calls (each behind the one ahead of it) and makings of blocks (at any time) come ahead of all else: whatever order is picked, the same is known behind them. The program's Lost: the dates lost where a segment begins, in a row of their own. The model's Lost: the dates lost where a segment begins, in a row of their own. -/
import Derived.Test.YtdgolaaheakfoaaGreatDoorJnRaa
import Derived.Test.YtdgolaaheakfoaaGreatDoorJnRbe
import Derived.Deep.RegionHeld
import Derived.Test.YtdgolaaheakfoaaGreatDoorJnRbh
import Derived.Shelf.Abstract
namespace Go.Proofs.YtdgolaaheakfoaaGreatDoor.ctr
open Go.RowKit
theorem op_any {P : Program} {ops : Array Oper} {Q : Exit → Act → World → Prop} {i : Nat} {o : Oper} {d : Tmp} {v : Value} {K : Act → World → Prop} {a : Act} {w w' : World} (hi : ops[i]? = some o) (hd : o.dst = some d) (hw : Region.wanted o (yielded ops a.tmps) = true) (hx : (execOp a.eval o).run P w = .ok (.value v) w') (h : K (a.put (some d) v) w') : wpOp P ops Q i K a w := by
  unfold wpOp
  simp only [hi, hw, if_true]
  left
  unfold Oper.wp
  rw [hx, Oper.upon_value, hd]
  exact h
structure Cal where
  i : Nat
  d : Tmp
  v : Value
structure Mak where
  i : Nat
  d : Tmp
  z : Array Value
  t : TypeId
def mixPick (md : Region.Mode) (ops : Array Oper) (qs cs : List Nat) (L : Array Bool) : Option Nat := qs.find? fun i => cs.contains i && ((Region.ready md ops L).contains i && Region.free md ops L i)
def mixOk (md : Region.Mode) (ops : Array Oper) (nd : Nat → List Nat) (qs : List Nat) (E : Array Bool) : Nat → List Nat → List Nat → Array Bool → Bool
  | 0, cs, ms, L => cs.isEmpty && ms.isEmpty && decide (L = E)
  | n + 1, cs, ms, L =>
    match mixPick md ops qs cs L with
    | some i => (nd i).all (fun k => !cs.contains k) && mixOk md ops nd qs E n (cs.erase i) ms (L.setIfInBounds i true)
    | none => !(Region.ready md ops L).isEmpty && (Region.ready md ops L).all fun j => (cs.contains j && !qs.contains j && (nd j).all (fun i => !cs.contains i) && mixOk md ops nd qs E n (cs.erase j) ms (L.setIfInBounds j true)) || (ms.contains j && mixOk md ops nd qs E n cs (ms.erase j) (L.setIfInBounds j true))
structure Agree (S : List Tmp) (a a' : Act) : Prop where
  defers : a'.defers = a.defers
  size : a'.tmps.size = a.tmps.size
  tmp : ∀ j, j ∉ S → a'.tmps[j]? = a.tmps[j]?
theorem Agree.put {S : List Tmp} {a a' : Act} (h : Agree S a a') {d : Tmp} (hd : d ∈ S) (v : Value) : Agree S a (a'.put (some d) v) :=
  ⟨h.defers, by show (a'.tmps.setIfInBounds d v).size = _; rw [Array.size_setIfInBounds, h.size], fun j hj => by
    show (a'.tmps.setIfInBounds d v)[j]? = _
    rw [Array.getElem?_setIfInBounds_ne (fun e => hj (by rw [← e]; exact hd)), h.tmp j hj]⟩
theorem Agree.eval {S : List Tmp} {a a' : Act} (h : Agree S a a') {j : Tmp} (hj : j ∉ S) : a'.eval (.tmp j) = a.eval (.tmp j) := by
  show a'.tmps.getD j undef = a.tmps.getD j undef
  rw [Array.getD_eq_getD_getElem?, Array.getD_eq_getD_getElem?, h.tmp j hj]
theorem eval_of {a : Act} {j : Tmp} {v : Value} (h : a.tmps[j]? = some v) : a.eval (.tmp j) = v := by
  show a.tmps.getD j undef = v
  rw [Array.getD_eq_getD_getElem?, h]
  rfl
theorem put_at {a : Act} {d : Tmp} (v : Value) (h : d < a.tmps.size) : (a.put (some d) v).tmps[d]? = some v := by
  show (a.tmps.setIfInBounds d v)[d]? = some v
  rw [Array.getElem?_setIfInBounds_self_of_lt h]
theorem put_far {a : Act} {d j : Tmp} (v : Value) (h : d ≠ j) : (a.put (some d) v).tmps[j]? = a.tmps[j]? := by
  show (a.tmps.setIfInBounds d v)[j]? = _
  rw [Array.getElem?_setIfInBounds_ne h]
theorem nodup_inj {α β : Type} {f : α → β} : ∀ {l : List α}, (l.map f).Nodup → ∀ {x y : α}, x ∈ l → y ∈ l → f x = f y → x = y
  | [], _, x, y, hx, _, _ => by simp at hx
  | z :: l, h, x, y, hx, hy, e => by
    rw [List.map_cons, List.nodup_cons] at h
    rcases List.mem_cons.1 hx with e1 | h1
    · rcases List.mem_cons.1 hy with e2 | h2
      · rw [e1, e2]
      · exact (h.1 (List.mem_map.2 ⟨y, h2, by rw [← e, e1]⟩)).elim
    · rcases List.mem_cons.1 hy with e2 | h2
      · exact (h.1 (List.mem_map.2 ⟨x, h1, by rw [e, e2]⟩)).elim
      · exact nodup_inj h.2 h1 h2 e
theorem agree_eq : ∀ (D : List (Tmp × Value)) {S : List Tmp} {a a' : Act}, Agree S a a' → (∀ j, j ∈ S → j ∈ D.map Prod.fst) → (∀ x ∈ D, x.1 < a.tmps.size) → (D.map Prod.fst).Nodup → (∀ x ∈ D, a'.tmps[x.1]? = some x.2) → a' = D.foldl (fun b x => b.put (some x.1) x.2) a := by
  intro D
  induction D with
  | nil =>
    intro S a a' h hS _ _ _
    obtain ⟨t, f⟩ := a
    obtain ⟨t', f'⟩ := a'
    have e1 : f' = f := h.defers
    have e2 : t' = t := Array.ext_getElem? fun j => h.tmp j (fun q => by have := hS j q; simp at this)
    rw [e1, e2]
    rfl
  | cons x D ih =>
    intro S a a' h hS hz hn hv
    rw [List.map_cons, List.nodup_cons] at hn
    refine ih (S := D.map Prod.fst) (a := a.put (some x.1) x.2) ⟨h.defers, ?_, fun j hj => ?_⟩ (fun j q => q) (fun y hy => ?_) hn.2 (fun y hy => hv y (List.mem_cons_of_mem _ hy))
    · show _ = (a.tmps.setIfInBounds x.1 x.2).size
      rw [Array.size_setIfInBounds, h.size]
    · by_cases e : x.1 = j
      · subst e
        rw [hv x (List.mem_cons_self ..), put_at _ (hz x (List.mem_cons_self ..))]
      · rw [put_far _ e]
        refine h.tmp j (fun q => ?_)
        have := hS j q
        rw [List.map_cons, List.mem_cons] at this
        rcases this with rfl | q'
        · exact e rfl
        · exact hj q'
    · show y.1 < (a.tmps.setIfInBounds x.1 x.2).size
      rw [Array.size_setIfInBounds]
      exact hz y (List.mem_cons_of_mem _ hy)
section
variable {P : Program} {ops : Array Oper} {Q : Exit → Act → World → Prop} {md : Region.Mode} {S : World → Prop}
theorem held_mix {B : World} {a : Act} {f : Nat} {E : Array Bool} (nd : Nat → List Nat) (qs : List Nat) (SL : List Tmp) (calls : List Cal) (makes : List Mak)
    (hS : ∀ w, Below B.heap.size B w → S w)
    (hcS : ∀ c ∈ calls, c.d ∈ SL ∧ c.d < a.tmps.size) (hmS : ∀ m ∈ makes, m.d ∈ SL ∧ m.d < a.tmps.size)
    (hcc : ∀ c ∈ calls, ∀ c' ∈ calls, c.i ≠ c'.i → c.d ≠ c'.d) (hci : (calls.map Cal.i).Nodup) (hcm : ∀ c ∈ calls, ∀ m ∈ makes, c.d ≠ m.d) (hmm : ∀ m ∈ makes, ∀ m' ∈ makes, m.i ≠ m'.i → m.d ≠ m'.d) (hmi : (makes.map Mak.i).Nodup)
    (hsel : Region.noSelect ops = true) (hpan : ∀ d v c a w, Q (.panic c) (a.put (some d) v) w → Q (.panic c) a w)
    (hquiet : ∀ c ∈ calls, c.i ∈ qs → ∃ oi, ops[c.i]? = some oi ∧ oi.dst = some c.d ∧ ∀ a' : Act, Agree SL a a' → (∀ c' ∈ calls, c'.i ∈ nd c.i → a'.tmps[c'.d]? = some c'.v) → Region.wanted oi (yielded ops a'.tmps) = true ∧ ∀ w, S w → (execOp a'.eval oi).run P w = .ok (.value c.v) w)
    (hcall : ∀ c ∈ calls, c.i ∉ qs → ∀ (a' : Act) (w' : World) (K : Act → World → Prop), Agree SL a a' → (∀ c' ∈ calls, c'.i ∈ nd c.i → a'.tmps[c'.d]? = some c'.v) → Below B.heap.size B w' → (∀ w'', Below w'.heap.size w' w'' → K (a'.put (some c.d) c.v) w'') → wpOp P ops Q c.i K a' w')
    (hmake : ∀ m ∈ makes, ∀ (a' : Act) (w' : World) (K : Act → World → Prop), K (a'.put (some m.d) (.pointer (some ⟨w'.heap.size, 0, none⟩))) (w'.alloc (.cells m.z m.t)) → wpOp P ops Q m.i K a' w')
    (F : ∀ (a' : Act) (w' : World) (p : Nat → Nat), Agree SL a a' → (∀ c ∈ calls, a'.tmps[c.d]? = some c.v) → (∀ m ∈ makes, a'.tmps[m.d]? = some (.pointer (some ⟨p m.i, 0, none⟩)) ∧ Blk w' (p m.i) m.z m.t ∧ B.heap.size ≤ p m.i) → (∀ m ∈ makes, ∀ m' ∈ makes, m.i ≠ m'.i → p m.i ≠ p m'.i) → Below B.heap.size B w' → wpAnyH P md ops Q S f E a' w') :
    ∀ (n : Nat) (rc rm : List Nat) (L : Array Bool) (a' : Act) (w' : World) (p : Nat → Nat), mixOk md ops nd qs E n rc rm L = true → rc.Nodup → rm.Nodup → (∀ i ∈ rc, ∃ c ∈ calls, c.i = i) → (∀ i ∈ rm, ∃ m ∈ makes, m.i = i) → Agree SL a a' → (∀ c ∈ calls, c.i ∉ rc → a'.tmps[c.d]? = some c.v) → (∀ m ∈ makes, m.i ∉ rm → a'.tmps[m.d]? = some (.pointer (some ⟨p m.i, 0, none⟩)) ∧ Blk w' (p m.i) m.z m.t ∧ B.heap.size ≤ p m.i) → (∀ m ∈ makes, ∀ m' ∈ makes, m.i ∉ rm → m'.i ∉ rm → m.i ≠ m'.i → p m.i ≠ p m'.i) → Below B.heap.size B w' →
      wpAnyH P md ops Q S (f + n) L a' w' := by
  have hci' : ∀ c ∈ calls, ∀ c' ∈ calls, c.i = c'.i → c = c' := fun c h c' h' e => nodup_inj hci h h' e
  have hmi' : ∀ m ∈ makes, ∀ m' ∈ makes, m.i = m'.i → m = m' := fun c h c' h' e => nodup_inj hmi h h' e
  have hnot : ∀ (rs : List Nat) (i j : Nat), i ∉ rs.erase j → i ∉ rs ∨ i = j := fun rs i j h => by
    by_cases e : i = j
    · exact .inr e
    · exact .inl fun q => h ((List.mem_erase_of_ne e).2 q)
  intro n
  induction n with
  | zero =>
    intro rc rm L a' w' p hok _ _ _ _ hA hc hm hne hb
    simp only [mixOk, Bool.and_eq_true, List.isEmpty_iff, decide_eq_true_eq] at hok
    obtain ⟨⟨rfl, rfl⟩, rfl⟩ := hok
    exact F a' w' p hA (fun c q => hc c q (by simp)) (fun m q => hm m q (by simp)) (fun m q m' q' => hne m q m' q' (by simp) (by simp)) hb
  | succ n ih =>
    intro rc rm L a' w' p hok hnc hnd hrc hrm hA hc hm hne hb
    have hneed : ∀ i, (nd i).all (fun k => !rc.contains k) = true → ∀ c' ∈ calls, c'.i ∈ nd i → a'.tmps[c'.d]? = some c'.v := fun i h c' h1 h2 => hc c' h1 fun x => by
      have h3 := List.all_eq_true.1 h _ h2
      rw [List.contains_iff_mem.2 x] at h3
      cases h3
    rw [mixOk] at hok
    cases hp : mixPick md ops qs rc L with
    | some i =>
      rw [hp] at hok
      simp only [Bool.and_eq_true] at hok
      obtain ⟨q3, q2⟩ := hok
      have hmq : i ∈ qs := List.mem_of_find?_eq_some hp
      have hpp := List.find?_some hp
      simp only [Bool.and_eq_true] at hpp
      obtain ⟨q1, hr, hf⟩ := hpp
      obtain ⟨c, hmem, rfl⟩ := hrc i (List.contains_iff_mem.1 q1)
      obtain ⟨oi, ho, hd, hq⟩ := hquiet c hmem hmq
      obtain ⟨hw, hy⟩ := hq a' hA (hneed _ q3)
      refine held_take ho hd hsel hf hr (hpan _ _) hw hy (hS _ hb) ?_
      refine ih (rc.erase c.i) rm _ _ w' p q2 (hnc.erase _) hnd (fun i h => hrc i (List.mem_of_mem_erase h)) hrm (hA.put (hcS c hmem).1 _) (fun c' h1 h2 => ?_) (fun m h1 h2 => ?_) hne hb
      · by_cases e : c'.i = c.i
        · obtain rfl := hci' c' h1 c hmem e
          exact put_at _ (by rw [hA.size]; exact (hcS _ hmem).2)
        · rcases hnot _ _ _ h2 with q | q
          · rw [put_far _ (fun e' => hcc c hmem c' h1 (fun x => e x.symm) e')]
            exact hc c' h1 q
          · exact absurd q e
      · obtain ⟨g1, g2, g3⟩ := hm m h1 h2
        exact ⟨by rw [put_far _ (hcm c hmem m h1)]; exact g1, g2, g3⟩
    | none =>
    rw [hp] at hok
    simp only [Bool.and_eq_true, Bool.not_eq_true', List.isEmpty_eq_false_iff, List.all_eq_true, Bool.or_eq_true] at hok
    obtain ⟨h0, hall⟩ := hok
    refine ⟨fun e => absurd e h0, fun j hj => ?_⟩
    rcases hall j hj with ⟨⟨⟨q1, q4⟩, q3⟩, q2⟩ | ⟨q1, q2⟩
    · have q1 : j ∈ rc := List.contains_iff_mem.1 q1
      obtain ⟨c, hmem, rfl⟩ := hrc j q1
      refine hcall c hmem (fun x => by rw [List.contains_iff_mem.2 x] at q4; cases q4) a' w' _ hA (hneed _ (List.all_eq_true.2 fun i hi => by rw [q3 i hi]; rfl)) hb fun w'' hb2 => ?_
      have hb3 := hb.trans (hb2.mono hb.size)
      refine ⟨hS _ hb3, ?_⟩
      refine ih (rc.erase c.i) rm _ _ w'' p q2 (hnc.erase _) hnd (fun i h => hrc i (List.mem_of_mem_erase h)) hrm (hA.put (hcS c hmem).1 _) (fun c' h1 h2 => ?_) (fun m h1 h2 => ?_) hne hb3
      · by_cases e : c'.i = c.i
        · obtain rfl := hci' c' h1 c hmem e
          exact put_at _ (by rw [hA.size]; exact (hcS _ hmem).2)
        · rcases hnot _ _ _ h2 with q | q
          · rw [put_far _ (fun e' => hcc c hmem c' h1 (fun x => e x.symm) e')]
            exact hc c' h1 q
          · exact absurd q e
      · obtain ⟨g1, g2, g3⟩ := hm m h1 h2
        exact ⟨by rw [put_far _ (hcm c hmem m h1)]; exact g1, g2.below hb2 g2.lt, g3⟩
    · have q1 : j ∈ rm := List.contains_iff_mem.1 q1
      obtain ⟨m, hmem, rfl⟩ := hrm j q1
      refine hmake m hmem a' w' _ ?_
      have hb3 : Below B.heap.size B (w'.alloc (.cells m.z m.t)) := hb.alloc hb.size _
      refine ⟨hS _ hb3, ?_⟩
      have hold : ∀ m' ∈ makes, m'.i ∉ rm → p m'.i ≠ w'.heap.size := fun m' h1 h2 e => by
        have := (hm m' h1 h2).2.1.lt
        omega
      refine ih rc (rm.erase m.i) _ _ _ (fun i => if i = m.i then w'.heap.size else p i) q2 hnc (hnd.erase _) hrc (fun i h => hrm i (List.mem_of_mem_erase h)) (hA.put (hmS m hmem).1 _) (fun c' h' h2 => ?_) (fun m' h1 h2 => ?_) (fun m1 h1 m2 h2 n1 n2 hn => ?_) hb3
      · rw [put_far _ (fun e => hcm c' h' m hmem e.symm)]
        exact hc c' h' h2
      · by_cases e : m'.i = m.i
        · obtain rfl := hmi' m' h1 m hmem e
          simp only [if_true]
          exact ⟨put_at _ (by rw [hA.size]; exact (hmS _ hmem).2), Blk.new _ _ _, hb.size⟩
        · simp only [if_neg e]
          rcases hnot _ _ _ h2 with q | q
          · obtain ⟨g1, g2, g3⟩ := hm m' h1 q
            exact ⟨by rw [put_far _ (fun e' => hmm m hmem m' h1 (fun x => e x.symm) e')]; exact g1, g2.alloc _, g3⟩
          · exact absurd q e
      · show (if m1.i = m.i then w'.heap.size else p m1.i) ≠ (if m2.i = m.i then w'.heap.size else p m2.i)
        by_cases e1 : m1.i = m.i
        · by_cases e2 : m2.i = m.i
          · exact absurd (e1.trans e2.symm) hn
          · rw [if_pos e1, if_neg e2]
            rcases hnot _ _ _ n2 with q | q
            · exact fun x => hold m2 h2 q x.symm
            · exact absurd q e2
        · by_cases e2 : m2.i = m.i
          · rw [if_neg e1, if_pos e2]
            rcases hnot _ _ _ n1 with q | q
            · exact hold m1 h1 q
            · exact absurd q e1
          · rw [if_neg e1, if_neg e2]
            rcases hnot _ _ _ n1 with q | q
            · rcases hnot _ _ _ n2 with q' | q'
              · exact hne m1 h1 m2 h2 q q' hn
              · exact absurd q' e2
            · exact absurd q e1
end
end Go.Proofs.YtdgolaaheakfoaaGreatDoor.ctr
namespace Go.Proofs.YtdgolaaheakfoaaGreatDoor.ctr
open Go.RowKit
def need5 : Nat → List Nat
  | 6 => [5]
  | 7 => [6]
  | 8 => [7]
  | 9 => [7]
  | 12 => [9]
  | _ => []
def put4q (w : World) (b : Nat) (v0 v1 v2 v3 : Value) : World := (((w.setCell ⟨b, 0, none⟩ v0).setCell ⟨b, 1, none⟩ v1).setCell ⟨b, 2, none⟩ v2).setCell ⟨b, 3, none⟩ v3
theorem below_put4q {V w : World} {b : Nat} {v0 v1 v2 v3 : Value} (h : Below V.heap.size V w) (hb : V.heap.size ≤ b) : Below V.heap.size V (put4q w b v0 v1 v2 v3) := below_store (below_store (below_store (below_store h _ hb) _ hb) _ hb) _ hb
theorem blkQ {w : World} {b : Nat} {u0 u1 u2 u3 v0 v1 v2 v3 : Value} {t : TypeId} (h : Blk w b #[u0, u1, u2, u3] t) : Blk (put4q w b v0 v1 v2 v3) b #[v0, v1, v2, v3] t := (((h.set 0 v0).set 1 v1).set 2 v2).set 3 v3
theorem factsQ {w : World} {b : Nat} {u0 u1 u2 u3 : Value} {t : TypeId} (h : Blk w b #[u0, u1, u2, u3] t) : w.cell? ⟨b, 0, none⟩ = some u0 ∧ w.cell? ⟨b, 1, none⟩ = some u1 ∧ w.cell? ⟨b, 2, none⟩ = some u2 ∧ w.cell? ⟨b, 3, none⟩ = some u3 ∧ w.frozen? ⟨b, 0, none⟩ = false ∧ w.frozen? ⟨b, 1, none⟩ = false ∧ w.frozen? ⟨b, 2, none⟩ = false ∧ w.frozen? ⟨b, 3, none⟩ = false :=
  ⟨h.cell 0 rfl, h.cell 1 rfl, h.cell 2 rfl, h.cell 3 rfl, h.thaw 0, h.thaw 1, h.thaw 2, h.thaw 3⟩
set_option maxRecDepth 100000 in
set_option maxHeartbeats 8000000 in
theorem implLost (v : Value) (r : Rgm) (i : Int) (q : Addr) (w : World) (h : GRow w v r) (ht : r.to ≤ 9223372036854775807) (hE : ErrT w) (hT : Tab w) (hS : Sent w q) : Calls Tryz.prog 21 #[v, .int .i64 i] w fun e w' => ∃ o, e = .returned o ∧ QMov w w' o (lostL r i) ∧ Below w.heap.size w w' := by
  have hG := h
  obtain ⟨v1, v2, v3, rfl, _, x1, x2, x3⟩ := h
  obtain ⟨a1, c1, rfl, _, hc1, hcS⟩ := x1
  obtain ⟨a2, c2, rfl, _⟩ := x2
  obtain ⟨a3, c3, rfl, _⟩ := x3
  obtain ⟨W0, hW0, HR, hBl⟩ := box7 w (.string r.name) (.int .i64 r.fr) (.int .i64 r.to) (.slice a1 r.segs.length c1) (.slice a2 r.pats.length c2) (.slice a3 r.rgns.length c3) (.int .i64 r.rule) 40
  obtain ⟨d0, d1, d2, d3, d4, d5, d6⟩ := sevenL HR
  have HW0 := hideP hW0
  have HBl := hideP hBl
  have KO : ∀ y : Later W0, Calls Tryz.prog 58 #[.agg #[.string r.name, .int .i64 r.fr, .int .i64 r.to, .slice a1 r.segs.length c1, .slice a2 r.pats.length c2, .slice a3 r.rgns.length c3, .int .i64 r.rule]] y.w fun e w' => e = .returned (.bool (regimeB r)) ∧ Below y.w.heap.size y.w w' := fun y => implRegimeOk _ r q y.w (hG.below (hBl y)) ht (hE.below (hBl y)) (hT.later (hBl y)) (hS.later (hBl y))
  have KR : Hid (∀ n, regimeB r = true → r.fr ≤ n → n ≤ r.to → ∀ y : Later W0, Calls Tryz.prog 50 #[.agg #[.string r.name, .int .i64 r.fr, .int .i64 r.to, .slice a1 r.segs.length c1, .slice a2 r.pats.length c2, .slice a3 r.rgns.length c3, .int .i64 r.rule], .int .i64 n] y.w fun e w' => e = .returned (rdgV (rdgOn r n)) ∧ Below y.w.heap.size y.w w') := fun n k0 k1 k2 y => implReadingOn _ r n y.w (hG.below (hBl y)) k0 k1 k2 (hT.later (hBl y))
  have KD : Hid (∀ (c : Int) (x : Rdg) (V : World), Below w.heap.size w V → Calls Tryz.prog 59 #[.int .i64 c, rdgV x] V fun e w' => e = .returned (plainR c x) ∧ Below V.heap.size V w') := fun c x V hb => implSolarDate c x V (hT.later hb)
  have KP : Hid (∀ (x : Rdg) (V : World), Below w.heap.size w V → Calls Tryz.prog 60 #[rdgV x] V fun e w' => e = .returned (plainR x.cal x) ∧ Below V.heap.size V w') := fun x V hb => implPlain x V (hT.later hb)
  have KB : Hid (∀ (c y1 m1 d1 c2 y2 m2 d2 : Int) (V : World), Below w.heap.size w V → Calls Tryz.prog 61 #[.agg #[.int .i64 c, .int .i64 y1, .int .i64 m1, .int .i64 d1], .agg #[.int .i64 c2, .int .i64 y2, .int .i64 m2, .int .i64 d2]] V fun e w' => ∃ o, e = .returned o ∧ QMov V w' o (datesL c (dayOf c y1 m1 d1) (lostN (dayOf c y1 m1 d1) (dayOf c2 y2 m2 d2))) ∧ Below V.heap.size V w') := fun c y1 m1 d1 c2 y2 m2 d2 V hb => implDatesBetween c y1 m1 d1 c2 y2 m2 d2 V (hT.later hb)
  have HS : Hid (∀ (V : World), Below W0.heap.size W0 V → ∀ k, k < r.segs.length → ∃ g, a1 = some ⟨g, 0, none⟩ ∧ IAt segK V g k (atK segK r.segs k)) := fun V hb k hk => by
    obtain ⟨g, e, hg, x⟩ := hcS k hk
    exact ⟨g, e, x.below (hBl ⟨V, hb⟩) hg⟩
  clear hW0 hG ht hE hT hS HR hBl hc1 hcS
  by_cases hO : regimeB r = true
  case neg =>
    have hO' : regimeB r = false := by simpa using hO
    rw [lost_no (fun k => hO k.1)]
    rw [hO'] at KO
    clear hO hO' KR KD KP KB HS
    go_enter Tryz.func21, Tryz.ntmps21
    go_wp2_with fail
    rw [← HW0.out]
    refine (KO ⟨W0, Below.refl _ _⟩).mono ?_
    rintro e w1 ⟨rfl, hb⟩
    obtain ⟨y1, rfl⟩ := Later.of hb
    clear hb
    go_wp2
    go_ret
    exact ⟨_, rfl, qmov_nil _ _, HBl.out y1⟩
  have hlen := right_segs hO
  simp only [hO] at KO
  by_cases h1 : i < 1
  case pos =>
    have hd1 : decide (i < 1) = true := decide_eq_true h1
    rw [lost_no (fun k => by omega)]
    clear KR KD KP KB HS hO
    go_enter Tryz.func21, Tryz.ntmps21
    go_wp2_with fail
    rw [← HW0.out]
    refine (KO ⟨W0, Below.refl _ _⟩).mono ?_
    rintro e w1 ⟨rfl, hb⟩
    obtain ⟨y1, rfl⟩ := Later.of hb
    clear hb
    go_wp2
    go_ret
    exact ⟨_, rfl, qmov_nil _ _, HBl.out y1⟩
  have hd1 : decide (i < 1) = false := decide_eq_false h1
  by_cases h2 : (r.segs.length : Int) ≤ i
  case pos =>
    have hd2 : decide ((r.segs.length : Int) ≤ i) = true := decide_eq_true h2
    rw [lost_no (fun k => by omega)]
    clear KR KD KP KB HS hO
    go_enter Tryz.func21, Tryz.ntmps21
    go_wp2_with fail
    rw [← HW0.out]
    refine (KO ⟨W0, Below.refl _ _⟩).mono ?_
    rintro e w1 ⟨rfl, hb⟩
    obtain ⟨y1, rfl⟩ := Later.of hb
    clear hb
    go_wp2
    go_ret
    exact ⟨_, rfl, qmov_nil _ _, HBl.out y1⟩
  have hd2 : decide ((r.segs.length : Int) ≤ i) = false := decide_eq_false h2
  obtain ⟨k, rfl⟩ : ∃ k : Nat, i = (k : Int) := ⟨i.toNat, by omega⟩
  have hk : k < r.segs.length := by omega
  have hk1 : 1 ≤ k := by omega
  have hin := begin_in hO hk1 hk
  obtain ⟨L, hL⟩ : ∃ L, L = lostL r (k : Int) := ⟨_, rfl⟩
  rw [← hL]
  unfold lostL at hL
  rw [Int.toNat_natCast] at hL
  have hq : regimeB r = true ∧ 1 ≤ (k : Int) ∧ (k : Int) < (r.segs.length : Int) := ⟨hO, by omega, by omega⟩
  obtain ⟨gs, ea, _⟩ := HS.out W0 (Below.refl _ _) k hk
  subst ea
  have HF : Hid (∀ V, Below W0.heap.size W0 V → V.cell? ⟨gs, k * 5, none⟩ = some (.int .i64 (atK segK r.segs k).fr)) := fun V hb => by
    obtain ⟨g, e, x⟩ := HS.out V hb k hk
    cases e
    exact x 0 _ rfl
  have K1 := hideP (KR.out (atK segK r.segs k).fr hO (by omega) (by omega))
  have K2 := hideP (KR.out ((atK segK r.segs k).fr - 1) hO (by omega) (by omega))
  have e1 := dayOf_bound 0 0 0 0
  clear KR HS e1
  generalize (atK segK r.segs k).fr = f at *
  generalize rdgOn r f = y at *
  generalize rdgOn r (f - 1) = x at *
  have KA1 := hideP (KD.out y.cal x)
  have KA2 := hideP (KP.out y)
  clear KD KP
  have HL : Hid (¬ dateOk y.cal x.sol x.mon x.day = true → L = []) := fun n => by rw [hL, if_neg (fun k => n k.2.1)]
  have HL2 : Hid (¬ dateOk y.cal y.sol y.mon y.day = true → L = []) := fun n => by rw [hL, if_neg (fun k => n k.2.2)]
  have HL3 : Hid (dateOk y.cal x.sol x.mon x.day = true → dateOk y.cal y.sol y.mon y.day = true → L = datesL y.cal (dayOf y.cal x.sol x.mon x.day) (lostN (dayOf y.cal x.sol x.mon x.day) (dayOf y.cal y.sol y.mon y.day))) := fun n1 n2 => by rw [hL, if_pos ⟨hq, n1, n2⟩]
  clear hL hq hO hlen
  have hp1 : ∃ p q s t, plainR y.cal x = .tuple #[.agg #[.int .i64 p, .int .i64 q, .int .i64 s, .int .i64 t], .bool (decide (dateOk y.cal x.sol x.mon x.day = true))] ∧ (dateOk y.cal x.sol x.mon x.day = true → p = y.cal ∧ q = x.sol ∧ s = x.mon ∧ t = x.day) := by
    by_cases hO : dateOk y.cal x.sol x.mon x.day = true
    · exact ⟨_, _, _, _, by rw [plainR_yes hO, decide_eq_true hO], fun _ => ⟨rfl, rfl, rfl, rfl⟩⟩
    · exact ⟨_, _, _, _, by rw [plainR_no hO, decide_eq_false hO], fun k => absurd k hO⟩
  have hp2 : ∃ p q s t, plainR y.cal y = .tuple #[.agg #[.int .i64 p, .int .i64 q, .int .i64 s, .int .i64 t], .bool (decide (dateOk y.cal y.sol y.mon y.day = true))] ∧ (dateOk y.cal y.sol y.mon y.day = true → p = y.cal ∧ q = y.sol ∧ s = y.mon ∧ t = y.day) := by
    by_cases hO : dateOk y.cal y.sol y.mon y.day = true
    · exact ⟨_, _, _, _, by rw [plainR_yes hO, decide_eq_true hO], fun _ => ⟨rfl, rfl, rfl, rfl⟩⟩
    · exact ⟨_, _, _, _, by rw [plainR_no hO, decide_eq_false hO], fun k => absurd k hO⟩
  obtain ⟨p1, p2, p3, p4, ep, hp⟩ := hp1
  obtain ⟨u1, u2, u3, u4, eu, hu⟩ := hp2
  rw [ep] at KA1
  rw [eu] at KA2
  have HP := hideP hp
  have HU := hideP hu
  have HI := hideP hin
  clear ep eu hp hu
  have f0 := HF.out
  generalize hg1 : decide (dateOk y.cal x.sol x.mon x.day = true) = b1 at *
  generalize hg2 : decide (dateOk y.cal y.sol y.mon y.day = true) = b2 at *
  have G1 := hideP hg1
  have G2 := hideP hg2
  clear hg1 hg2
  go_enter Tryz.func21, Tryz.ntmps21
  go_wp2_with fail
  rw [← HW0.out]
  refine (KO ⟨W0, Below.refl _ _⟩).mono ?_
  rintro e w1 ⟨rfl, hb⟩
  obtain ⟨y1, rfl⟩ := Later.of hb
  clear hb
  have c0 := f0 y1.w y1.below
  go_wp2_with fail
  refine (K1.out y1).mono ?_
  rintro e w2 ⟨rfl, hb⟩
  obtain ⟨y2, rfl⟩ := y1.next hb
  clear hb c0
  go_upto_region 5 with fail
  obtain ⟨V, hV⟩ : ∃ V : Later W0, y2.w.alloc (.cells #[.int .i64 y.cal, .int .i64 y.year, .int .i64 y.sol, .int .i64 y.mon, .int .i64 y.day] 76) = V.w := ⟨⟨_, y2.below.alloc y2.below.size _⟩, rfl⟩
  have bY : ∀ x : Later V.w, Blk x.w y2.w.heap.size #[.int .i64 y.cal, .int .i64 y.year, .int .i64 y.sol, .int .i64 y.mon, .int .i64 y.day] 76 := fun x => by
    have b : Blk V.w y2.w.heap.size #[.int .i64 y.cal, .int .i64 y.year, .int .i64 y.sol, .int .i64 y.mon, .int .i64 y.day] 76 := by rw [← hV]; exact Blk.new _ _ _
    exact b.later x
  obtain ⟨s0, s1, s2, s3, s4⟩ := fiveL bY
  rw [hV]
  generalize y2.w.heap.size = gy at *
  have up : ∀ W, Below V.w.heap.size V.w W → ∃ z : Later W0, z.w = W := fun W b => ⟨⟨W, V.below.trans (b.mono V.below.size)⟩, rfl⟩
  have KE : Hid (∀ w', Below V.w.heap.size V.w w' → w'.cell? ⟨w.heap.size, 0, none⟩ = some (.string r.name) ∧ w'.cell? ⟨w.heap.size, 1, none⟩ = some (.int .i64 r.fr) ∧ w'.cell? ⟨w.heap.size, 2, none⟩ = some (.int .i64 r.to) ∧ w'.cell? ⟨w.heap.size, 3, none⟩ = some (.slice (some ⟨gs, 0, none⟩) r.segs.length c1) ∧ w'.cell? ⟨w.heap.size, 4, none⟩ = some (.slice a2 r.pats.length c2) ∧ w'.cell? ⟨w.heap.size, 5, none⟩ = some (.slice a3 r.rgns.length c3) ∧ w'.cell? ⟨w.heap.size, 6, none⟩ = some (.int .i64 r.rule) ∧ w'.cell? ⟨gy, 0, none⟩ = some (.int .i64 y.cal)) := fun w' q => by
    obtain ⟨z, rfl⟩ := up w' q
    exact ⟨d0 z, d1 z, d2 z, d3 z, d4 z, d5 z, d6 z, s0 ⟨z.w, q⟩⟩
  have KEy : Hid (∀ w', Below V.w.drew.heap.size V.w.drew w' → w'.cell? ⟨w.heap.size, 0, none⟩ = some (.string r.name) ∧ w'.cell? ⟨w.heap.size, 1, none⟩ = some (.int .i64 r.fr) ∧ w'.cell? ⟨w.heap.size, 2, none⟩ = some (.int .i64 r.to) ∧ w'.cell? ⟨w.heap.size, 3, none⟩ = some (.slice (some ⟨gs, 0, none⟩) r.segs.length c1) ∧ w'.cell? ⟨w.heap.size, 4, none⟩ = some (.slice a2 r.pats.length c2) ∧ w'.cell? ⟨w.heap.size, 5, none⟩ = some (.slice a3 r.rgns.length c3) ∧ w'.cell? ⟨w.heap.size, 6, none⟩ = some (.int .i64 r.rule) ∧ w'.cell? ⟨gy, 0, none⟩ = some (.int .i64 y.cal)) := fun w' q => KE.out w' ((Below.refl _ _).drew.trans q)
  have Kx : Hid (∀ W, Below V.w.heap.size V.w W → Calls Tryz.prog 50 #[.agg #[.string r.name, .int .i64 r.fr, .int .i64 r.to, .slice (some ⟨gs, 0, none⟩) r.segs.length c1, .slice a2 r.pats.length c2, .slice a3 r.rgns.length c3, .int .i64 r.rule], .int .i64 (f - 1)] W fun e w' => e = .returned (rdgV x) ∧ Below W.heap.size W w') := fun W b => by
    obtain ⟨z, rfl⟩ := up W b
    exact K2.out z
  have Ka : Hid (∀ W, Below V.w.heap.size V.w W → Calls Tryz.prog 59 #[.int .i64 y.cal, rdgV x] W fun e w' => e = .returned (.tuple #[.agg #[.int .i64 p1, .int .i64 p2, .int .i64 p3, .int .i64 p4], .bool b1]) ∧ Below W.heap.size W w') := fun W b => by
    obtain ⟨z, rfl⟩ := up W b
    exact KA1.out z.w (HBl.out z)
  clear hV bY
  refine wp_region_held_drew (S := (fun V => V.cell? ⟨w.heap.size, 0, none⟩ = some (.string r.name) ∧ V.cell? ⟨w.heap.size, 1, none⟩ = some (.int .i64 r.fr) ∧ V.cell? ⟨w.heap.size, 2, none⟩ = some (.int .i64 r.to) ∧ V.cell? ⟨w.heap.size, 3, none⟩ = some (.slice (some ⟨gs, 0, none⟩) r.segs.length c1) ∧ V.cell? ⟨w.heap.size, 4, none⟩ = some (.slice a2 r.pats.length c2) ∧ V.cell? ⟨w.heap.size, 5, none⟩ = some (.slice a3 r.rgns.length c3) ∧ V.cell? ⟨w.heap.size, 6, none⟩ = some (.int .i64 r.rule) ∧ V.cell? ⟨gy, 0, none⟩ = some (.int .i64 y.cal))) (by kernel_rfl) (KEy.out _ (Below.refl _ _)) (fun hHeld => ?_)
  refine held_take (i := 0) (d := 35) (v := ?_) rfl rfl (by kernel_rfl) (by decide +kernel) (by decide +kernel) (fun _ _ _ h => h) (by rfl) ?_ (by assumption) ?_
  rotate_left
  · intro wq hSw
    obtain ⟨q0, q1, q2, q3, q4, q5, q6, q7⟩ := hSw
    go_simp
    (try rfl)
    (try (rw [if_pos (by omega)]))
  simp only [Act.put, List.setIfInBounds_toArray, List.set_cons_zero, List.set_cons_succ]
  refine held_take (i := 1) (d := 36) (v := ?_) rfl rfl (by kernel_rfl) (by decide +kernel) (by decide +kernel) (fun _ _ _ h => h) (by rfl) ?_ (by assumption) ?_
  rotate_left
  · intro wq hSw
    obtain ⟨q0, q1, q2, q3, q4, q5, q6, q7⟩ := hSw
    go_simp
    (try rfl)
    (try (rw [if_pos (by omega)]))
  simp only [Act.put, List.setIfInBounds_toArray, List.set_cons_zero, List.set_cons_succ]
  refine held_take (i := 2) (d := 37) (v := ?_) rfl rfl (by kernel_rfl) (by decide +kernel) (by decide +kernel) (fun _ _ _ h => h) (by rfl) ?_ (by assumption) ?_
  rotate_left
  · intro wq hSw
    obtain ⟨q0, q1, q2, q3, q4, q5, q6, q7⟩ := hSw
    go_simp
    (try rfl)
    (try (rw [if_pos (by omega)]))
  simp only [Act.put, List.setIfInBounds_toArray, List.set_cons_zero, List.set_cons_succ]
  refine held_take (i := 3) (d := 38) (v := ?_) rfl rfl (by kernel_rfl) (by decide +kernel) (by decide +kernel) (fun _ _ _ h => h) (by rfl) ?_ (by assumption) ?_
  rotate_left
  · intro wq hSw
    obtain ⟨q0, q1, q2, q3, q4, q5, q6, q7⟩ := hSw
    go_simp
    (try rfl)
    (try (rw [if_pos (by omega)]))
  simp only [Act.put, List.setIfInBounds_toArray, List.set_cons_zero, List.set_cons_succ]
  refine held_take (i := 4) (d := 39) (v := ?_) rfl rfl (by kernel_rfl) (by decide +kernel) (by decide +kernel) (fun _ _ _ h => h) (by rfl) ?_ (by assumption) ?_
  rotate_left
  · intro wq hSw
    obtain ⟨q0, q1, q2, q3, q4, q5, q6, q7⟩ := hSw
    go_simp
    (try rfl)
    (try (rw [if_pos (by omega)]))
  simp only [Act.put, List.setIfInBounds_toArray, List.set_cons_zero, List.set_cons_succ]
  rw [wrapEq (f - 1) (by omega)]
  refine held_mix (B := V.w.drew) (f := 2) (E := #[true, true, true, true, true, true, true, true, true, true, true, false, false]) need5 [7, 8, 9] [40, 41, 34, 42, 43, 7] [⟨5, 40, rdgV x⟩, ⟨6, 41, .tuple #[.agg #[.int .i64 p1, .int .i64 p2, .int .i64 p3, .int .i64 p4], .bool b1]⟩, ⟨7, 34, .tuple #[.agg #[.int .i64 p1, .int .i64 p2, .int .i64 p3, .int .i64 p4], .bool b1]⟩, ⟨8, 42, .agg #[.int .i64 p1, .int .i64 p2, .int .i64 p3, .int .i64 p4]⟩, ⟨9, 43, .bool b1⟩] [⟨10, 7, #[.int .i64 0, .int .i64 0, .int .i64 0, .int .i64 0], 92⟩] KEy.out (by simp) (by simp) (by simp) (by simp) (by simp) (by simp) (by simp) (by decide +kernel) (fun _ _ _ _ _ h => h) ?quiet ?call ?make ?fin 6 [5, 6, 7, 8, 9] [10] _ _ _ (fun _ => 0) (by decide +kernel) (by decide) (by decide) (by simp) (by simp) ⟨rfl, rfl, fun _ _ => rfl⟩ (by simp) (by simp) (by simp) (Below.refl _ _)
  case quiet =>
    intro c hmem hq
    simp only [List.mem_cons, List.not_mem_nil, or_false] at hmem
    rcases hmem with rfl | rfl | rfl | rfl | rfl
    · simp at hq
    · simp at hq
    · refine ⟨_, rfl, rfl, fun a' hA hc => ⟨by rfl, fun w _ => ?_⟩⟩
      have g0 := hc ⟨6, 41, .tuple #[.agg #[.int .i64 p1, .int .i64 p2, .int .i64 p3, .int .i64 p4], .bool b1]⟩ (by simp) (by simp [need5])
      dsimp only at g0
      simp [execOp, go_sem, g0]
    · refine ⟨_, rfl, rfl, fun a' hA hc => ⟨by rfl, fun w _ => ?_⟩⟩
      have g0 := hc ⟨7, 34, .tuple #[.agg #[.int .i64 p1, .int .i64 p2, .int .i64 p3, .int .i64 p4], .bool b1]⟩ (by simp) (by simp [need5])
      dsimp only at g0
      simp [execOp, go_sem, g0]
    · refine ⟨_, rfl, rfl, fun a' hA hc => ⟨by rfl, fun w _ => ?_⟩⟩
      have g0 := hc ⟨7, 34, .tuple #[.agg #[.int .i64 p1, .int .i64 p2, .int .i64 p3, .int .i64 p4], .bool b1]⟩ (by simp) (by simp [need5])
      dsimp only at g0
      simp [execOp, go_sem, g0]
  case call =>
    intro c hmem hnq a' w' K hA hc hb hK
    simp only [List.mem_cons, List.not_mem_nil, or_false] at hmem
    rcases hmem with rfl | rfl | rfl | rfl | rfl
    · refine op_call (args := #[.agg #[.string r.name, .int .i64 r.fr, .int .i64 r.to, .slice (some ⟨gs, 0, none⟩) r.segs.length c1, .slice a2 r.pats.length c2, .slice a3 r.rgns.length c3, .int .i64 r.rule], .int .i64 (f - 1)]) (T := fun u w'' => u = rdgV x ∧ Below w'.heap.size w' w'') rfl rfl rfl (by rfl) (by simp only [List.map_toArray, List.map_cons, List.map_nil]; rw [hA.eval (j := 37) (by decide), hA.eval (j := 39) (by decide)]; rfl) (enters_of Tryz.func50 (by kernel_rfl) rfl) ((Kx.out w' ((Below.refl _ _).drew.trans hb)).mono ?_) ?_
      · rintro e V ⟨rfl, h⟩
        exact ⟨_, rfl, rfl, h⟩
      · rintro u w'' ⟨rfl, h⟩
        exact hK _ h
    · have g1 := eval_of (hc ⟨5, 40, rdgV x⟩ (by simp) (by simp [need5]))
      refine op_call (args := #[.int .i64 y.cal, rdgV x]) (T := fun u w'' => u = .tuple #[.agg #[.int .i64 p1, .int .i64 p2, .int .i64 p3, .int .i64 p4], .bool b1] ∧ Below w'.heap.size w' w'') rfl rfl rfl (by rfl) (by simp only [List.map_toArray, List.map_cons, List.map_nil]; rw [hA.eval (j := 36) (by decide), g1]; rfl) (enters_of Tryz.func59 (by kernel_rfl) rfl) ((Ka.out w' ((Below.refl _ _).drew.trans hb)).mono ?_) ?_
      · rintro e V ⟨rfl, h⟩
        exact ⟨_, rfl, rfl, h⟩
      · rintro u w'' ⟨rfl, h⟩
        exact hK _ h
    · exact absurd (by simp) hnq
    · exact absurd (by simp) hnq
    · exact absurd (by simp) hnq
  case make =>
    intro m hm a' w' K hK
    simp only [List.mem_cons, List.not_mem_nil, or_false] at hm
    subst hm
    exact op_any rfl rfl (by rfl) (by simp [execOp, go_sem]; try rfl) hK
  case fin =>
    intro a' w' p hA hc hm hne hb
    obtain rfl := agree_eq [(40, rdgV x), (41, .tuple #[.agg #[.int .i64 p1, .int .i64 p2, .int .i64 p3, .int .i64 p4], .bool b1]), (34, .tuple #[.agg #[.int .i64 p1, .int .i64 p2, .int .i64 p3, .int .i64 p4], .bool b1]), (42, .agg #[.int .i64 p1, .int .i64 p2, .int .i64 p3, .int .i64 p4]), (43, .bool b1), (7, .pointer (some ⟨p 10, 0, none⟩))] hA (by simp) (by simp) (by simp) (by
      have h0 := hc ⟨5, 40, rdgV x⟩ (by simp)
      have h1 := hc ⟨6, 41, .tuple #[.agg #[.int .i64 p1, .int .i64 p2, .int .i64 p3, .int .i64 p4], .bool b1]⟩ (by simp)
      have h2 := hc ⟨7, 34, .tuple #[.agg #[.int .i64 p1, .int .i64 p2, .int .i64 p3, .int .i64 p4], .bool b1]⟩ (by simp)
      have h3 := hc ⟨8, 42, .agg #[.int .i64 p1, .int .i64 p2, .int .i64 p3, .int .i64 p4]⟩ (by simp)
      have h4 := hc ⟨9, 43, .bool b1⟩ (by simp)
      have k0 := (hm ⟨10, 7, #[.int .i64 0, .int .i64 0, .int .i64 0, .int .i64 0], 92⟩ (by simp)).1
      intro x hx
      simp only [List.mem_cons, List.not_mem_nil, or_false] at hx
      rcases hx with rfl | rfl | rfl | rfl | rfl | rfl
      · exact h0
      · exact h1
      · exact h2
      · exact h3
      · exact h4
      · exact k0)
    obtain ⟨_, hP0, hPb0⟩ := hm ⟨10, 7, #[.int .i64 0, .int .i64 0, .int .i64 0, .int .i64 0], 92⟩ (by simp)
    dsimp only at hP0 hPb0
    clear hA hc hm hne
    generalize p 10 = pp0 at *
    simp only [List.foldl_cons, List.foldl_nil, Act.put, List.setIfInBounds_toArray, List.set_cons_zero, List.set_cons_succ]
    obtain ⟨pc0, pc1, pc2, pc3, pt0, pt1, pt2, pt3⟩ := factsQ hP0
    obtain ⟨V1, hV1⟩ : ∃ V1, V1 = put4q w' pp0 (.int .i64 p1) (.int .i64 p2) (.int .i64 p3) (.int .i64 p4) := ⟨_, rfl⟩
    have hBa : Blk V1 pp0 #[.int .i64 p1, .int .i64 p2, .int .i64 p3, .int .i64 p4] 92 := by rw [hV1]; exact blkQ hP0
    have b1' : Below V.w.drew.heap.size V.w.drew V1 := by rw [hV1]; exact below_put4q hb hPb0
    refine held_one (i := 11) (by decide +kernel) (op_skip (w' := V1) rfl rfl (by rfl) (by rw [hV1]; simp [execOp, go_sem, pc0, pc1, pc2, pc3, pt0, pt1, pt2, pt3, put4q]) ?_)
    refine ⟨KEy.out _ b1', ?_⟩
    clear hV1 pc0 pc1 pc2 pc3 pt0 pt1 pt2 pt3 hP0 hPb0 hb
    refine held_one (i := 12) (by decide +kernel) (op_any (v := .bool b1) rfl rfl (by rfl) (by simp [execOp, go_sem]; try rfl) ?_)
    refine ⟨KEy.out _ b1', ?_⟩
    simp only [Act.put, List.setIfInBounds_toArray, List.set_cons_zero, List.set_cons_succ]
    refine wpAnyH_done (by decide +kernel) ?_ _
    have hba : Below V.w.heap.size V.w V1 := (Below.refl _ _).drew.trans b1'
    obtain ⟨z5, e5⟩ : ∃ z5 : Later V.w, V1 = z5.w := ⟨⟨V1, hba⟩, rfl⟩
    subst e5
    generalize pp0 = pa at *
    have HA : Hid (∀ W, Below z5.w.heap.size z5.w W → Blk W pa #[.int .i64 p1, .int .i64 p2, .int .i64 p3, .int .i64 p4] 92) := fun W b => hBa.below b hBa.lt
    have Kp : Hid (∀ z : Later V.w, Calls Tryz.prog 60 #[.agg #[.int .i64 y.cal, .int .i64 y.year, .int .i64 y.sol, .int .i64 y.mon, .int .i64 y.day]] z.w fun e w' => e = .returned (.tuple #[.agg #[.int .i64 u1, .int .i64 u2, .int .i64 u3, .int .i64 u4], .bool b2]) ∧ Below z.w.heap.size z.w w') := fun z => by
      obtain ⟨q, e⟩ := up z.w z.below
      have h := KA2.out q.w (HBl.out q)
      rw [e] at h
      exact h
    have Kb : Hid (∀ z : Later V.w, ∀ (c y1 m1 d1 c2 y2 m2 d2 : Int), Calls Tryz.prog 61 #[.agg #[.int .i64 c, .int .i64 y1, .int .i64 m1, .int .i64 d1], .agg #[.int .i64 c2, .int .i64 y2, .int .i64 m2, .int .i64 d2]] z.w fun e w' => ∃ o, e = .returned o ∧ QMov z.w w' o (datesL c (dayOf c y1 m1 d1) (lostN (dayOf c y1 m1 d1) (dayOf c2 y2 m2 d2))) ∧ Below z.w.heap.size z.w w') := fun z c y1 m1 d1 c2 y2 m2 d2 => by
      obtain ⟨q, e⟩ := up z.w z.below
      have h := KB.out c y1 m1 d1 c2 y2 m2 d2 q.w (HBl.out q)
      rw [e] at h
      exact h
    have HBV : Hid (∀ z : Later V.w, Below w.heap.size w z.w) := fun z => by
      obtain ⟨q, e⟩ := up z.w z.below
      rw [← e]
      exact HBl.out q
    clear hBa hba b1' KE KEy Kx Ka up KA1 KA2 KB K1 K2 d0 d1 d2 d3 d4 d5 d6 KO f0 hHeld
    have t0 := s0 z5
    have t1 := s1 z5
    have t2 := s2 z5
    have t3 := s3 z5
    have t4 := s4 z5
    go_wp2_with fail
    refine (Kp.out z5).mono ?_
    rintro e w6 ⟨rfl, hb⟩
    obtain ⟨z6, rfl⟩ := z5.next hb
    have HA6 : Hid (∀ W, Below z6.w.heap.size z6.w W → Blk W pa #[.int .i64 p1, .int .i64 p2, .int .i64 p3, .int .i64 p4] 92) := fun W b => HA.out W (hb.trans (b.mono hb.size))
    clear hb t0 t1 t2 t3 t4
    by_cases g1 : b1 = true
    case neg =>
      obtain rfl : b1 = false := by simpa using g1
      go_wp2
      go_ret
      rw [HL.out (of_decide_eq_false G1.out)]
      exact ⟨_, rfl, qmov_nil _ _, (HBV.out z6).alloc (HBV.out z6).size _⟩
    by_cases g2 : b2 = true
    case neg =>
      obtain rfl : b2 = false := by simpa using g2
      subst g1
      go_wp2
      go_ret
      rw [HL2.out (of_decide_eq_false G2.out)]
      exact ⟨_, rfl, qmov_nil _ _, (HBV.out z6).alloc (HBV.out z6).size _⟩
    subst g1
    subst g2
    have HLL := hideP (HL3.out (of_decide_eq_true G1.out) (of_decide_eq_true G2.out))
    obtain ⟨rfl, rfl, rfl, rfl⟩ := HP.out (of_decide_eq_true G1.out)
    obtain ⟨rfl, rfl, rfl, rfl⟩ := HU.out (of_decide_eq_true G2.out)
    go_upto_region 9 with fail
    obtain ⟨z7, hz7⟩ : ∃ z7 : Later V.w, z6.w.alloc (.cells #[.int .i64 y.cal, .int .i64 y.sol, .int .i64 y.mon, .int .i64 y.day] 92) = z7.w := ⟨⟨_, z6.below.alloc z6.below.size _⟩, rfl⟩
    have bB : Blk z7.w z6.w.heap.size #[.int .i64 y.cal, .int .i64 y.sol, .int .i64 y.mon, .int .i64 y.day] 92 := by rw [← hz7]; exact Blk.new _ _ _
    have bA : Blk z7.w pa #[.int .i64 y.cal, .int .i64 x.sol, .int .i64 x.mon, .int .i64 x.day] 92 := HA6.out _ (by rw [← hz7]; exact (Below.refl _ _).alloc (Nat.le_refl _) _)
    rw [hz7]
    generalize z6.w.heap.size = gz at *
    have t0 := bA.cell 0 rfl
    have t1 := bA.cell 1 rfl
    have t2 := bA.cell 2 rfl
    have t3 := bA.cell 3 rfl
    have v0 := bB.cell 0 rfl
    have v1 := bB.cell 1 rfl
    have v2 := bB.cell 2 rfl
    have v3 := bB.cell 3 rfl
    clear hz7 bA bB
    go_wp2_with fail
    refine (Kb.out z7 _ _ _ _ _ _ _ _).mono ?_
    rintro e w8 ⟨o, rfl, hm, hb⟩
    have HM := hideP (hm.mono (HBV.out z7).size)
    have HB8 : Hid (Below w.heap.size w w8) := (HBV.out z7).trans (hb.mono (HBV.out z7).size)
    clear hm hb
    go_wp2
    go_ret
    rw [HLL.out]
    exact ⟨_, rfl, HM.out, HB8.out⟩
end Go.Proofs.YtdgolaaheakfoaaGreatDoor.ctr
namespace Go.Proofs.YtdgolaaheakfoaaGreatDoor.ctr
open Go.RowKit
set_option linter.unusedSimpArgs false
def needa : Nat → List Nat
  | 9 => [8]
  | 10 => [9]
  | 11 => [9]
  | _ => []
def needb : Nat → List Nat
  | 8 => [7]
  | 9 => [8]
  | 10 => [8]
  | _ => []
def put5q (w : World) (b : Nat) (v0 v1 v2 v3 v4 : Value) : World := ((((w.setCell ⟨b, 0, none⟩ v0).setCell ⟨b, 1, none⟩ v1).setCell ⟨b, 2, none⟩ v2).setCell ⟨b, 3, none⟩ v3).setCell ⟨b, 4, none⟩ v4
theorem below_put5q {V w : World} {b : Nat} {v0 v1 v2 v3 v4 : Value} (h : Below V.heap.size V w) (hb : V.heap.size ≤ b) : Below V.heap.size V (put5q w b v0 v1 v2 v3 v4) := below_store (below_store (below_store (below_store (below_store h _ hb) _ hb) _ hb) _ hb) _ hb
theorem blkZL {w : World} {b : Nat} {u0 u1 u2 u3 u4 v0 v1 v2 v3 v4 : Value} {t : TypeId} (h : Blk w b #[u0, u1, u2, u3, u4] t) : Blk (put5q w b v0 v1 v2 v3 v4) b #[v0, v1, v2, v3, v4] t := ((((h.set 0 v0).set 1 v1).set 2 v2).set 3 v3).set 4 v4
theorem factsZL {w : World} {b : Nat} {u0 u1 u2 u3 u4 : Value} {t : TypeId} (h : Blk w b #[u0, u1, u2, u3, u4] t) : w.cell? ⟨b, 0, none⟩ = some u0 ∧ w.cell? ⟨b, 1, none⟩ = some u1 ∧ w.cell? ⟨b, 2, none⟩ = some u2 ∧ w.cell? ⟨b, 3, none⟩ = some u3 ∧ w.cell? ⟨b, 4, none⟩ = some u4 ∧ w.frozen? ⟨b, 0, none⟩ = false ∧ w.frozen? ⟨b, 1, none⟩ = false ∧ w.frozen? ⟨b, 2, none⟩ = false ∧ w.frozen? ⟨b, 3, none⟩ = false ∧ w.frozen? ⟨b, 4, none⟩ = false :=
  ⟨h.cell 0 rfl, h.cell 1 rfl, h.cell 2 rfl, h.cell 3 rfl, h.cell 4 rfl, h.thaw 0, h.thaw 1, h.thaw 2, h.thaw 3, h.thaw 4⟩
section
variable {P : Program} {ops : Array Oper} {Q : Exit → Act → World → Prop}
theorem wpList_append_home {rest : List Oper} {o : Oper} {a : Act} {w : World} (hgd : o.guard = none) (s x : Operand) (t : TypeId) (ho : o.op = .call { callee := .builtin .append, args := #[s, x], argTypes := #[t, t] })
    (base : Nat) (e : TypeId) (i : TypeInfo) (z : Value) (size bytes : Nat) (ht : P.underlying t = some (.slice e)) (hi : P.info? e = some i) (hz : i.zero = some z) (hsize : i.size = size) (hby : i.bytes = bytes) (hzs : z.cells.size = size) (hsz : 0 < size)
    (g cap n : Nat) (xs : List Value) (hs : a.eval s = .slice (some ⟨g, 0, none⟩) n cap) (hown : w.ownsRow base e size (.slice (some ⟨g, 0, none⟩) n cap) n xs)
    (ad : Addr) (m c : Nat) (news : List Value) (hx : a.eval x = .slice (some ad) m c) (hl : news.length = m * size) (hnews : ∀ j u, news[j]? = some u → w.cell? (ad.add j) = some u) (h1 : ∀ u ∈ news, u.oneCell' = true)
    (h63 : n + m ≤ maxLen) (hbytes : (n + m) * bytes ≤ 140737488355328) (hbase : base ≤ w.heap.size)
    (h : ∀ g' cap' w', w'.ownsRow base e size (.slice (some ⟨g', 0, none⟩) (n + m) cap') (n + m) (xs ++ news) → w.grownBy w' (some g) → (g' = g ∨ w.heap.size ≤ g') → wpList P ops Q rest (a.put o.dst (.slice (some ⟨g', 0, none⟩) (n + m) cap')) w') : wpList P ops Q (o :: rest) a w := by
  refine wpList_plain hgd fun _ hK => ?_
  obtain ⟨v', w', hr, h2, h3, _⟩ := run_append_own (P := P) w base t o.type e i z size bytes ht hi hz hsize hby hzs hsz _ n xs hown ad m c news hl hnews h1 h63 hbytes hbase
  subst hsize
  subst hby
  have home : ∃ g' cap', v' = .slice (some ⟨g', 0, none⟩) (n + m) cap' ∧ (g' = g ∨ w.heap.size ≤ g') := by
    by_cases hroom : n + m ≤ cap
    · rcases hown.2 with ⟨q, _⟩ | ⟨g1, cap1, cur, q, _, hg, _, _, hcs, _⟩
      · cases q
      · cases q
        have k := run_append_room (P := P) w t o.type e i ht hi g n cap cur hg ad m c news hl hnews h1 hroom (by rw [hl, hcs, ← Nat.add_mul]; exact Nat.mul_le_mul_right _ hroom)
        rw [k] at hr
        cases hr
        exact ⟨g, cap, rfl, .inl rfl⟩
    · have k := run_append_grow (P := P) w t o.type e i z ht hi hz ⟨g, 0, none⟩ n cap xs hown.1 (hown.cells (g := g) rfl) ad m c news hl hnews (by omega) (by unfold maxLen at h63; omega) (growslice_fits (by unfold maxLen at h63; omega) hbytes)
      rw [k] at hr
      cases hr
      exact ⟨w.heap.size, _, rfl, .inr (Nat.le_refl _)⟩
  obtain ⟨g', cap', rfl, hh⟩ := home
  unfold Oper.wp execOp
  simp only [ho, resolve, invoke, builtin, Sem.run_bind, Sem.run_pure, Result.andThen_ok, List.map_toArray, List.map_cons, List.map_nil, hs, hx, hr]
  exact hK _ _ (h g' cap' w' h2 h3 hh)
end
set_option maxRecDepth 100000 in
set_option maxHeartbeats 8000000 in
theorem specLost (v : Value) (r : Rgm) (i : Int) (w : World) (h : GRow w v r) (hf : -9223372036854775808 ≤ r.fr) (ht : r.to ≤ 9223372036854775807) : Calls Tryz.prog 20 #[v, .int .i64 i] w fun e w' => ∃ o, e = .returned o ∧ QMov w w' o (lostL r i) ∧ Below w.heap.size w w' := by
  obtain ⟨i0, hi, hz0, hz1, hz2⟩ := info_parts info_date
  have hG := h
  obtain ⟨v1, v2, v3, rfl, _, x1, x2, x3⟩ := h
  obtain ⟨a1, c1, rfl, _, hc1, hcS⟩ := x1
  obtain ⟨a2, c2, rfl, _⟩ := x2
  obtain ⟨a3, c3, rfl, _⟩ := x3
  obtain ⟨W0, hW0, HR, hBl⟩ := box7 w (.string r.name) (.int .i64 r.fr) (.int .i64 r.to) (.slice a1 r.segs.length c1) (.slice a2 r.pats.length c2) (.slice a3 r.rgns.length c3) (.int .i64 r.rule) 40
  obtain ⟨d0, d1, d2, d3, d4, d5, d6⟩ := sevenL HR
  have HW0 := hideP hW0
  have HB0 : Hid (Below w.heap.size w W0) := hBl ⟨W0, Below.refl _ _⟩
  have HSz : Hid (w.heap.size + 1 = W0.heap.size) := by unfold Hid; rw [hW0, World.size_alloc]
  have KO : ∀ y : Later W0, Calls Tryz.prog 34 #[.agg #[.string r.name, .int .i64 r.fr, .int .i64 r.to, .slice a1 r.segs.length c1, .slice a2 r.pats.length c2, .slice a3 r.rgns.length c3, .int .i64 r.rule]] y.w fun e w' => e = .returned (.bool (regimeB r)) ∧ Below y.w.heap.size y.w w' := fun y => specRegimeOk _ r y.w (hG.below (hBl y)) hf ht
  have KR : Hid (∀ n, regimeB r = true → r.fr ≤ n → n ≤ r.to → ∀ y : Later W0, Calls Tryz.prog 48 #[.agg #[.string r.name, .int .i64 r.fr, .int .i64 r.to, .slice a1 r.segs.length c1, .slice a2 r.pats.length c2, .slice a3 r.rgns.length c3, .int .i64 r.rule], .int .i64 n] y.w fun e w' => e = .returned (.tuple #[rdgV (rdgOn r n), .bool true]) ∧ Below y.w.heap.size y.w w') := fun n k0 k1 k2 y => specRead _ r n y.w (hG.below (hBl y)) k0 k1 k2
  have HS : Hid (∀ (V : World), Below W0.heap.size W0 V → ∀ k, k < r.segs.length → ∃ g, a1 = some ⟨g, 0, none⟩ ∧ IAt segK V g k (atK segK r.segs k)) := fun V hb k hk => by
    obtain ⟨g, e, hg, x⟩ := hcS k hk
    exact ⟨g, e, x.below (hBl ⟨V, hb⟩) hg⟩
  have S0 : Hid (QSt 92 W0 (.slice (some ⟨W0.heap.size, 0, none⟩) 0 0) [] (W0.alloc (.cells #[] 92))) := QSt.empty _ _
  obtain ⟨xE, hxE⟩ : ∃ xE : Later W0, W0.alloc (.cells #[] 92) = xE.w := ⟨⟨_, S0.out.below⟩, rfl⟩
  have hg0 : W0.heap.size < xE.w.heap.size := by rw [← hxE, World.size_alloc]; exact Nat.lt_succ_self _
  have HxE := hideP hxE
  rw [hxE] at S0
  clear hxE hW0 hG hf ht HR hBl hc1 hcS
  by_cases hO : regimeB r = true
  case neg =>
    have hO' : regimeB r = false := by simpa using hO
    rw [lost_no (fun k => hO k.1)]
    rw [hO'] at KO
    clear hO hO' KR HS
    go_enter Tryz.func20, Tryz.ntmps20
    go_upto_region 2 with fail
    rw [← HW0.out, HxE.out]
    rw [HSz.out]
    have t0 := d0 xE
    have t1 := d1 xE
    have t2 := d2 xE
    have t3 := d3 xE
    have t4 := d4 xE
    have t5 := d5 xE
    have t6 := d6 xE
    go_wp2_with fail
    refine (KO xE).mono ?_
    rintro e w1 ⟨rfl, hb⟩
    have S1 := hideP (S0.out.later hb)
    clear hb
    go_wp2
    go_ret
    exact ⟨_, rfl, S1.out.done HB0.out⟩
  have hlen := right_segs hO
  simp only [hO] at KO
  by_cases hin : 1 ≤ i ∧ i < (r.segs.length : Int)
  case neg =>
    have hI : inB i 1 ((r.segs.length : Int) - 1) = false := by
      cases hq : inB i 1 ((r.segs.length : Int) - 1)
      · rfl
      · exact absurd (by have := of_inB hq; omega) hin
    have KI : ∀ W, Calls Tryz.prog 54 #[.int .i64 i, .int .i64 1, .int .i64 ((r.segs.length : Int) - 1)] W fun e w' => e = .returned (.bool false) ∧ w' = W := fun W => by
      have k := l01In i 1 ((r.segs.length : Int) - 1) W
      rw [hI] at k
      exact k
    rw [lost_no (fun k => hin k.2)]
    clear hin hI KR HS hO
    go_enter Tryz.func20, Tryz.ntmps20
    go_upto_region 2 with fail
    rw [← HW0.out, HxE.out]
    rw [HSz.out]
    have t0 := d0 xE
    have t1 := d1 xE
    have t2 := d2 xE
    have t3 := d3 xE
    have t4 := d4 xE
    have t5 := d5 xE
    have t6 := d6 xE
    go_wp2_with fail
    refine (KO xE).mono ?_
    rintro e w1 ⟨rfl, hb⟩
    obtain ⟨y1, rfl⟩ := xE.next hb
    have S1 := hideP (S0.out.later hb)
    clear hb t0 t1 t2 t3 t4 t5 t6
    have t3 := d3 y1
    go_wp2_with fail
    refine (KI _).mono ?_
    rintro e w2 ⟨rfl, rfl⟩
    go_wp2
    go_ret
    exact ⟨_, rfl, S1.out.done HB0.out⟩
  obtain ⟨k, rfl⟩ : ∃ k : Nat, i = (k : Int) := ⟨i.toNat, by omega⟩
  have hk : k < r.segs.length := by omega
  have hk1 : 1 ≤ k := by omega
  have hI : inB (k : Int) 1 ((r.segs.length : Int) - 1) = true := by unfold inB; simp; omega
  have KI : ∀ W, Calls Tryz.prog 54 #[.int .i64 (k : Int), .int .i64 1, .int .i64 ((r.segs.length : Int) - 1)] W fun e w' => e = .returned (.bool true) ∧ w' = W := fun W => by
    have k := l01In (k : Int) 1 ((r.segs.length : Int) - 1) W
    rw [hI] at k
    exact k
  have hbn := begin_in hO hk1 hk
  obtain ⟨L, hL⟩ : ∃ L, L = lostL r (k : Int) := ⟨_, rfl⟩
  rw [← hL]
  unfold lostL at hL
  rw [Int.toNat_natCast] at hL
  have hq : regimeB r = true ∧ 1 ≤ (k : Int) ∧ (k : Int) < (r.segs.length : Int) := ⟨hO, hin⟩
  obtain ⟨gs, ea, _⟩ := HS.out W0 (Below.refl _ _) k hk
  subst ea
  have HF : Hid (∀ V, Below W0.heap.size W0 V → V.cell? ⟨gs, k * 5, none⟩ = some (.int .i64 (atK segK r.segs k).fr)) := fun V hb => by
    obtain ⟨g, e, x⟩ := HS.out V hb k hk
    cases e
    exact x 0 _ rfl
  have K1 := hideP (KR.out (atK segK r.segs k).fr hO (by omega) (by omega))
  have K2 := hideP (KR.out ((atK segK r.segs k).fr - 1) hO (by omega) (by omega))
  clear KR HS hI hin
  generalize (atK segK r.segs k).fr = f at *
  generalize rdgOn r f = y at *
  generalize rdgOn r (f - 1) = x at *
  have HL : Hid (¬ dateOk y.cal x.sol x.mon x.day = true → L = []) := fun n => by rw [hL, if_neg (fun k => n k.2.1)]
  have HL2 : Hid (¬ dateOk y.cal y.sol y.mon y.day = true → L = []) := fun n => by rw [hL, if_neg (fun k => n k.2.2)]
  have HL3 : Hid (dateOk y.cal x.sol x.mon x.day = true → dateOk y.cal y.sol y.mon y.day = true → L = datesL y.cal (dayOf y.cal x.sol x.mon x.day) (lostN (dayOf y.cal x.sol x.mon x.day) (dayOf y.cal y.sol y.mon y.day))) := fun n1 n2 => by rw [hL, if_pos ⟨hq, n1, n2⟩]
  clear hL hq hO
  have hp1 : ∃ p q s t, plainR y.cal x = .tuple #[.agg #[.int .i64 p, .int .i64 q, .int .i64 s, .int .i64 t], .bool (decide (dateOk y.cal x.sol x.mon x.day = true))] ∧ (dateOk y.cal x.sol x.mon x.day = true → p = y.cal ∧ q = x.sol ∧ s = x.mon ∧ t = x.day) := by
    by_cases hO : dateOk y.cal x.sol x.mon x.day = true
    · exact ⟨_, _, _, _, by rw [plainR_yes hO, decide_eq_true hO], fun _ => ⟨rfl, rfl, rfl, rfl⟩⟩
    · exact ⟨_, _, _, _, by rw [plainR_no hO, decide_eq_false hO], fun k => absurd k hO⟩
  have hp2 : ∃ p q s t, plainR y.cal y = .tuple #[.agg #[.int .i64 p, .int .i64 q, .int .i64 s, .int .i64 t], .bool (decide (dateOk y.cal y.sol y.mon y.day = true))] ∧ (dateOk y.cal y.sol y.mon y.day = true → p = y.cal ∧ q = y.sol ∧ s = y.mon ∧ t = y.day) := by
    by_cases hO : dateOk y.cal y.sol y.mon y.day = true
    · exact ⟨_, _, _, _, by rw [plainR_yes hO, decide_eq_true hO], fun _ => ⟨rfl, rfl, rfl, rfl⟩⟩
    · exact ⟨_, _, _, _, by rw [plainR_no hO, decide_eq_false hO], fun k => absurd k hO⟩
  obtain ⟨p1, p2, p3, p4, ep, hp⟩ := hp1
  obtain ⟨u1, u2, u3, u4, eu, hu⟩ := hp2
  have KA1 : Hid (∀ W, Calls Tryz.prog 55 #[.agg #[.int .i64 y.cal, .int .i64 x.year, .int .i64 x.sol, .int .i64 x.mon, .int .i64 x.day]] W fun e w' => e = .returned (.tuple #[.agg #[.int .i64 p1, .int .i64 p2, .int .i64 p3, .int .i64 p4], .bool (decide (dateOk y.cal x.sol x.mon x.day = true))]) ∧ Below W.heap.size W w') := fun W => by
    have k := specPlain ⟨y.cal, x.year, x.sol, x.mon, x.day⟩ W
    rw [show plainR (Rdg.mk y.cal x.year x.sol x.mon x.day).cal ⟨y.cal, x.year, x.sol, x.mon, x.day⟩ = plainR y.cal x from rfl, ep] at k
    exact k
  have KA2 : Hid (∀ W, Calls Tryz.prog 55 #[.agg #[.int .i64 y.cal, .int .i64 y.year, .int .i64 y.sol, .int .i64 y.mon, .int .i64 y.day]] W fun e w' => e = .returned (.tuple #[.agg #[.int .i64 u1, .int .i64 u2, .int .i64 u3, .int .i64 u4], .bool (decide (dateOk y.cal y.sol y.mon y.day = true))]) ∧ Below W.heap.size W w') := fun W => by
    have k := specPlain y W
    rw [eu] at k
    exact k
  have KB : Hid (∀ c y m d W, Calls Tryz.prog 56 #[.agg #[.int .i64 c, .int .i64 y, .int .i64 m, .int .i64 d]] W fun e w' => e = .returned (.int .i64 (dayOf c y m d)) ∧ Below W.heap.size W w') := fun c y m d W => specDayOf c y m d W
  have KD : Hid (∀ c n W, Calls Tryz.prog 57 #[.int .i64 c, .int .i64 n] W fun e w' => e = .returned (.tuple #[qdV (dateQ c n), .bool (dateOf c n).2.2.2.2]) ∧ Below W.heap.size W w') := fun c n W => specDateOf c n W
  have HP := hideP hp
  have HU := hideP hu
  clear ep eu hp hu
  generalize hg1 : decide (dateOk y.cal x.sol x.mon x.day = true) = b1 at *
  generalize hg2 : decide (dateOk y.cal y.sol y.mon y.day = true) = b2 at *
  have G1 := hideP hg1
  have G2 := hideP hg2
  clear hg1 hg2
  go_enter Tryz.func20, Tryz.ntmps20
  go_upto_region 2 with fail
  rw [← HW0.out, HxE.out]
  rw [HSz.out]
  have t0 := d0 xE
  have t1 := d1 xE
  have t2 := d2 xE
  have t3 := d3 xE
  have t4 := d4 xE
  have t5 := d5 xE
  have t6 := d6 xE
  go_wp2_with fail
  refine (KO xE).mono ?_
  rintro e w1 ⟨rfl, hb⟩
  obtain ⟨y1, rfl⟩ := xE.next hb
  have S1 := hideP (S0.out.later hb)
  have hg1 : W0.heap.size < y1.w.heap.size := Nat.lt_of_lt_of_le hg0 hb.size
  clear hb t0 t1 t2 t3 t4 t5 t6 hg0
  have t3 := d3 y1
  go_wp2_with fail
  refine (KI _).mono ?_
  rintro e w2 ⟨rfl, rfl⟩
  clear t3 KI KO HW0 HxE
  go_upto_region 4 with fail
  have KEx : Hid (∀ w', Below y1.w.heap.size y1.w w' → w'.cell? ⟨w.heap.size, 0, none⟩ = some (.string r.name) ∧ w'.cell? ⟨w.heap.size, 1, none⟩ = some (.int .i64 r.fr) ∧ w'.cell? ⟨w.heap.size, 2, none⟩ = some (.int .i64 r.to) ∧ w'.cell? ⟨w.heap.size, 3, none⟩ = some (.slice (some ⟨gs, 0, none⟩) r.segs.length c1) ∧ w'.cell? ⟨w.heap.size, 4, none⟩ = some (.slice a2 r.pats.length c2) ∧ w'.cell? ⟨w.heap.size, 5, none⟩ = some (.slice a3 r.rgns.length c3) ∧ w'.cell? ⟨w.heap.size, 6, none⟩ = some (.int .i64 r.rule) ∧ w'.cell? ⟨gs, k * 5, none⟩ = some (.int .i64 f)) := fun w' q => by
    obtain ⟨z, rfl⟩ : ∃ z : Later W0, z.w = w' := ⟨⟨w', y1.below.trans (q.mono y1.below.size)⟩, rfl⟩
    exact ⟨d0 z, d1 z, d2 z, d3 z, d4 z, d5 z, d6 z, HF.out z.w z.below⟩
  have KEy : Hid (∀ w', Below y1.w.drew.heap.size y1.w.drew w' → w'.cell? ⟨w.heap.size, 0, none⟩ = some (.string r.name) ∧ w'.cell? ⟨w.heap.size, 1, none⟩ = some (.int .i64 r.fr) ∧ w'.cell? ⟨w.heap.size, 2, none⟩ = some (.int .i64 r.to) ∧ w'.cell? ⟨w.heap.size, 3, none⟩ = some (.slice (some ⟨gs, 0, none⟩) r.segs.length c1) ∧ w'.cell? ⟨w.heap.size, 4, none⟩ = some (.slice a2 r.pats.length c2) ∧ w'.cell? ⟨w.heap.size, 5, none⟩ = some (.slice a3 r.rgns.length c3) ∧ w'.cell? ⟨w.heap.size, 6, none⟩ = some (.int .i64 r.rule) ∧ w'.cell? ⟨gs, k * 5, none⟩ = some (.int .i64 f)) := fun w' q => KEx.out w' ((Below.refl _ _).drew.trans q)
  have Kx : Hid (∀ W, Below y1.w.heap.size y1.w W → Calls Tryz.prog 48 #[.agg #[.string r.name, .int .i64 r.fr, .int .i64 r.to, .slice (some ⟨gs, 0, none⟩) r.segs.length c1, .slice a2 r.pats.length c2, .slice a3 r.rgns.length c3, .int .i64 r.rule], .int .i64 (f - 1)] W fun e w' => e = .returned (.tuple #[rdgV x, .bool true]) ∧ Below W.heap.size W w') := fun W q => by
    obtain ⟨z, rfl⟩ : ∃ z : Later W0, z.w = W := ⟨⟨W, y1.below.trans (q.mono y1.below.size)⟩, rfl⟩
    exact K2.out z
  refine wp_region_held_drew (S := (fun V => V.cell? ⟨w.heap.size, 0, none⟩ = some (.string r.name) ∧ V.cell? ⟨w.heap.size, 1, none⟩ = some (.int .i64 r.fr) ∧ V.cell? ⟨w.heap.size, 2, none⟩ = some (.int .i64 r.to) ∧ V.cell? ⟨w.heap.size, 3, none⟩ = some (.slice (some ⟨gs, 0, none⟩) r.segs.length c1) ∧ V.cell? ⟨w.heap.size, 4, none⟩ = some (.slice a2 r.pats.length c2) ∧ V.cell? ⟨w.heap.size, 5, none⟩ = some (.slice a3 r.rgns.length c3) ∧ V.cell? ⟨w.heap.size, 6, none⟩ = some (.int .i64 r.rule) ∧ V.cell? ⟨gs, k * 5, none⟩ = some (.int .i64 f))) (by kernel_rfl) (KEy.out _ (Below.refl _ _)) (fun hHeld => ?_)
  refine held_take (i := 0) (d := 32) (v := ?_) rfl rfl (by kernel_rfl) (by decide +kernel) (by decide +kernel) (fun _ _ _ h => h) (by rfl) ?_ (by assumption) ?_
  rotate_left
  · intro wq hSw
    obtain ⟨q0, q1, q2, q3, q4, q5, q6, q7⟩ := hSw
    go_simp
    (try rfl)
    (try (rw [if_pos (by omega)]))
  simp only [Act.put, List.setIfInBounds_toArray, List.set_cons_zero, List.set_cons_succ]
  refine held_take (i := 1) (d := 33) (v := ?_) rfl rfl (by kernel_rfl) (by decide +kernel) (by decide +kernel) (fun _ _ _ h => h) (by rfl) ?_ (by assumption) ?_
  rotate_left
  · intro wq hSw
    obtain ⟨q0, q1, q2, q3, q4, q5, q6, q7⟩ := hSw
    go_simp
    (try rfl)
    (try (rw [if_pos (by omega)]))
  simp only [Act.put, List.setIfInBounds_toArray, List.set_cons_zero, List.set_cons_succ]
  refine held_take (i := 2) (d := 34) (v := ?_) rfl rfl (by kernel_rfl) (by decide +kernel) (by decide +kernel) (fun _ _ _ h => h) (by rfl) ?_ (by assumption) ?_
  rotate_left
  · intro wq hSw
    obtain ⟨q0, q1, q2, q3, q4, q5, q6, q7⟩ := hSw
    go_simp
    (try rfl)
    (try (rw [if_pos (by omega)]))
  simp only [Act.put, List.setIfInBounds_toArray, List.set_cons_zero, List.set_cons_succ]
  refine held_take (i := 3) (d := 35) (v := ?_) rfl rfl (by kernel_rfl) (by decide +kernel) (by decide +kernel) (fun _ _ _ h => h) (by rfl) ?_ (by assumption) ?_
  rotate_left
  · intro wq hSw
    obtain ⟨q0, q1, q2, q3, q4, q5, q6, q7⟩ := hSw
    go_simp
    (try rfl)
    (try (rw [if_pos (by omega)]))
  simp only [Act.put, List.setIfInBounds_toArray, List.set_cons_zero, List.set_cons_succ]
  refine held_take (i := 4) (d := 36) (v := ?_) rfl rfl (by kernel_rfl) (by decide +kernel) (by decide +kernel) (fun _ _ _ h => h) (by rfl) ?_ (by assumption) ?_
  rotate_left
  · intro wq hSw
    obtain ⟨q0, q1, q2, q3, q4, q5, q6, q7⟩ := hSw
    go_simp
    (try rfl)
    (try (rw [if_pos (by omega)]))
  simp only [Act.put, List.setIfInBounds_toArray, List.set_cons_zero, List.set_cons_succ]
  refine held_take (i := 5) (d := 37) (v := ?_) rfl rfl (by kernel_rfl) (by decide +kernel) (by decide +kernel) (fun _ _ _ h => h) (by rfl) ?_ (by assumption) ?_
  rotate_left
  · intro wq hSw
    obtain ⟨q0, q1, q2, q3, q4, q5, q6, q7⟩ := hSw
    go_simp
    (try rfl)
    (try (rw [if_pos (by omega)]))
  simp only [Act.put, List.setIfInBounds_toArray, List.set_cons_zero, List.set_cons_succ]
  refine held_take (i := 6) (d := 38) (v := ?_) rfl rfl (by kernel_rfl) (by decide +kernel) (by decide +kernel) (fun _ _ _ h => h) (by rfl) ?_ (by assumption) ?_
  rotate_left
  · intro wq hSw
    obtain ⟨q0, q1, q2, q3, q4, q5, q6, q7⟩ := hSw
    go_simp
    (try rfl)
    (try (rw [if_pos (by omega)]))
  simp only [Act.put, List.setIfInBounds_toArray, List.set_cons_zero, List.set_cons_succ]
  refine held_take (i := 7) (d := 39) (v := ?_) rfl rfl (by kernel_rfl) (by decide +kernel) (by decide +kernel) (fun _ _ _ h => h) (by rfl) ?_ (by assumption) ?_
  rotate_left
  · intro wq hSw
    obtain ⟨q0, q1, q2, q3, q4, q5, q6, q7⟩ := hSw
    go_simp
    (try rfl)
    (try (rw [if_pos (by omega)]))
  simp only [Act.put, List.setIfInBounds_toArray, List.set_cons_zero, List.set_cons_succ]
  rw [wrapEq (f - 1) (by omega)]
  refine held_mix (B := y1.w.drew) (f := 2) (E := #[true, true, true, true, true, true, true, true, true, true, true, true, true, false, false]) needa [9, 10, 11] [40, 31, 41, 42, 6] [⟨8, 40, .tuple #[rdgV x, .bool true]⟩, ⟨9, 31, .tuple #[rdgV x, .bool true]⟩, ⟨10, 41, rdgV x⟩, ⟨11, 42, .bool true⟩] [⟨12, 6, #[.int .i64 0, .int .i64 0, .int .i64 0, .int .i64 0, .int .i64 0], 76⟩] KEy.out (by simp) (by simp) (by simp) (by simp) (by simp) (by simp) (by simp) (by decide +kernel) (fun _ _ _ _ _ h => h) ?quiet ?call ?make ?fin 5 [8, 9, 10, 11] [12] _ _ _ (fun _ => 0) (by decide +kernel) (by decide) (by decide) (by simp) (by simp) ⟨rfl, rfl, fun _ _ => rfl⟩ (by simp) (by simp) (by simp) (Below.refl _ _)
  case quiet =>
    intro c hmem hq
    simp only [List.mem_cons, List.not_mem_nil, or_false] at hmem
    rcases hmem with rfl | rfl | rfl | rfl
    · simp at hq
    · refine ⟨_, rfl, rfl, fun a' hA hc => ⟨by rfl, fun w _ => ?_⟩⟩
      have g0 := hc ⟨8, 40, .tuple #[rdgV x, .bool true]⟩ (by simp) (by simp [needa])
      dsimp only at g0
      simp [execOp, go_sem, g0]
    · refine ⟨_, rfl, rfl, fun a' hA hc => ⟨by rfl, fun w _ => ?_⟩⟩
      have g0 := hc ⟨9, 31, .tuple #[rdgV x, .bool true]⟩ (by simp) (by simp [needa])
      dsimp only at g0
      simp [execOp, go_sem, g0]
    · refine ⟨_, rfl, rfl, fun a' hA hc => ⟨by rfl, fun w _ => ?_⟩⟩
      have g0 := hc ⟨9, 31, .tuple #[rdgV x, .bool true]⟩ (by simp) (by simp [needa])
      dsimp only at g0
      simp [execOp, go_sem, g0]
  case call =>
    intro c hmem hnq a' w' K hA hc hb hK
    simp only [List.mem_cons, List.not_mem_nil, or_false] at hmem
    rcases hmem with rfl | rfl | rfl | rfl
    · refine op_call (args := #[.agg #[.string r.name, .int .i64 r.fr, .int .i64 r.to, .slice (some ⟨gs, 0, none⟩) r.segs.length c1, .slice a2 r.pats.length c2, .slice a3 r.rgns.length c3, .int .i64 r.rule], .int .i64 (f - 1)]) (T := fun u w'' => u = .tuple #[rdgV x, .bool true] ∧ Below w'.heap.size w' w'') rfl rfl rfl (by rfl) (by simp only [List.map_toArray, List.map_cons, List.map_nil]; rw [hA.eval (j := 32) (by decide), hA.eval (j := 39) (by decide)]; rfl) (enters_of Tryz.func48 (by kernel_rfl) rfl) ((Kx.out w' ((Below.refl _ _).drew.trans hb)).mono ?_) ?_
      · rintro e V ⟨rfl, h⟩
        exact ⟨_, rfl, rfl, h⟩
      · rintro u w'' ⟨rfl, h⟩
        exact hK _ h
    · exact absurd (by simp) hnq
    · exact absurd (by simp) hnq
    · exact absurd (by simp) hnq
  case make =>
    intro m hm a' w' K hK
    simp only [List.mem_cons, List.not_mem_nil, or_false] at hm
    subst hm
    exact op_any rfl rfl (by rfl) (by simp [execOp, go_sem]; try rfl) hK
  case fin =>
    intro a' w' p hA hc hm hne hb
    obtain rfl := agree_eq [(40, .tuple #[rdgV x, .bool true]), (31, .tuple #[rdgV x, .bool true]), (41, rdgV x), (42, .bool true), (6, .pointer (some ⟨p 12, 0, none⟩))] hA (by simp) (by simp) (by simp) (by
      have h0 := hc ⟨8, 40, .tuple #[rdgV x, .bool true]⟩ (by simp)
      have h1 := hc ⟨9, 31, .tuple #[rdgV x, .bool true]⟩ (by simp)
      have h2 := hc ⟨10, 41, rdgV x⟩ (by simp)
      have h3 := hc ⟨11, 42, .bool true⟩ (by simp)
      have k0 := (hm ⟨12, 6, #[.int .i64 0, .int .i64 0, .int .i64 0, .int .i64 0, .int .i64 0], 76⟩ (by simp)).1
      intro x hx
      simp only [List.mem_cons, List.not_mem_nil, or_false] at hx
      rcases hx with rfl | rfl | rfl | rfl | rfl
      · exact h0
      · exact h1
      · exact h2
      · exact h3
      · exact k0)
    obtain ⟨_, hP0, hPb0⟩ := hm ⟨12, 6, #[.int .i64 0, .int .i64 0, .int .i64 0, .int .i64 0, .int .i64 0], 76⟩ (by simp)
    dsimp only at hP0 hPb0
    clear hA hc hm hne
    generalize p 12 = pp0 at *
    simp only [List.foldl_cons, List.foldl_nil, Act.put, List.setIfInBounds_toArray, List.set_cons_zero, List.set_cons_succ]
    obtain ⟨pc0, pc1, pc2, pc3, pc4, pt0, pt1, pt2, pt3, pt4⟩ := factsZL hP0
    obtain ⟨V1, hV1⟩ : ∃ V1, V1 = put5q w' pp0 (.int .i64 x.cal) (.int .i64 x.year) (.int .i64 x.sol) (.int .i64 x.mon) (.int .i64 x.day) := ⟨_, rfl⟩
    have hX : Blk V1 pp0 #[.int .i64 x.cal, .int .i64 x.year, .int .i64 x.sol, .int .i64 x.mon, .int .i64 x.day] 76 := by rw [hV1]; exact blkZL hP0
    have b1' : Below y1.w.drew.heap.size y1.w.drew V1 := by rw [hV1]; exact below_put5q hb hPb0
    refine held_one (i := 13) (by decide +kernel) (op_skip (w' := V1) rfl rfl (by rfl) (by rw [hV1]; simp [execOp, go_sem, pc0, pc1, pc2, pc3, pc4, pt0, pt1, pt2, pt3, pt4, put5q]) ?_)
    refine ⟨KEy.out _ b1', ?_⟩
    clear hV1 pc0 pc1 pc2 pc3 pc4 pt0 pt1 pt2 pt3 pt4 hP0 hb
    refine held_one (i := 14) (by decide +kernel) (op_any (v := .bool true) rfl rfl (by rfl) (by simp [execOp, go_sem]; try rfl) ?_)
    refine ⟨KEy.out _ b1', ?_⟩
    simp only [Act.put, List.setIfInBounds_toArray, List.set_cons_zero, List.set_cons_succ]
    refine wpAnyH_done (by decide +kernel) ?_ _
    have hb : Below y1.w.heap.size y1.w V1 := (Below.refl _ _).drew.trans b1'
    have hpx : y1.w.heap.size ≤ pp0 := hPb0
    clear b1' hPb0 KEy hHeld
    generalize pp0 = px at *
    obtain ⟨y2, rfl⟩ := y1.next hb
    have S2 := hideP (S1.out.later hb)
    have HX := hideP hX
    have hg2 : W0.heap.size < px := Nat.lt_of_lt_of_le hg1 hpx
    clear hX hpx hb KEx Kx hg1 K2
    go_upto_region 5 with fail
    have KEy : Hid (∀ w', Below y2.w.heap.size y2.w w' → w'.cell? ⟨w.heap.size, 0, none⟩ = some (.string r.name) ∧ w'.cell? ⟨w.heap.size, 1, none⟩ = some (.int .i64 r.fr) ∧ w'.cell? ⟨w.heap.size, 2, none⟩ = some (.int .i64 r.to) ∧ w'.cell? ⟨w.heap.size, 3, none⟩ = some (.slice (some ⟨gs, 0, none⟩) r.segs.length c1) ∧ w'.cell? ⟨w.heap.size, 4, none⟩ = some (.slice a2 r.pats.length c2) ∧ w'.cell? ⟨w.heap.size, 5, none⟩ = some (.slice a3 r.rgns.length c3) ∧ w'.cell? ⟨w.heap.size, 6, none⟩ = some (.int .i64 r.rule) ∧ w'.cell? ⟨gs, k * 5, none⟩ = some (.int .i64 f)) := fun w' q => by
      obtain ⟨z, rfl⟩ : ∃ z : Later W0, z.w = w' := ⟨⟨w', y2.below.trans (q.mono y2.below.size)⟩, rfl⟩
      exact ⟨d0 z, d1 z, d2 z, d3 z, d4 z, d5 z, d6 z, HF.out z.w z.below⟩
    have KEy : Hid (∀ w', Below y2.w.drew.heap.size y2.w.drew w' → w'.cell? ⟨w.heap.size, 0, none⟩ = some (.string r.name) ∧ w'.cell? ⟨w.heap.size, 1, none⟩ = some (.int .i64 r.fr) ∧ w'.cell? ⟨w.heap.size, 2, none⟩ = some (.int .i64 r.to) ∧ w'.cell? ⟨w.heap.size, 3, none⟩ = some (.slice (some ⟨gs, 0, none⟩) r.segs.length c1) ∧ w'.cell? ⟨w.heap.size, 4, none⟩ = some (.slice a2 r.pats.length c2) ∧ w'.cell? ⟨w.heap.size, 5, none⟩ = some (.slice a3 r.rgns.length c3) ∧ w'.cell? ⟨w.heap.size, 6, none⟩ = some (.int .i64 r.rule) ∧ w'.cell? ⟨gs, k * 5, none⟩ = some (.int .i64 f)) := fun w' q => KEy.out w' ((Below.refl _ _).drew.trans q)
    have Kx : Hid (∀ W, Below y2.w.heap.size y2.w W → Calls Tryz.prog 48 #[.agg #[.string r.name, .int .i64 r.fr, .int .i64 r.to, .slice (some ⟨gs, 0, none⟩) r.segs.length c1, .slice a2 r.pats.length c2, .slice a3 r.rgns.length c3, .int .i64 r.rule], .int .i64 f] W fun e w' => e = .returned (.tuple #[rdgV y, .bool true]) ∧ Below W.heap.size W w') := fun W q => by
      obtain ⟨z, rfl⟩ : ∃ z : Later W0, z.w = W := ⟨⟨W, y2.below.trans (q.mono y2.below.size)⟩, rfl⟩
      exact K1.out z
    refine wp_region_held_drew (S := (fun V => V.cell? ⟨w.heap.size, 0, none⟩ = some (.string r.name) ∧ V.cell? ⟨w.heap.size, 1, none⟩ = some (.int .i64 r.fr) ∧ V.cell? ⟨w.heap.size, 2, none⟩ = some (.int .i64 r.to) ∧ V.cell? ⟨w.heap.size, 3, none⟩ = some (.slice (some ⟨gs, 0, none⟩) r.segs.length c1) ∧ V.cell? ⟨w.heap.size, 4, none⟩ = some (.slice a2 r.pats.length c2) ∧ V.cell? ⟨w.heap.size, 5, none⟩ = some (.slice a3 r.rgns.length c3) ∧ V.cell? ⟨w.heap.size, 6, none⟩ = some (.int .i64 r.rule) ∧ V.cell? ⟨gs, k * 5, none⟩ = some (.int .i64 f))) (by kernel_rfl) (KEy.out _ (Below.refl _ _)) (fun hHeld => ?_)
    refine held_take (i := 0) (d := 44) (v := ?_) rfl rfl (by kernel_rfl) (by decide +kernel) (by decide +kernel) (fun _ _ _ h => h) (by rfl) ?_ (by assumption) ?_
    rotate_left
    · intro wq hSw
      obtain ⟨q0, q1, q2, q3, q4, q5, q6, q7⟩ := hSw
      go_simp
      (try rfl)
      (try (rw [if_pos (by omega)]))
    simp only [Act.put, List.setIfInBounds_toArray, List.set_cons_zero, List.set_cons_succ]
    refine held_take (i := 1) (d := 45) (v := ?_) rfl rfl (by kernel_rfl) (by decide +kernel) (by decide +kernel) (fun _ _ _ h => h) (by rfl) ?_ (by assumption) ?_
    rotate_left
    · intro wq hSw
      obtain ⟨q0, q1, q2, q3, q4, q5, q6, q7⟩ := hSw
      go_simp
      (try rfl)
      (try (rw [if_pos (by omega)]))
    simp only [Act.put, List.setIfInBounds_toArray, List.set_cons_zero, List.set_cons_succ]
    refine held_take (i := 2) (d := 46) (v := ?_) rfl rfl (by kernel_rfl) (by decide +kernel) (by decide +kernel) (fun _ _ _ h => h) (by rfl) ?_ (by assumption) ?_
    rotate_left
    · intro wq hSw
      obtain ⟨q0, q1, q2, q3, q4, q5, q6, q7⟩ := hSw
      go_simp
      (try rfl)
      (try (rw [if_pos (by omega)]))
    simp only [Act.put, List.setIfInBounds_toArray, List.set_cons_zero, List.set_cons_succ]
    refine held_take (i := 3) (d := 47) (v := ?_) rfl rfl (by kernel_rfl) (by decide +kernel) (by decide +kernel) (fun _ _ _ h => h) (by rfl) ?_ (by assumption) ?_
    rotate_left
    · intro wq hSw
      obtain ⟨q0, q1, q2, q3, q4, q5, q6, q7⟩ := hSw
      go_simp
      (try rfl)
      (try (rw [if_pos (by omega)]))
    simp only [Act.put, List.setIfInBounds_toArray, List.set_cons_zero, List.set_cons_succ]
    refine held_take (i := 4) (d := 48) (v := ?_) rfl rfl (by kernel_rfl) (by decide +kernel) (by decide +kernel) (fun _ _ _ h => h) (by rfl) ?_ (by assumption) ?_
    rotate_left
    · intro wq hSw
      obtain ⟨q0, q1, q2, q3, q4, q5, q6, q7⟩ := hSw
      go_simp
      (try rfl)
      (try (rw [if_pos (by omega)]))
    simp only [Act.put, List.setIfInBounds_toArray, List.set_cons_zero, List.set_cons_succ]
    refine held_take (i := 5) (d := 49) (v := ?_) rfl rfl (by kernel_rfl) (by decide +kernel) (by decide +kernel) (fun _ _ _ h => h) (by rfl) ?_ (by assumption) ?_
    rotate_left
    · intro wq hSw
      obtain ⟨q0, q1, q2, q3, q4, q5, q6, q7⟩ := hSw
      go_simp
      (try rfl)
      (try (rw [if_pos (by omega)]))
    simp only [Act.put, List.setIfInBounds_toArray, List.set_cons_zero, List.set_cons_succ]
    refine held_take (i := 6) (d := 50) (v := ?_) rfl rfl (by kernel_rfl) (by decide +kernel) (by decide +kernel) (fun _ _ _ h => h) (by rfl) ?_ (by assumption) ?_
    rotate_left
    · intro wq hSw
      obtain ⟨q0, q1, q2, q3, q4, q5, q6, q7⟩ := hSw
      go_simp
      (try rfl)
      (try (rw [if_pos (by omega)]))
    simp only [Act.put, List.setIfInBounds_toArray, List.set_cons_zero, List.set_cons_succ]
    refine held_mix (B := y2.w.drew) (f := 2) (E := #[true, true, true, true, true, true, true, true, true, true, true, true, false, false]) needb [8, 9, 10] [51, 43, 52, 53, 8] [⟨7, 51, .tuple #[rdgV y, .bool true]⟩, ⟨8, 43, .tuple #[rdgV y, .bool true]⟩, ⟨9, 52, rdgV y⟩, ⟨10, 53, .bool true⟩] [⟨11, 8, #[.int .i64 0, .int .i64 0, .int .i64 0, .int .i64 0, .int .i64 0], 76⟩] KEy.out (by simp) (by simp) (by simp) (by simp) (by simp) (by simp) (by simp) (by decide +kernel) (fun _ _ _ _ _ h => h) ?quiet ?call ?make ?fin 5 [7, 8, 9, 10] [11] _ _ _ (fun _ => 0) (by decide +kernel) (by decide) (by decide) (by simp) (by simp) ⟨rfl, rfl, fun _ _ => rfl⟩ (by simp) (by simp) (by simp) (Below.refl _ _)
    case quiet =>
      intro c hmem hq
      simp only [List.mem_cons, List.not_mem_nil, or_false] at hmem
      rcases hmem with rfl | rfl | rfl | rfl
      · simp at hq
      · refine ⟨_, rfl, rfl, fun a' hA hc => ⟨by rfl, fun w _ => ?_⟩⟩
        have g0 := hc ⟨7, 51, .tuple #[rdgV y, .bool true]⟩ (by simp) (by simp [needb])
        dsimp only at g0
        simp [execOp, go_sem, g0]
      · refine ⟨_, rfl, rfl, fun a' hA hc => ⟨by rfl, fun w _ => ?_⟩⟩
        have g0 := hc ⟨8, 43, .tuple #[rdgV y, .bool true]⟩ (by simp) (by simp [needb])
        dsimp only at g0
        simp [execOp, go_sem, g0]
      · refine ⟨_, rfl, rfl, fun a' hA hc => ⟨by rfl, fun w _ => ?_⟩⟩
        have g0 := hc ⟨8, 43, .tuple #[rdgV y, .bool true]⟩ (by simp) (by simp [needb])
        dsimp only at g0
        simp [execOp, go_sem, g0]
    case call =>
      intro c hmem hnq a' w' K hA hc hb hK
      simp only [List.mem_cons, List.not_mem_nil, or_false] at hmem
      rcases hmem with rfl | rfl | rfl | rfl
      · refine op_call (args := #[.agg #[.string r.name, .int .i64 r.fr, .int .i64 r.to, .slice (some ⟨gs, 0, none⟩) r.segs.length c1, .slice a2 r.pats.length c2, .slice a3 r.rgns.length c3, .int .i64 r.rule], .int .i64 f]) (T := fun u w'' => u = .tuple #[rdgV y, .bool true] ∧ Below w'.heap.size w' w'') rfl rfl rfl (by rfl) (by simp only [List.map_toArray, List.map_cons, List.map_nil]; rw [hA.eval (j := 44) (by decide), hA.eval (j := 50) (by decide)]; rfl) (enters_of Tryz.func48 (by kernel_rfl) rfl) ((Kx.out w' ((Below.refl _ _).drew.trans hb)).mono ?_) ?_
        · rintro e V ⟨rfl, h⟩
          exact ⟨_, rfl, rfl, h⟩
        · rintro u w'' ⟨rfl, h⟩
          exact hK _ h
      · exact absurd (by simp) hnq
      · exact absurd (by simp) hnq
      · exact absurd (by simp) hnq
    case make =>
      intro m hm a' w' K hK
      simp only [List.mem_cons, List.not_mem_nil, or_false] at hm
      subst hm
      exact op_any rfl rfl (by rfl) (by simp [execOp, go_sem]; try rfl) hK
    case fin =>
      intro a' w' p hA hc hm hne hb
      obtain rfl := agree_eq [(51, .tuple #[rdgV y, .bool true]), (43, .tuple #[rdgV y, .bool true]), (52, rdgV y), (53, .bool true), (8, .pointer (some ⟨p 11, 0, none⟩))] hA (by simp) (by simp) (by simp) (by
        have h0 := hc ⟨7, 51, .tuple #[rdgV y, .bool true]⟩ (by simp)
        have h1 := hc ⟨8, 43, .tuple #[rdgV y, .bool true]⟩ (by simp)
        have h2 := hc ⟨9, 52, rdgV y⟩ (by simp)
        have h3 := hc ⟨10, 53, .bool true⟩ (by simp)
        have k0 := (hm ⟨11, 8, #[.int .i64 0, .int .i64 0, .int .i64 0, .int .i64 0, .int .i64 0], 76⟩ (by simp)).1
        intro x hx
        simp only [List.mem_cons, List.not_mem_nil, or_false] at hx
        rcases hx with rfl | rfl | rfl | rfl | rfl
        · exact h0
        · exact h1
        · exact h2
        · exact h3
        · exact k0)
      obtain ⟨_, hP0, hPb0⟩ := hm ⟨11, 8, #[.int .i64 0, .int .i64 0, .int .i64 0, .int .i64 0, .int .i64 0], 76⟩ (by simp)
      dsimp only at hP0 hPb0
      clear hA hc hm hne
      generalize p 11 = pp0 at *
      simp only [List.foldl_cons, List.foldl_nil, Act.put, List.setIfInBounds_toArray, List.set_cons_zero, List.set_cons_succ]
      obtain ⟨pc0, pc1, pc2, pc3, pc4, pt0, pt1, pt2, pt3, pt4⟩ := factsZL hP0
      obtain ⟨V1, hV1⟩ : ∃ V1, V1 = put5q w' pp0 (.int .i64 y.cal) (.int .i64 y.year) (.int .i64 y.sol) (.int .i64 y.mon) (.int .i64 y.day) := ⟨_, rfl⟩
      have hX : Blk V1 pp0 #[.int .i64 y.cal, .int .i64 y.year, .int .i64 y.sol, .int .i64 y.mon, .int .i64 y.day] 76 := by rw [hV1]; exact blkZL hP0
      have b1' : Below y2.w.drew.heap.size y2.w.drew V1 := by rw [hV1]; exact below_put5q hb hPb0
      refine held_one (i := 12) (by decide +kernel) (op_skip (w' := V1) rfl rfl (by rfl) (by rw [hV1]; simp [execOp, go_sem, pc0, pc1, pc2, pc3, pc4, pt0, pt1, pt2, pt3, pt4, put5q]) ?_)
      refine ⟨KEy.out _ b1', ?_⟩
      clear hV1 pc0 pc1 pc2 pc3 pc4 pt0 pt1 pt2 pt3 pt4 hP0 hb
      refine held_one (i := 13) (by decide +kernel) (op_any (v := .bool true) rfl rfl (by rfl) (by simp [execOp, go_sem]; try rfl) ?_)
      refine ⟨KEy.out _ b1', ?_⟩
      simp only [Act.put, List.setIfInBounds_toArray, List.set_cons_zero, List.set_cons_succ]
      refine wpAnyH_done (by decide +kernel) ?_ _
      have hb : Below y2.w.heap.size y2.w V1 := (Below.refl _ _).drew.trans b1'
      have hpx : y2.w.heap.size ≤ pp0 := hPb0
      clear b1' hPb0 KEy hHeld
      generalize pp0 = py at *
      have hY := hX
      have hpy := hpx
      obtain ⟨y3, rfl⟩ := y2.next hb
      have S3 := hideP (S2.out.later hb)
      have X3 := hideP (HX.out.below hb HX.out.lt)
      have hne : px ≠ py := by have := HX.out.lt; omega
      have hg3 : W0.heap.size < py := by have := HX.out.lt; omega
      clear hpy hpx hX hb KEy Kx K1 d0 d1 d2 d3 d4 d5 d6 HF HX
      obtain ⟨a0, a1, a2, a3, a4, f0, f1, f2, f3, f4⟩ := factsZL X3.out
      obtain ⟨e0, e1, e2, e3, e4, g0, g1, g2, g3, g4⟩ := factsZL hY
      have HY := hideP hY
      clear hY f1 f2 f3 f4 g0 g1 g2 g3 g4 e1 e2 e3 e4 a1 a2 a3 a4
      go_upto_region 7 with fail
      obtain ⟨V, hV⟩ : ∃ V, V = y3.w.setCell ⟨px, 0, none⟩ (.int .i64 y.cal) := ⟨_, rfl⟩
      rw [← hV]
      have SV : Hid (QSt 92 W0 (.slice (some ⟨W0.heap.size, 0, none⟩) 0 0) [] V) := by
        rw [hV]
        exact ⟨S3.out.row.kept (grown_set _ _ _ _) (.inr (fun e => absurd (Option.some.inj e) (show ¬ W0.heap.size = px by omega))), below_store S3.out.below _ (by omega)⟩
      have XV : Hid (Blk V px #[.int .i64 y.cal, .int .i64 x.year, .int .i64 x.sol, .int .i64 x.mon, .int .i64 x.day] 76) := by rw [hV]; exact X3.out.set 0 _
      have YV : Hid (Blk V py #[.int .i64 y.cal, .int .i64 y.year, .int .i64 y.sol, .int .i64 y.mon, .int .i64 y.day] 76) := by rw [hV]; exact HY.out.other hne
      clear hV S3 X3 HY a0 f0 e0 hne
      obtain ⟨a0, a1, a2, a3, a4, _⟩ := factsZL XV.out
      go_wp2_with fail
      refine (KA1.out _).mono ?_
      rintro e w4 ⟨rfl, hb⟩
      have S4 := hideP (SV.out.later hb)
      have Y4 := hideP (YV.out.below hb YV.out.lt)
      clear hb a0 a1 a2 a3 a4 SV XV YV KA1
      go_upto_region 8 with fail
      obtain ⟨V5, hV5⟩ : ∃ V5, V5 = w4.alloc (.cells #[.int .i64 p1, .int .i64 p2, .int .i64 p3, .int .i64 p4] 92) := ⟨_, rfl⟩
      rw [← hV5]
      have S5 : Hid (QSt 92 W0 (.slice (some ⟨W0.heap.size, 0, none⟩) 0 0) [] V5) := by rw [hV5]; exact S4.out.later ((Below.refl _ _).alloc (Nat.le_refl _) _)
      have A5 : Hid (Blk V5 w4.heap.size #[.int .i64 p1, .int .i64 p2, .int .i64 p3, .int .i64 p4] 92) := by rw [hV5]; exact Blk.new _ _ _
      have Y5 : Hid (Blk V5 py #[.int .i64 y.cal, .int .i64 y.year, .int .i64 y.sol, .int .i64 y.mon, .int .i64 y.day] 76) := by rw [hV5]; exact Y4.out.alloc _
      have hga : W0.heap.size < w4.heap.size := Nat.lt_of_lt_of_le hg3 (Nat.le_of_lt Y4.out.lt)
      generalize w4.heap.size = pa at *
      clear hV5 S4 Y4
      obtain ⟨e0, e1, e2, e3, e4, _⟩ := factsZL Y5.out
      go_wp2_with fail
      refine (KA2.out _).mono ?_
      rintro e w6 ⟨rfl, hb⟩
      have S6 := hideP (S5.out.later hb)
      have Y6 := hideP (Y5.out.below hb Y5.out.lt)
      have A6 := hideP (A5.out.below hb A5.out.lt)
      clear hb e0 e1 e2 e3 e4 S5 A5 Y5 KA2
      go_upto_region 9 with fail
      obtain ⟨V7, hV7⟩ : ∃ V7, V7 = w6.alloc (.cells #[.int .i64 u1, .int .i64 u2, .int .i64 u3, .int .i64 u4] 92) := ⟨_, rfl⟩
      rw [← hV7]
      have S7 : Hid (QSt 92 W0 (.slice (some ⟨W0.heap.size, 0, none⟩) 0 0) [] V7) := by rw [hV7]; exact S6.out.later ((Below.refl _ _).alloc (Nat.le_refl _) _)
      have B7 : Hid (Blk V7 w6.heap.size #[.int .i64 u1, .int .i64 u2, .int .i64 u3, .int .i64 u4] 92) := by rw [hV7]; exact Blk.new _ _ _
      have A7 : Hid (Blk V7 pa #[.int .i64 p1, .int .i64 p2, .int .i64 p3, .int .i64 p4] 92) := by rw [hV7]; exact A6.out.alloc _
      have Y7 : Hid (Blk V7 py #[.int .i64 y.cal, .int .i64 y.year, .int .i64 y.sol, .int .i64 y.mon, .int .i64 y.day] 76) := by rw [hV7]; exact Y6.out.alloc _
      have hgb : W0.heap.size < w6.heap.size := Nat.lt_of_lt_of_le hg3 (Nat.le_of_lt Y6.out.lt)
      generalize w6.heap.size = pb at *
      clear hV7 S6 Y6 A6
      obtain ⟨e0, e1, e2, e3, _⟩ := factsQ A7.out
      have hE := dayOf_bound p1 p2 p3 p4
      go_wp2_with fail
      refine (KB.out _ _ _ _ _).mono ?_
      rintro e w8 ⟨rfl, hb⟩
      have S8 := hideP (S7.out.later hb)
      have Y8 := hideP (Y7.out.below hb Y7.out.lt)
      have B8 := hideP (B7.out.below hb B7.out.lt)
      clear hb e0 e1 e2 e3 S7 Y7 B7 A7
      by_cases g1 : b1 = true
      case neg =>
        obtain rfl : b1 = false := by simpa using g1
        have HLL := hideP (HL.out (of_decide_eq_false G1.out))
        clear HP HU HL HL2 HL3 KD
        generalize dayOf p1 p2 p3 p4 = E at *
        go_wp2_with fail
        go_loopw [5, 14, 15, 16] (fun o _ _ _ wr => o = .slice (some ⟨W0.heap.size, 0, none⟩) 0 0 ∧ wr = w8) (fun _ _ _ _ _ => 0)
        case atStart => exact ⟨rfl, rfl⟩
        case round =>
          obtain ⟨rfl, rfl⟩ := hrel
          go_wp2
          go_ret
          rw [HLL.out]
          exact ⟨_, rfl, S8.out.done HB0.out⟩
      by_cases g2 : b2 = true
      case neg =>
        obtain rfl : b2 = false := by simpa using g2
        subst g1
        have HLL := hideP (HL2.out (of_decide_eq_false G2.out))
        clear HP HU HL HL2 HL3 KD
        generalize dayOf p1 p2 p3 p4 = E at *
        go_wp2_with fail
        go_loopw [5, 14, 15, 16] (fun o _ _ _ wr => o = .slice (some ⟨W0.heap.size, 0, none⟩) 0 0 ∧ wr = w8) (fun _ _ _ _ _ => 0)
        case atStart => exact ⟨rfl, rfl⟩
        case round =>
          obtain ⟨rfl, rfl⟩ := hrel
          go_wp2
          go_ret
          rw [HLL.out]
          exact ⟨_, rfl, S8.out.done HB0.out⟩
      subst g1
      subst g2
      have HLL := hideP (HL3.out (of_decide_eq_true G1.out) (of_decide_eq_true G2.out))
      obtain ⟨rfl, rfl, rfl, rfl⟩ := HP.out (of_decide_eq_true G1.out)
      obtain ⟨rfl, rfl, rfl, rfl⟩ := HU.out (of_decide_eq_true G2.out)
      clear HP HU HL HL2 HL3 G1 G2
      have KBb := hideP (KB.out y.cal y.sol y.mon y.day)
      have hB := dayOf_bound y.cal y.sol y.mon y.day
      have KDy := hideP (KD.out y.cal)
      clear KB KD
      generalize dayOf y.cal x.sol x.mon x.day = E at *
      generalize dayOf y.cal y.sol y.mon y.day = B at *
      generalize y.cal = yc at *
      have hpyl : py < w8.heap.size := Y8.out.lt
      have hpbl : pb < w8.heap.size := B8.out.lt
      go_wp2_with fail
      go_loopw [5, 14, 15, 16] (fun o i _ _ wr => ∃ k g cap : Nat, k ≤ lostN E B ∧ i = .int .i64 (E + 1 + (k : Int)) ∧ o = .slice (some ⟨g, 0, none⟩) k cap ∧ (g = W0.heap.size ∨ w8.heap.size ≤ g) ∧ QSt 92 W0 o (datesL yc E k) wr ∧ w8.heap.size ≤ wr.heap.size ∧ ∀ j, j < w8.heap.size → j ≠ W0.heap.size → wr.heap[j]? = w8.heap[j]?) (fun _ i _ _ _ => (E + 41 - intOf i).toNat)
      case atStart => exact ⟨0, W0.heap.size, 0, Nat.zero_le _, by simp, rfl, .inl rfl, S8.out, Nat.le_refl _, fun _ _ _ => rfl⟩
      case round =>
        obtain ⟨k, g, cap, hk, rfl, rfl, hgg, hS, hsz, hkp⟩ := hrel
        have S := hideP hS
        have HK := hideP hkp
        have HG := hideP hgg
        have hkk := hk
        unfold lostN at hkk
        have hln := datesL_len yc E k
        have BR : Blk wr pb #[.int .i64 yc, .int .i64 y.sol, .int .i64 y.mon, .int .i64 y.day] 92 := (hkp pb hpbl (by omega)).trans B8.out
        have K := KBb.out wr
        obtain ⟨b0, b1, b2, b3, _⟩ := factsQ BR
        clear hS hkp hgg BR
        by_cases h1 : E + 1 + (k : Int) < B
        case neg =>
          have hd1 : decide (E + 1 + (k : Int) < B) = false := decide_eq_false h1
          have hkN : k = lostN E B := by unfold lostN; omega
          go_wp2_with fail
          refine K.mono ?_
          rintro e w2 ⟨rfl, hb⟩
          have S2 := hideP (S.out.later hb)
          clear hb
          go_wp2
          go_ret
          rw [HLL.out, ← hkN]
          exact ⟨_, rfl, S2.out.done HB0.out⟩
        have hd1 : decide (E + 1 + (k : Int) < B) = true := decide_eq_true h1
        by_cases h2 : (k : Int) < 40
        case neg =>
          have hd2 : decide ((k : Int) < 40) = false := decide_eq_false h2
          have hkN : k = lostN E B := by unfold lostN; omega
          go_wp2_with fail
          refine K.mono ?_
          rintro e w2 ⟨rfl, hb⟩
          have S2 := hideP (S.out.later hb)
          clear hb
          go_wp2
          go_ret
          rw [HLL.out, ← hkN]
          exact ⟨_, rfl, S2.out.done HB0.out⟩
        have hd2 : decide ((k : Int) < 40) = true := decide_eq_true h2
        have HN : Hid (k + 1 ≤ lostN E B) := by unfold Hid lostN; omega
        have HX := hideP (datesL_next yc E k)
        go_wp2_with fail
        refine K.mono ?_
        rintro e w2 ⟨rfl, hb⟩
        have S2 := hideP (S.out.later hb)
        have hsz2 : w8.heap.size ≤ w2.heap.size := Nat.le_trans hsz hb.size
        have HK2 : Hid (∀ j, j < w8.heap.size → j ≠ W0.heap.size → w2.heap[j]? = w8.heap[j]?) := fun j p q => (hb.block j (Nat.lt_of_lt_of_le p hsz)).trans (HK.out j p q)
        have YR : Blk w2 py #[.int .i64 yc, .int .i64 y.year, .int .i64 y.sol, .int .i64 y.mon, .int .i64 y.day] 76 := (HK2.out py hpyl (by omega)).trans Y8.out
        have b0' := YR.cell 0 rfl
        have KD1 := KDy.out (E + 1 + (k : Int)) w2
        clear hb K b0 b1 b2 b3 S HK YR hsz
        generalize dateQ yc (E + 1 + (k : Int)) = x at *
        generalize (dateOf yc (E + 1 + (k : Int))).2.2.2.2 = ok at *
        go_wp2_with fail
        refine KD1.mono ?_
        rintro e w3 ⟨rfl, hb⟩
        have S3 := hideP (S2.out.later hb)
        have hsz3 : w8.heap.size ≤ w3.heap.size := Nat.le_trans hsz2 hb.size
        have HK3 : Hid (∀ j, j < w8.heap.size → j ≠ W0.heap.size → w3.heap[j]? = w8.heap[j]?) := fun j p q => (hb.block j (Nat.lt_of_lt_of_le p hsz2)).trans (HK2.out j p q)
        clear hb KD1 b0' S2 HK2 hsz2
        have hB3 : Below w3.heap.size w3 (w3.alloc (.cells #[.int .i64 x.a, .int .i64 x.b, .int .i64 x.c, .int .i64 x.d] 92)) := (Below.refl _ w3).alloc (Nat.le_refl _) _
        have S4 := hideP (S3.out.later hB3)
        have HB3 := hideP hB3
        clear hB3
        go_wp2_with (at_builtin; refine wpList_append_home rfl _ _ 56 rfl W0.heap.size 92 i0 (.agg #[.int .i64 0, .int .i64 0, .int .i64 0, .int .i64 0]) 4 32 Tryz.underlying56 hi hz0 hz1 hz2 rfl (by decide) g cap k (icells qdK (datesL yc E k)) rfl (by have h := S4.out.row.alloc (.cells #[.int .i64 x.a, .int .i64 x.b, .int .i64 x.c, .int .i64 x.d] 92); rw [hln] at h; exact h) ⟨w3.heap.size + 1, 0, none⟩ 1 1 [.int .i64 x.a, .int .i64 x.b, .int .i64 x.c, .int .i64 x.d] rfl rfl (cells_quad _ _ _ _ _ _ (inew _ _).symm) (by simp [Value.oneCell']) (by unfold maxLen; omega) (by omega) (by have := S4.out.below.size; rw [inew]; omega) ?_; intro g' cap' w9 hown' hgrow hhome)
        refine ⟨⟨k + 1, g', cap', HN.out, by apply congrArg (Value.int .i64); omega, rfl, ?_, ?_, ?_, ?_⟩, by simp [intOf]; omega⟩
        · rcases hhome with rfl | q
          · exact HG.out
          · refine .inr (Nat.le_trans ?_ q)
            rw [inew, inew]
            omega
        · rw [HX.out]
          exact S4.out.app x (by rw [hln]; exact hown') hgrow
        · refine Nat.le_trans hsz3 (Nat.le_trans ?_ hgrow.size)
          rw [inew, inew]
          omega
        · intro j p q
          have h3 : j < w3.heap.size := by omega
          have e1 := hgrow.block j (by rw [inew, inew]; omega) (fun e => by have := Option.some.inj e; rcases HG.out with h | h <;> omega)
          rw [e1, Below.heap_alloc _ _ j (by rw [inew]; omega), HB3.out.block j h3]
          exact HK3.out j p q
end Go.Proofs.YtdgolaaheakfoaaGreatDoor.ctr
