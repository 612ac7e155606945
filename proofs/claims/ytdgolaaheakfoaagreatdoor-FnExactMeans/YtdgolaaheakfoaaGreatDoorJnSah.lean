/- How segments tile, plain: two that share a day stand beside each other; the first day that none has, as the program and as the model look for it. Contract of slices.DeleteFunc at segments without a day: the others move up, in order. Contracts of the program's firstShared and firstBare: whether two segments share a day, whether a day is bare. -/
import Derived.Test.YtdgolaaheakfoaaGreatDoorJnSad
import Derived.Test.YtdgolaaheakfoaaGreatDoorJnSag
import Derived.Lib.SliceRun
namespace Go.Proofs.YtdgolaaheakfoaaGreatDoor.ctr
open Go.RowKit
def hasDayB (s : Seg) : Bool := decide (s.fr ≤ s.to)
def fullS (l : List Seg) : List Seg := (sortS l).filter hasDayB
def sharedP (L : List Seg) : Prop := ∃ i, 1 ≤ i ∧ i < L.length ∧ (sgA L i).fr ≤ (sgA L (i - 1)).to
noncomputable def sharedB (L : List Seg) : Bool := @decide (sharedP L) (Classical.propDecidable _)
theorem shared_yes {L : List Seg} (h : sharedP L) : sharedB L = true := by unfold sharedB; simp [h]
theorem shared_no {L : List Seg} (h : ¬ sharedP L) : sharedB L = false := by unfold sharedB; simp [h]
def NoSh (L : List Seg) (N k : Nat) : Prop := ∀ j, 1 ≤ j → j < k + 1 → j < N → ¬ (sgA L j).fr ≤ (sgA L (j - 1)).to
def bareI (to : Int) : List Seg → Int → Bool
  | [], _ => true
  | s :: l, n => if n < s.fr then true else if to ≤ s.to then false else bareI to l (max n (s.to + 1))
def bareS (to : Int) : List Seg → Int → Bool
  | [], n => decide (n ≤ to)
  | s :: l, n => if n ≤ to then (if s.to < n then bareS to l n else if n < s.fr then true else if to ≤ s.to then false else bareS to l (s.to + 1)) else false
theorem bareS_no {to n : Int} (h : ¬ n ≤ to) : ∀ L, bareS to L n = false
  | [] => by simp [bareS, h]
  | s :: l => by rw [bareS, if_neg h]
theorem bare_same {to : Int} : ∀ (L : List Seg) (n : Int), (∀ s ∈ L, s.fr ≤ s.to) → n ≤ to → bareI to L n = bareS to L n
  | [], n, _, h => by simp [bareI, bareS, h]
  | s :: l, n, hd, h => by
    have hs := hd s List.mem_cons_self
    have hl : ∀ x ∈ l, x.fr ≤ x.to := fun x hx => hd x (List.mem_cons_of_mem _ hx)
    rw [bareI, bareS, if_pos h]
    by_cases h1 : s.to < n
    · rw [if_pos h1, if_neg (by omega), if_neg (by omega), show max n (s.to + 1) = n by omega]
      exact bare_same l n hl h
    · rw [if_neg h1]
      by_cases h2 : n < s.fr
      · rw [if_pos h2, if_pos h2]
      · rw [if_neg h2, if_neg h2]
        by_cases h3 : to ≤ s.to
        · rw [if_pos h3, if_pos h3]
        · rw [if_neg h3, if_neg h3, show max n (s.to + 1) = s.to + 1 by omega]
          exact bare_same l (s.to + 1) hl (by omega)
theorem full_days (l : List Seg) : ∀ s ∈ fullS l, s.fr ≤ s.to := fun s hs => by
  have := (List.mem_filter.1 hs).2
  simpa [hasDayB] using this
theorem full_len (l : List Seg) : (fullS l).length ≤ l.length := by
  have := List.length_filter_le hasDayB (sortS l)
  rw [sortS_len] at this
  exact this
noncomputable def tileC (f t : Int) (L : List Seg) : Int := if sharedB L = true then 1 else if bareS t L f = true then 2 else 0
noncomputable def tilesZ (f t : Int) (l : List Seg) : Int := tileC f t (fullS l)
theorem filter_snoc {p : Seg → Bool} {L : List Seg} {k : Nat} (h : k < L.length) : (L.take (k + 1)).filter p = (L.take k).filter p ++ (if p (sgA L k) = true then [sgA L k] else []) := by
  rw [sgA_eq h, List.take_succ_eq_append_getElem h, List.filter_append]
  congr 1
  by_cases hp : p L[k] = true
  · simp [hp]
  · simp [hp]
theorem bareI_at {to n : Int} {L : List Seg} {k : Nat} (h : k < L.length) : bareI to (L.drop k) n = if n < (sgA L k).fr then true else if to ≤ (sgA L k).to then false else bareI to (L.drop (k + 1)) (max n ((sgA L k).to + 1)) := by
  rw [List.drop_eq_getElem_cons h, bareI, ← sgA_eq h]
theorem bareS_at {to n : Int} {L : List Seg} {k : Nat} (h : k < L.length) : bareS to (L.drop k) n = if n ≤ to then (if (sgA L k).to < n then bareS to (L.drop (k + 1)) n else if n < (sgA L k).fr then true else if to ≤ (sgA L k).to then false else bareS to (L.drop (k + 1)) ((sgA L k).to + 1)) else false := by
  rw [List.drop_eq_getElem_cons h, bareS, ← sgA_eq h]
theorem bareI_end {to n : Int} {L : List Seg} {k : Nat} (h : L.length ≤ k) : bareI to (L.drop k) n = true := by rw [List.drop_of_length_le h]; rfl
theorem bareS_end {to n : Int} {L : List Seg} {k : Nat} (h : L.length ≤ k) : bareS to (L.drop k) n = decide (n ≤ to) := by rw [List.drop_of_length_le h]; rfl
end Go.Proofs.YtdgolaaheakfoaaGreatDoor.ctr
namespace Go.Proofs.YtdgolaaheakfoaaGreatDoor.ctr
open Go.RowKit
theorem setCells_blk : ∀ (vs : List Value) (w : World) (b o : Nat) (cur : Array Value) (T : TypeId), Blk w b cur T → ∃ cur', Blk (w.setCells b o vs) b cur' T ∧ cur'.size = cur.size ∧ ∀ q, q < o → cur'[q]? = cur[q]?
  | [], _, _, _, cur, _, h => ⟨cur, h, rfl, fun _ _ => rfl⟩
  | v :: r, w, b, o, cur, T, h => by
    obtain ⟨cur', h1, h2, h3⟩ := setCells_blk r (w.setCell ⟨b, o, none⟩ v) b (o + 1) _ T (h.set o v)
    refine ⟨cur', h1, by rw [h2]; simp, fun q hq => ?_⟩
    rw [h3 q (by omega), Array.getElem?_setIfInBounds_ne (by omega)]
theorem setCells_grown : ∀ (vs : List Value) (w : World) (b o : Nat), w.grownBy (w.setCells b o vs) (some b)
  | [], _, _, _ => ⟨rfl, rfl, rfl, Nat.le_refl _, fun _ _ _ => rfl⟩
  | v :: r, w, b, o => by
    have h1 : w.grownBy (w.setCell ⟨b, o, none⟩ v) (some b) := ⟨rfl, rfl, rfl, by rw [World.size_setCell]; exact Nat.le_refl _, fun k _ hk => Below.heap_setCell w _ _ k (by intro e; apply hk; rw [e])⟩
    exact grown_two h1 (setCells_grown r _ b (o + 1))
theorem clear_segs (w : World) (b o n c : Nat) (ty : TypeId) (hn : 0 < n) (hc : ∀ j, j < n * 5 → (w.cell? ⟨b, o + j, none⟩).isSome = true) (hf : ∀ j, j < n * 5 → w.frozen? ⟨b, o + j, none⟩ = false) :
    (Builtin.clear_ #[36] ty #[.slice (some ⟨b, o, none⟩) n c]).run Tryz.prog w = .ok (.tuple #[]) (w.setCells b o (Builtin.zeroCells #[.int .i64 0, .int .i64 0, .int .i64 0, .int .i64 0, .int .i64 0] n).toList) := by
  have hl : (Builtin.zeroCells #[.int .i64 0, .int .i64 0, .int .i64 0, .int .i64 0, .int .i64 0] n).toList.length = n * 5 := by simp [Builtin.zeroCells]
  have hone : ∀ v ∈ (Builtin.zeroCells #[.int .i64 0, .int .i64 0, .int .i64 0, .int .i64 0, .int .i64 0] n).toList, v.oneCell' = true := by
    intro v hv
    simp only [Builtin.zeroCells, Array.toList_map, List.mem_map] at hv
    obtain ⟨i, _, rfl⟩ := hv
    have h5 : i % 5 < 5 := Nat.mod_lt _ (by omega)
    show (#[Value.int .i64 0, .int .i64 0, .int .i64 0, .int .i64 0, .int .i64 0][i % 5]!).oneCell' = true
    rcases (show i % 5 = 0 ∨ i % 5 = 1 ∨ i % 5 = 2 ∨ i % 5 = 3 ∨ i % 5 = 4 by omega) with e | e | e | e | e <;> rw [e] <;> rfl
  have hst := run_storeCells_cells (P := Tryz.prog) b o (Builtin.zeroCells #[.int .i64 0, .int .i64 0, .int .i64 0, .int .i64 0, .int .i64 0] n).toList 0 w (by rw [hl]; simpa using hc) (by rw [hl]; simpa using hf) hone
  simp only [Nat.add_zero] at hst
  obtain ⟨m, rfl⟩ : ∃ m, n = m + 1 := ⟨n - 1, by omega⟩
  simp [Builtin.clear_, run_underlying Tryz.underlying36, Value.cells, hst]
theorem implNoDay (s : Seg) (w : World) : Calls Tryz.prog 188 #[.agg #[.int .i64 s.fr, .int .i64 s.to, .int .i64 s.cal, .int .i64 s.sty, .int .i64 s.off]] w fun e w' => e = .returned (.bool (!hasDayB s)) ∧ Below w.heap.size w w' := by
  unfold hasDayB
  by_cases h : s.fr ≤ s.to
  · have hd : decide (s.to < s.fr) = false := by simp; omega
    rw [decide_eq_true h]
    go_enter Tryz.func188, Tryz.ntmps188
    go_wp2
    go_ret
    exact ⟨rfl, (Below.refl _ _).alloc (Nat.le_refl _) _⟩
  · have hd : decide (s.to < s.fr) = true := by simp; omega
    rw [decide_eq_false h]
    go_enter Tryz.func188, Tryz.ntmps188
    go_wp2
    go_ret
    exact ⟨rfl, (Below.refl _ _).alloc (Nat.le_refl _) _⟩
set_option maxHeartbeats 1000000 in
theorem indexDel (v : Value) (l : List Seg) (w : World) (h : IRow segK w v l) : Calls Tryz.prog 197 #[v, .func (.func 188) #[] #[]] w fun e w' => e = .returned (.int .i64 (ifind (fun s => !hasDayB s) l)) ∧ Below w.heap.size w w' := by
  obtain ⟨a, c, rfl, hl, hm, H⟩ := h
  have HK := hideP H
  unfold maxLen at hm
  clear H
  go_enter Tryz.func197, Tryz.ntmps197
  go_wp2
  go_loopw [8] (fun i wr => ∃ k : Nat, k ≤ l.length ∧ i = .int .i64 (k : Int) ∧ Hid (ifFrom (fun s => !hasDayB s) (l.drop k) k = ifind (fun s => !hasDayB s) l) ∧ Below w.heap.size w wr) (fun i _ => l.length - (intOf i).toNat)
  case atStart => exact ⟨0, Nat.zero_le _, rfl, rfl, Below.refl _ _⟩
  case round =>
    obtain ⟨k, hk, rfl, HF, hB⟩ := hrel
    have HB := hideP hB
    clear hB
    by_cases hlt : k < l.length
    · obtain ⟨g, rfl, hg, x⟩ := HK.out k hlt
      obtain ⟨c0, c1, c2, c3, c4⟩ := (x.below HB.out hg).seg
      have K1 := hideP (fun h => if_hit (K := segK) (p := fun s => !hasDayB s) hlt h HF.out)
      have K2 := hideP (fun h => if_miss (K := segK) (p := fun s => !hasDayB s) hlt h HF.out)
      have KD := hideP (implNoDay (atK segK l k) wr)
      clear x
      generalize atK segK l k = r at *
      go_wp2_with fail
      refine KD.out.mono ?_
      rintro e w1 ⟨rfl, hb⟩
      have HB1 : Hid (Below w.heap.size w w1) := HB.out.trans (hb.mono HB.out.size)
      clear hb c0 c1 c2 c3 c4
      cases hq : hasDayB r
      · have HN := hideP (K1.out (by simp [hq]))
        go_wp2
        go_ret
        exact ⟨ret_int HN.out.symm, HB1.out⟩
      · have HN := hideP (K2.out (by simp [hq]))
        go_wp2
        exact ⟨⟨k + 1, by omega, by go_num, HN.out, HB1.out⟩, by simp [intOf]; omega⟩
    · have HN := hideP (if_end (by omega) HF.out)
      go_wp2
      go_ret
      exact ⟨ret_int HN.out.symm, HB.out⟩
theorem if_cases (p : Seg → Bool) (l : List Seg) : (ifind p l = -1 ∧ ∀ k, k < l.length → p (sgA l k) = false) ∨ ∃ k, k < l.length ∧ ifind p l = (k : Int) ∧ p (sgA l k) = true ∧ ∀ j, j < k → p (sgA l j) = false := by
  have go : ∀ n k, n + k = l.length → (∀ j, j < k → p (sgA l j) = false) → (ifFrom p (l.drop k) k = -1 ∧ ∀ j, j < l.length → p (sgA l j) = false) ∨ ∃ q, q < l.length ∧ ifFrom p (l.drop k) k = (q : Int) ∧ p (sgA l q) = true ∧ ∀ j, j < q → p (sgA l j) = false := by
    intro n
    induction n with
    | zero => intro k hk hj; exact .inl ⟨by rw [List.drop_of_length_le (by omega)]; rfl, fun j h => hj j (by omega)⟩
    | succ n ih =>
      intro k hk hj
      have hlt : k < l.length := by omega
      cases hp : p (sgA l k)
      · have e := if_miss (K := segK) hlt hp (R := _) rfl
        rw [← e]
        exact ih (k + 1) (by omega) (fun j h => by
          by_cases q : j = k
          · subst q; exact hp
          · exact hj j (by omega))
      · exact .inr ⟨k, hlt, if_hit (K := segK) hlt hp rfl, hp, hj⟩
  exact go l.length 0 (by omega) (fun j h => by omega)
theorem filter_all {p : Seg → Bool} {L : List Seg} : ∀ k, k ≤ L.length → (∀ j, j < k → p (sgA L j) = true) → (L.take k).filter p = L.take k
  | 0, _, _ => by simp
  | k + 1, hk, h => by
    rw [filter_snoc (by omega), filter_all k (by omega) (fun j hj => h j (by omega)), if_pos (h k (by omega)), sgA_eq (show k < L.length by omega), ← List.take_succ_eq_append_getElem (show k < L.length by omega)]
structure Del1 (w : World) (g cap : Nat) (L : List Seg) (i j : Nat) (M : List Seg) (wr : World) : Prop where
  row : PRow segK 90 wr g cap M
  len : M.length = L.length
  pre : M.take i = (L.take j).filter hasDayB
  suf : M.drop j = L.drop j
  ij : i < j
  grown : w.grownBy wr (some g)
theorem Del1.at {w : World} {g cap : Nat} {L : List Seg} {i j : Nat} {M : List Seg} {wr : World} (h : Del1 w g cap L i j M wr) (hj : j < L.length) : sgA M j = sgA L j := by
  have := congrArg (fun l => l.head?) h.suf
  simp only [List.head?_drop] at this
  rw [sgA_eq hj, sgA_eq (by rw [h.len]; exact hj)]
  rw [List.getElem?_eq_getElem hj, List.getElem?_eq_getElem (by rw [h.len]; exact hj)] at this
  exact Option.some.inj this
theorem drop_next {M L : List Seg} {j : Nat} (h : M.drop j = L.drop j) : M.drop (j + 1) = L.drop (j + 1) := by
  have := congrArg (List.drop 1) h
  simpa [List.drop_drop, Nat.add_comm] using this
theorem grown_below {w wr w1 : World} {g : Nat} (h : w.grownBy wr (some g)) (hb : Below wr.heap.size wr w1) : w.grownBy w1 (some g) := ⟨hb.os.trans h.os, hb.tape.trans h.tape, hb.output.trans h.output, Nat.le_trans h.size hb.size, fun k hk hn => (hb.block k (Nat.lt_of_lt_of_le hk h.size)).trans (h.block k hk hn)⟩
theorem Del1.skip {w : World} {g cap : Nat} {L : List Seg} {i j : Nat} {M : List Seg} {wr w1 : World} (h : Del1 w g cap L i j M wr) (hj : j < L.length) (hd : hasDayB (sgA L j) = false) (hb : Below wr.heap.size wr w1) : Del1 w g cap L i (j + 1) M w1 := by
  refine ⟨h.row.below hb h.row.lt, h.len, ?_, drop_next h.suf, by have := h.ij; omega, grown_below h.grown hb⟩
  rw [filter_snoc hj, hd, h.pre]
  simp
theorem Del1.keep {w : World} {g cap : Nat} {L : List Seg} {i j : Nat} {M : List Seg} {wr w1 : World} (h : Del1 w g cap L i j M wr) (hj : j < L.length) (hd : hasDayB (sgA L j) = true) (hb : Below wr.heap.size wr w1) : Del1 w g cap L (i + 1) (j + 1) (M.set i (sgA L j)) (putI w1 g (i * 5) 0 (segK.iv (sgA L j))) := by
  have hij := h.ij
  have hlen := h.len
  refine ⟨(h.row.below hb h.row.lt).put (by omega) (sgA L j), by simpa using h.len, ?_, ?_, by omega, grown_two (grown_below h.grown hb) (putI_grown _ _ _ _ _)⟩
  · rw [filter_snoc hj, hd, ← h.pre, if_pos rfl, List.take_succ_eq_append_getElem (by simp; omega)]
    rw [List.take_set, List.set_eq_of_length_le (by simp; omega)]
    simp
  · rw [List.drop_set, if_pos (by omega)]
    exact drop_next h.suf
theorem put_seg (w : World) (g i : Nat) (s : Seg) : ((((w.setCell ⟨g, i * 5, none⟩ (.int .i64 s.fr)).setCell ⟨g, i * 5 + 1, none⟩ (.int .i64 s.to)).setCell ⟨g, i * 5 + 2, none⟩ (.int .i64 s.cal)).setCell ⟨g, i * 5 + 3, none⟩ (.int .i64 s.sty)).setCell ⟨g, i * 5 + 4, none⟩ (.int .i64 s.off) = putI w g (i * 5) 0 (segK.iv s) := rfl
def DelOut (w : World) (g cap : Nat) (L : List Seg) (o : Value) (w' : World) : Prop := o = .slice (some ⟨g, 0, none⟩) (L.filter hasDayB).length cap ∧ PRow segK 90 w' g cap (L.filter hasDayB) ∧ w.grownBy w' (some g)
theorem Del1.done {w : World} {g cap : Nat} {L : List Seg} {i : Nat} {M : List Seg} {wr : World} (h : Del1 w g cap L i L.length M wr) (vs : List Value) : DelOut w g cap L (.slice (some ⟨g, 0, none⟩) i cap) (wr.setCells g (i * 5) vs) := by
  have hp := h.pre
  rw [List.take_length] at hp
  have hij := h.ij
  have hlen := h.len
  have hl : (L.filter hasDayB).length = i := by rw [← hp]; simp; omega
  obtain ⟨cur, hB, hs, h1, h2, hC⟩ := h.row
  obtain ⟨cur', b1, b2, b3⟩ := setCells_blk vs wr g (i * 5) cur _ hB
  refine ⟨by rw [hl], ⟨cur', b1, by rw [b2, hs], by omega, h2, fun k hk j z e => ?_⟩, grown_two h.grown (setCells_grown _ _ _ _)⟩
  rw [hl] at hk
  have hj : j < 5 := by have := (List.getElem?_eq_some_iff.1 e).1; rw [segK.len] at this; exact this
  rw [show k * segK.m + j = k * 5 + j from rfl, b3 _ (by omega)]
  refine hC k (by omega) j z ?_
  have : atK segK (L.filter hasDayB) k = atK segK M k := by rw [← hp]; simp [atK, List.getD, hk]
  rw [← this]
  exact e
set_option maxRecDepth 100000 in
set_option maxHeartbeats 4000000 in
theorem deleteDel (g cap : Nat) (L : List Seg) (w : World) (hP : PRow segK 90 w g cap L) : Calls Tryz.prog 186 #[.slice (some ⟨g, 0, none⟩) L.length cap, .func (.func 188) #[] #[]] w fun e w' => ∃ o, e = .returned o ∧ DelOut w g cap L o w' := by
  have KI := indexDel _ L w hP.row
  have hcap : L.length ≤ cap := by obtain ⟨_, _, _, q, _⟩ := hP; exact q
  have hcm : cap ≤ maxLen := by obtain ⟨_, _, _, _, q, _⟩ := hP; exact q
  unfold maxLen at hcm
  have HP := hideP hP
  clear hP
  rcases if_cases (fun s => !hasDayB s) L with ⟨e, hall⟩ | ⟨k, hk, e, hk1, hk2⟩
  · rw [e] at KI
    have HK := hideP KI
    have HF : Hid (L.filter hasDayB = L) := by
      have := filter_all (p := hasDayB) (L := L) L.length (Nat.le_refl _) (fun j hj => by have := hall j hj; simpa using this)
      rw [List.take_length] at this
      exact this
    clear KI e hall
    go_enter Tryz.func186, Tryz.ntmps186
    go_wp2_with fail
    refine HK.out.mono ?_
    rintro e w1 ⟨rfl, hb⟩
    have HO : Hid (DelOut w g cap L (.slice (some ⟨g, 0, none⟩) L.length cap) w1) := ⟨by rw [HF.out], by rw [HF.out]; exact HP.out.below hb HP.out.lt, grown_below ⟨rfl, rfl, rfl, Nat.le_refl _, fun _ _ _ => rfl⟩ hb⟩
    clear hb
    go_wp2
    go_ret
    exact ⟨_, rfl, HO.out⟩
  · rw [e] at KI
    have HK := hideP KI
    have HD : Hid (∀ w1, Below w.heap.size w w1 → Del1 w g cap L k (k + 1) L w1) := fun w1 hb => by
      refine ⟨HP.out.below hb HP.out.lt, rfl, ?_, rfl, by omega, grown_below ⟨rfl, rfl, rfl, Nat.le_refl _, fun _ _ _ => rfl⟩ hb⟩
      rw [filter_snoc hk, show hasDayB (sgA L k) = false by simpa using hk1, filter_all k (by omega) (fun j hj => by have := hk2 j hj; simpa using this)]
      simp
    clear KI e hk1 hk2
    go_enter Tryz.func186, Tryz.ntmps186
    go_wp2_with fail
    refine HK.out.mono ?_
    rintro e w1 ⟨rfl, hb⟩
    have D1 := hideP (HD.out w1 hb)
    clear hb HD
    go_wp2
    go_loopw [5, 6] (fun p q wr => ∃ (i j : Nat) (M : List Seg), i < j ∧ j ≤ L.length ∧ p = .int .i64 (i : Int) ∧ q = .int .i64 (j : Int) ∧ Del1 w g cap L i j M wr) (fun _ q _ => L.length - (intOf q).toNat)
    case atStart => exact ⟨k, k + 1, L, by omega, by omega, rfl, by go_num, D1.out⟩
    case round =>
      obtain ⟨i, j, M, hij, hj, rfl, rfl, hD⟩ := hrel
      have H := hideP hD
      clear hD D1
      by_cases hlt : j < L.length
      · have hrow := H.out.row.at (k := j) (by rw [H.out.len]; exact hlt)
        rw [show atK segK M j = sgA L j from H.out.at hlt] at hrow
        obtain ⟨c0, c1, c2, c3, c4⟩ := hrow.seg
        have hgl := H.out.row.lt
        have HK1 := hideP (implNoDay (sgA L j))
        have HSk : Hid (∀ w1, Below wr.heap.size wr w1 → hasDayB (sgA L j) = false → Del1 w g cap L i (j + 1) M w1) := fun w1 hb hd => H.out.skip hlt hd hb
        have HKp : Hid (∀ w1, Below wr.heap.size wr w1 → hasDayB (sgA L j) = true → Del1 w g cap L (i + 1) (j + 1) (M.set i (sgA L j)) (putI w1 g (i * 5) 0 (segK.iv (sgA L j)))) := fun w1 hb hd => H.out.keep hlt hd hb
        have HO : Hid (∀ w1, Below wr.heap.size wr w1 → ∀ q, q < 5 → (∃ u, w1.cell? ⟨g, i * 5 + q, none⟩ = some u) ∧ w1.frozen? ⟨g, i * 5 + q, none⟩ = false) := fun w1 hb q hq => by
          obtain ⟨cur, hB, hs, h1, _⟩ := H.out.row
          have hB' := hB.below hb hB.lt
          have h5 : (i + 1) * 5 ≤ cap * 5 := Nat.mul_le_mul_right _ (by rw [H.out.len] at h1; omega)
          have h6 : cur.size = cap * 5 := hs
          exact ⟨⟨cur[i * 5 + q]'(by omega), hB'.cell _ (by simp)⟩, hB'.thaw _⟩
        clear hrow
        generalize sgA L j = r at *
        obtain ⟨W1, hW1⟩ : ∃ W1, W1 = wr.alloc (.cells #[.int .i64 r.fr, .int .i64 r.to, .int .i64 r.cal, .int .i64 r.sty, .int .i64 r.off] 90) := ⟨_, rfl⟩
        have HB1 : Hid (Below wr.heap.size wr W1) := by unfold Hid; rw [hW1]; exact (Below.refl _ _).alloc (Nat.le_refl _) _
        have q0 : ∀ x : Later W1, x.w.cell? ⟨wr.heap.size, 0, none⟩ = some (.int .i64 r.fr) := Later.new hW1 0 rfl
        have q1 : ∀ x : Later W1, x.w.cell? ⟨wr.heap.size, 1, none⟩ = some (.int .i64 r.to) := Later.new hW1 1 rfl
        have q2 : ∀ x : Later W1, x.w.cell? ⟨wr.heap.size, 2, none⟩ = some (.int .i64 r.cal) := Later.new hW1 2 rfl
        have q3 : ∀ x : Later W1, x.w.cell? ⟨wr.heap.size, 3, none⟩ = some (.int .i64 r.sty) := Later.new hW1 3 rfl
        have q4 : ∀ x : Later W1, x.w.cell? ⟨wr.heap.size, 4, none⟩ = some (.int .i64 r.off) := Later.new hW1 4 rfl
        have HW1 := hideP hW1
        clear hW1
        go_wp2_with fail
        rw [← HW1.out]
        refine (HK1.out _).mono ?_
        rintro e w2 ⟨rfl, hb⟩
        obtain ⟨x2, rfl⟩ := Later.of hb
        have HB2 : Hid (Below wr.heap.size wr x2.w) := HB1.out.trans (hb.mono HB1.out.size)
        clear hb c0 c1 c2 c3 c4
        cases hd : hasDayB r
        · have HN := hideP (HSk.out x2.w HB2.out hd)
          go_wp2
          exact ⟨⟨_, _, _, _, _, _, _, _, _, _, _, _, _, _, _, _, _, _, _, _, _, _, _, ⟨i, j + 1, M, by omega, by omega, rfl, rfl, HN.out⟩, rfl⟩, by simp [intOf]; omega⟩
        · have HN := hideP (HKp.out x2.w HB2.out hd)
          obtain ⟨⟨u0, p0⟩, f0⟩ := HO.out x2.w HB2.out 0 (by omega)
          obtain ⟨⟨u1, p1⟩, f1⟩ := HO.out x2.w HB2.out 1 (by omega)
          obtain ⟨⟨u2, p2⟩, f2⟩ := HO.out x2.w HB2.out 2 (by omega)
          obtain ⟨⟨u3, p3⟩, f3⟩ := HO.out x2.w HB2.out 3 (by omega)
          obtain ⟨⟨u4, p4⟩, f4⟩ := HO.out x2.w HB2.out 4 (by omega)
          rw [Nat.add_zero] at p0 f0
          go_wp2
          rw [put_seg]
          exact ⟨⟨_, _, _, _, _, _, _, _, _, _, _, _, _, _, _, _, _, _, _, _, _, _, _, ⟨i + 1, j + 1, M.set i r, by omega, by omega, rfl, rfl, HN.out⟩, rfl⟩, by simp [intOf]; omega⟩
      · obtain rfl : j = L.length := by omega
        have hci : ¬ cap = i := by omega
        have hcl := fun ty => clear_segs wr g (i * 5) (L.length - i) (cap - i) ty (by omega) (fun q hq => by
          obtain ⟨cur, hB, hs, h1, _⟩ := H.out.row
          have h5 : L.length * 5 ≤ cap * 5 := Nat.mul_le_mul_right _ (by rw [H.out.len] at h1; omega)
          have h6 : cur.size = cap * 5 := hs
          rw [hB.cell (i * 5 + q) (v := cur[i * 5 + q]'(by omega)) (by simp)]
          rfl) (fun q hq => by obtain ⟨cur, hB, _⟩ := H.out.row; exact hB.thaw _)
        have HN := hideP (H.out.done (Builtin.zeroCells #[.int .i64 0, .int .i64 0, .int .i64 0, .int .i64 0, .int .i64 0] (L.length - i)).toList)
        generalize (Builtin.zeroCells #[.int .i64 0, .int .i64 0, .int .i64 0, .int .i64 0, .int .i64 0] (L.length - i)).toList = vs at *
        go_wp2
        go_ret
        exact ⟨_, rfl, HN.out⟩
end Go.Proofs.YtdgolaaheakfoaaGreatDoor.ctr
namespace Go.Proofs.YtdgolaaheakfoaaGreatDoor.ctr
open Go.RowKit
set_option maxRecDepth 100000 in
set_option maxHeartbeats 2000000 in
theorem implShared (v : Value) (L : List Seg) (w : World) (h : IRow segK w v L) (hl : L.length ≤ 1048576) : Calls Tryz.prog 189 #[v] w fun e w' => ∃ d : Int, e = .returned (.tuple #[.int .i64 d, .bool (sharedB L)]) ∧ Below w.heap.size w w' := by
  obtain ⟨ad, c, rfl, hc, hcm, H⟩ := h
  have HR := hideP H
  unfold maxLen at hcm
  obtain ⟨N, hN⟩ : ∃ N, N = L.length := ⟨_, rfl⟩
  have HN := hideP hN
  rw [← hN] at hl hc ⊢
  obtain ⟨R, hR⟩ : ∃ R, R = sharedB L := ⟨_, rfl⟩
  have HRr := hideP hR
  rw [← hR]
  clear H hN hR
  go_enter Tryz.func189, Tryz.ntmps189
  go_wp2
  go_loopw [4] (fun i wr => ∃ k : Nat, i = .int .i64 ((k : Int) + 1) ∧ k ≤ N ∧ Hid (NoSh L N k) ∧ ∃ y : Later w, wr = y.w) (fun i _ => N + 1 - (intOf i).toNat)
  case atStart => exact ⟨0, rfl, Nat.zero_le _, fun j h1 h2 => by omega, ⟨w, Below.refl _ _⟩, rfl⟩
  case round =>
    obtain ⟨k, rfl, hk, HJ, y, rfl⟩ := hrel
    by_cases hlt : k + 1 < N
    · obtain ⟨g, rfl, hg, x1⟩ := HR.out (k + 1) (by rw [← HN.out]; exact hlt)
      obtain ⟨g', eg, _, x0⟩ := HR.out k (by rw [← HN.out]; omega)
      cases eg
      have hlt' : (k : Int) + 1 < (N : Int) := by omega
      have e1 : (k : Int) + 1 - 1 = (k : Int) := by omega
      have a0 : ∀ y : Later w, y.w.cell? ⟨g, (k + 1) * 5, none⟩ = some (.int .i64 (sgA L (k + 1)).fr) := fun y => (x1.below y.below hg).seg.1
      have a1 : ∀ y : Later w, y.w.cell? ⟨g, k * 5 + 1, none⟩ = some (.int .i64 (sgA L k).to) := fun y => (x0.below y.below hg).seg.2.1
      have HY : Hid ((sgA L (k + 1)).fr ≤ (sgA L k).to → R = true) := fun q => by rw [HRr.out]; exact shared_yes ⟨k + 1, by omega, by rw [← HN.out]; exact hlt, q⟩
      have HX : Hid (¬ (sgA L (k + 1)).fr ≤ (sgA L k).to → NoSh L N (k + 1)) := fun q j h1 h2 h3 => by
        by_cases e : j = k + 1
        · subst e; exact q
        · exact HJ.out j h1 (by omega) h3
      clear HJ x0 x1
      generalize (sgA L (k + 1)).fr = p at *
      generalize (sgA L k).to = q at *
      by_cases hpq : p ≤ q
      · have hd : decide (p ≤ q) = true := decide_eq_true hpq
        have HE := hideP (HY.out hpq)
        go_wp2_with fail
        refine wp_region_later (W := w) y.below (by kernel_rfl) (by kernel_rfl) ?_
        repeat (go_big_quiet_step (fail))
        refine wpQuiet_nil ?_
        intro _ hw'
        obtain ⟨x, rfl⟩ := hw'
        go_wp2_with fail
        go_returns
        first | exact ⟨p, (by rw [HE.out]; first | done | rfl), x.below⟩ | exact ⟨⟨p, (by rw [HE.out]; first | done | rfl)⟩, x.below⟩
      · have hd : decide (p ≤ q) = false := decide_eq_false hpq
        have HE := hideP (HX.out hpq)
        go_wp2_with fail
        refine wp_region_later (W := w) y.below (by kernel_rfl) (by kernel_rfl) ?_
        repeat (go_big_quiet_step (fail))
        refine wpQuiet_nil ?_
        intro _ hw'
        obtain ⟨x, rfl⟩ := hw'
        go_wp2
        exact ⟨⟨k + 1, by go_num, by omega, HE.out, x, rfl⟩, by simp [intOf]; omega⟩
    · have hlt' : ¬ ((k : Int) + 1 < (N : Int)) := by omega
      have HS : Hid (R = false) := by
        unfold Hid
        rw [HRr.out]
        exact shared_no (fun ⟨i, h1, h2, h3⟩ => HJ.out i h1 (by rw [← HN.out] at h2; omega) (by rw [HN.out]; exact h2) h3)
      clear HJ
      go_wp2
      go_returns
      first | exact ⟨0, (by rw [HS.out]; first | done | rfl), y.below⟩ | exact ⟨⟨0, (by rw [HS.out]; first | done | rfl)⟩, y.below⟩
def bareB (f t : Int) (L : List Seg) : Bool := if t < f then false else bareI t L f
theorem bareB_same {f t : Int} {l : List Seg} : bareB f t (fullS l) = bareS t (fullS l) f := by
  unfold bareB
  by_cases h : t < f
  · rw [if_pos h, bareS_no (by omega)]
  · rw [if_neg h]
    exact bare_same _ _ (full_days l) (by omega)
set_option maxRecDepth 100000 in
set_option maxHeartbeats 2000000 in
theorem implBare (f t : Int) (v : Value) (L : List Seg) (w : World) (h : IRow segK w v L) (hl : L.length ≤ 1048576) (ht : t ≤ 9223372036854775807) (hw : ∀ s ∈ L, -9223372036854775808 ≤ s.to) : Calls Tryz.prog 190 #[.int .i64 f, .int .i64 t, v] w fun e w' => ∃ d : Int, e = .returned (.tuple #[.int .i64 d, .bool (bareB f t L)]) ∧ Below w.heap.size w w' := by
  obtain ⟨ad, c, rfl, hc, hcm, H⟩ := h
  have HR := hideP H
  unfold maxLen at hcm
  have HW : Hid (∀ k, k < L.length → -9223372036854775808 ≤ (sgA L k).to) := fun k hk => by rw [sgA_eq hk]; exact hw _ (List.getElem_mem hk)
  obtain ⟨N, hN⟩ : ∃ N, N = L.length := ⟨_, rfl⟩
  have HN := hideP hN
  rw [← hN] at hl hc ⊢
  obtain ⟨R, hR⟩ : ∃ R, R = bareB f t L := ⟨_, rfl⟩
  have HRr := hideP hR
  rw [← hR]
  clear H hN hR hw
  by_cases hft : t < f
  · have HE : Hid (R = false) := by unfold Hid; rw [HRr.out, bareB, if_pos hft]
    have hd : decide (t < f) = true := decide_eq_true hft
    go_enter Tryz.func190, Tryz.ntmps190
    go_wp2
    go_returns
    first | exact ⟨0, (by rw [HE.out]; first | done | rfl), Below.refl _ _⟩ | exact ⟨⟨0, (by rw [HE.out]; first | done | rfl)⟩, Below.refl _ _⟩
  have hd : decide (t < f) = false := decide_eq_false hft
  have HRI : Hid (R = bareI t L f) := by unfold Hid; rw [HRr.out, bareB, if_neg hft]
  go_enter Tryz.func190, Tryz.ntmps190
  go_wp2
  go_loopw [8, 17] (fun n i wr => ∃ (k : Nat) (z : Int), k ≤ N ∧ i = .int .i64 (k : Int) ∧ n = .int .i64 z ∧ Hid (bareI t (L.drop k) z = R) ∧ Below w.heap.size w wr) (fun _ i _ => N - (intOf i).toNat)
  case atStart => exact ⟨0, f, Nat.zero_le _, rfl, rfl, HRI.out.symm, Below.refl _ _⟩
  case round =>
    obtain ⟨k, z, hk, rfl, rfl, HF, hB⟩ := hrel
    have HB := hideP hB
    clear hB
    by_cases hlt : k < N
    · obtain ⟨g, rfl, hg, x⟩ := HR.out k (by rw [← HN.out]; exact hlt)
      obtain ⟨c0, c1, c2, c3, c4⟩ := (x.below HB.out hg).seg
      have HA := hideP (bareI_at (to := t) (n := z) (L := L) (k := k) (by rw [← HN.out]; exact hlt))
      have hs0 := HW.out k (by rw [← HN.out]; exact hlt)
      rw [show atK segK L k = sgA L k from rfl] at c0 c1 c2 c3 c4
      clear x
      generalize sgA L k = s at *
      by_cases h1 : z < s.fr
      · have HE : Hid (R = true) := by unfold Hid; rw [← HF.out, HA.out, if_pos h1]
        have hd1 : decide (z < s.fr) = true := decide_eq_true h1
        go_wp2
        go_returns
        first | exact ⟨z, (by rw [HE.out]; first | done | rfl), HB.out.alloc HB.out.size _⟩ | exact ⟨⟨z, (by rw [HE.out]; first | done | rfl)⟩, HB.out.alloc HB.out.size _⟩
      have hd1 : decide (z < s.fr) = false := decide_eq_false h1
      by_cases h2 : t ≤ s.to
      · have HE : Hid (R = false) := by unfold Hid; rw [← HF.out, HA.out, if_neg h1, if_pos h2]
        have hd2 : decide (t ≤ s.to) = true := decide_eq_true h2
        go_wp2
        go_returns
        first | exact ⟨0, (by rw [HE.out]; first | done | rfl), HB.out.alloc HB.out.size _⟩ | exact ⟨⟨0, (by rw [HE.out]; first | done | rfl)⟩, HB.out.alloc HB.out.size _⟩
      have hd2 : decide (t ≤ s.to) = false := decide_eq_false h2
      have HE : Hid (bareI t (L.drop (k + 1)) (max z (s.to + 1)) = R) := by unfold Hid; rw [← HF.out, HA.out, if_neg h1, if_neg h2]
      go_wp2
      exact ⟨⟨k + 1, max z (s.to + 1), by omega, by go_num, by first | rfl | go_num | (congr 1; omega), HE.out, HB.out.alloc HB.out.size _⟩, by simp [intOf]; omega⟩
    · have HE : Hid (R = true) := by unfold Hid; rw [← HF.out]; exact bareI_end (by rw [← HN.out]; omega)
      go_wp2
      go_returns
      first | exact ⟨z, (by rw [HE.out]; first | done | rfl), HB.out⟩ | exact ⟨⟨z, (by rw [HE.out]; first | done | rfl)⟩, HB.out⟩
end Go.Proofs.YtdgolaaheakfoaaGreatDoor.ctr
