/- Contract of slices.DeleteFunc at segments without a day: the others move up, in order. Contracts of the program's firstShared and firstBare: whether two segments share a day, whether a day is bare. errors.As at an error of the program's own type, held in an interface by value, and a variable of that type: true, and the variable holds it; at no error: false. errors.As, the hit. Contracts of the program's checkTiles and Tiles. Contracts of the model's l09Full and Tiles. What a tied card's proof wants of the listed handle errors.errorType. What a tied card's proof wants of listed variables: two or three of them are so many data; the one row of the type that errors.New makes; the listed sentinel. Contracts of the code's segsOk, patchesOk, patchOk, ruleOk. Contracts of the model's l09Segs and l09Patches. Contracts of both RegimeOk: they answer one plain function. -/
import Derived.Test.YtaakgidndjoocaaGreatDoorHeapA
import Derived.Test.YtaakgidndjoocaaGreatDoorTilPlainM
import Derived.Lib.SliceRun
import Derived.Test.YtaakgidndjoocaaGreatDoorBlkKitM
import Derived.WalkKit
import Derived.LaidEql
import Derived.Stop.Asserts
import Derived.RowKitTokens
import Derived.Test.YtaakgidndjoocaaGreatDoorSrtSpecM
import Derived.LaidLaws
import Derived.LaidHandle
import Derived.Test.YtaakgidndjoocaaGreatDoorVarsKitM
import Derived.Test.YtaakgidndjoocaaGreatDoorRgnIsM
import Derived.Stop.LaidErr
import Derived.Test.YtaakgidndjoocaaGreatDoorRokPlainM
namespace Go.Proofs.YtaakgidndjoocaaGreatDoor.ctr
open Go.RowKit

theorem setCells_blk : ∀ (vs : List Value) (w : World) (b o : Nat) (cur : Array Value) (T : TypeId), Blk w b cur T → ∃ cur', Blk (w.setCells b o vs) b cur' T ∧ cur'.size = cur.size ∧ ∀ q, q < o → cur'[q]? = cur[q]?
  | [], _, _, _, cur, _, h => ⟨cur, h, rfl, fun _ _ => rfl⟩
  | v :: r, w, b, o, cur, T, h => by
    obtain ⟨cur', h1, h2, h3⟩ := setCells_blk r (w.setCell ⟨b, o, none⟩ v) b (o + 1) _ T (h.set o v)
    refine ⟨cur', h1, by rw [h2]; simp, fun q hq => ?_⟩
    rw [h3 q (by omega), Array.getElem?_setIfInBounds_ne (by omega)]
theorem setCells_grown : ∀ (vs : List Value) (w : World) (b o : Nat), w.grownBy (w.setCells b o vs) (some b)
  | [], _, _, _ => ⟨rfl, rfl, rfl, Nat.le_refl _, fun _ _ _ => rfl⟩
  | v :: r, w, b, o => by
    have h1 : w.grownBy (w.setCell ⟨b, o, none⟩ v) (some b) := ⟨rfl, rfl, rfl, by rw [World.size_setCell]; exact Nat.le_refl _, fun k _ hk => Below.heap_setCell w _ _ k (by intro e; apply hk; rw [e])⟩
    exact grown_two h1 (setCells_grown r _ b (o + 1))
theorem clear_segs (w : World) (b o n c : Nat) (ty : TypeId) (hn : 0 < n) (hc : ∀ j, j < n * 5 → (w.cell? ⟨b, o + j, none⟩).isSome = true) (hf : ∀ j, j < n * 5 → w.frozen? ⟨b, o + j, none⟩ = false) :
    (Builtin.clear_ #[32] ty #[.slice (some ⟨b, o, none⟩) n c]).run Tryz.prog w = .ok (.tuple #[]) (w.setCells b o (Builtin.zeroCells #[.int .i64 0, .int .i64 0, .int .i64 0, .int .i64 0, .int .i64 0] n).toList) := by
  have hl : (Builtin.zeroCells #[.int .i64 0, .int .i64 0, .int .i64 0, .int .i64 0, .int .i64 0] n).toList.length = n * 5 := by simp [Builtin.zeroCells]
  have hone : ∀ v ∈ (Builtin.zeroCells #[.int .i64 0, .int .i64 0, .int .i64 0, .int .i64 0, .int .i64 0] n).toList, v.oneCell' = true := by
    intro v hv
    simp only [Builtin.zeroCells, Array.toList_map, List.mem_map] at hv
    obtain ⟨i, _, rfl⟩ := hv
    have h5 : i % 5 < 5 := Nat.mod_lt _ (by omega)
    show (#[Value.int .i64 0, .int .i64 0, .int .i64 0, .int .i64 0, .int .i64 0][i % 5]!).oneCell' = true
    rcases (show i % 5 = 0 ∨ i % 5 = 1 ∨ i % 5 = 2 ∨ i % 5 = 3 ∨ i % 5 = 4 by omega) with e | e | e | e | e <;> rw [e] <;> rfl
  have hst := run_storeCells_cells (P := Tryz.prog) b o (Builtin.zeroCells #[.int .i64 0, .int .i64 0, .int .i64 0, .int .i64 0, .int .i64 0] n).toList 0 w (by rw [hl]; simpa using hc) (by rw [hl]; simpa using hf) hone
  simp only [Nat.add_zero] at hst
  obtain ⟨m, rfl⟩ : ∃ m, n = m + 1 := ⟨n - 1, by omega⟩
  simp [Builtin.clear_, run_underlying Tryz.underlying32, Value.cells, hst]
theorem implNoDay (s : Seg) (w : World) : Calls Tryz.prog 253 #[.agg #[.int .i64 s.fr, .int .i64 s.to, .int .i64 s.cal, .int .i64 s.sty, .int .i64 s.off]] w fun e w' => e = .returned (.bool (!hasDayB s)) ∧ Below w.heap.size w w' := by
  unfold hasDayB
  by_cases h : s.fr ≤ s.to
  · have hd : decide (s.to < s.fr) = false := by simp; omega
    rw [decide_eq_true h]
    go_enter Tryz.func253, Tryz.ntmps253
    go_wp2
    go_ret
    exact ⟨rfl, (Below.refl _ _).alloc (Nat.le_refl _) _⟩
  · have hd : decide (s.to < s.fr) = true := by simp; omega
    rw [decide_eq_false h]
    go_enter Tryz.func253, Tryz.ntmps253
    go_wp2
    go_ret
    exact ⟨rfl, (Below.refl _ _).alloc (Nat.le_refl _) _⟩
set_option maxHeartbeats 1000000 in
theorem indexDel (v : Value) (l : List Seg) (w : World) (h : IRow segK w v l) : Calls Tryz.prog 276 #[v, .func (.func 253) #[] #[]] w fun e w' => e = .returned (.int .i64 (ifind (fun s => !hasDayB s) l)) ∧ Below w.heap.size w w' := by
  obtain ⟨a, c, rfl, hl, hm, H⟩ := h
  have HK := hideP H
  unfold maxLen at hm
  clear H
  go_enter Tryz.func276, Tryz.ntmps276
  go_wp2
  go_loopw [8] (fun i wr => ∃ k : Nat, k ≤ l.length ∧ i = .int .i64 (k : Int) ∧ Hid (ifFrom (fun s => !hasDayB s) (l.drop k) k = ifind (fun s => !hasDayB s) l) ∧ Below w.heap.size w wr) (fun i _ => l.length - (intOf i).toNat)
  case atStart => exact ⟨0, Nat.zero_le _, rfl, rfl, Below.refl _ _⟩
  case round =>
    obtain ⟨k, hk, rfl, HF, hB⟩ := hrel
    have HB := hideP hB
    clear hB
    by_cases hlt : k < l.length
    · obtain ⟨g, rfl, hg, x⟩ := HK.out k hlt
      obtain ⟨c0, c1, c2, c3, c4⟩ := (x.below HB.out hg).seg
      have K1 := hideP (fun h => if_hit (K := segK) (p := fun s => !hasDayB s) hlt h HF.out)
      have K2 := hideP (fun h => if_miss (K := segK) (p := fun s => !hasDayB s) hlt h HF.out)
      have KD := hideP (implNoDay (atK segK l k) wr)
      clear x
      generalize atK segK l k = r at *
      go_wp2_with fail
      refine KD.out.mono ?_
      rintro e w1 ⟨rfl, hb⟩
      have HB1 : Hid (Below w.heap.size w w1) := HB.out.trans (hb.mono HB.out.size)
      clear hb c0 c1 c2 c3 c4
      cases hq : hasDayB r
      · have HN := hideP (K1.out (by simp [hq]))
        go_wp2
        go_ret
        exact ⟨ret_int HN.out.symm, HB1.out⟩
      · have HN := hideP (K2.out (by simp [hq]))
        go_wp2
        exact ⟨⟨k + 1, by omega, by go_num, HN.out, HB1.out⟩, by simp [intOf]; omega⟩
    · have HN := hideP (if_end (by omega) HF.out)
      go_wp2
      go_ret
      exact ⟨ret_int HN.out.symm, HB.out⟩
theorem if_cases (p : Seg → Bool) (l : List Seg) : (ifind p l = -1 ∧ ∀ k, k < l.length → p (sgA l k) = false) ∨ ∃ k, k < l.length ∧ ifind p l = (k : Int) ∧ p (sgA l k) = true ∧ ∀ j, j < k → p (sgA l j) = false := by
  have go : ∀ n k, n + k = l.length → (∀ j, j < k → p (sgA l j) = false) → (ifFrom p (l.drop k) k = -1 ∧ ∀ j, j < l.length → p (sgA l j) = false) ∨ ∃ q, q < l.length ∧ ifFrom p (l.drop k) k = (q : Int) ∧ p (sgA l q) = true ∧ ∀ j, j < q → p (sgA l j) = false := by
    intro n
    induction n with
    | zero => intro k hk hj; exact .inl ⟨by rw [List.drop_of_length_le (by omega)]; rfl, fun j h => hj j (by omega)⟩
    | succ n ih =>
      intro k hk hj
      have hlt : k < l.length := by omega
      cases hp : p (sgA l k)
      · have e := if_miss (K := segK) hlt hp (R := _) rfl
        rw [← e]
        exact ih (k + 1) (by omega) (fun j h => by
          by_cases q : j = k
          · subst q; exact hp
          · exact hj j (by omega))
      · exact .inr ⟨k, hlt, if_hit (K := segK) hlt hp rfl, hp, hj⟩
  exact go l.length 0 (by omega) (fun j h => by omega)
theorem filter_all {p : Seg → Bool} {L : List Seg} : ∀ k, k ≤ L.length → (∀ j, j < k → p (sgA L j) = true) → (L.take k).filter p = L.take k
  | 0, _, _ => by simp
  | k + 1, hk, h => by
    rw [filter_snoc (by omega), filter_all k (by omega) (fun j hj => h j (by omega)), if_pos (h k (by omega)), sgA_eq (show k < L.length by omega), ← List.take_succ_eq_append_getElem (show k < L.length by omega)]
structure Del1 (w : World) (g cap : Nat) (L : List Seg) (i j : Nat) (M : List Seg) (wr : World) : Prop where
  row : PRow segK 88 wr g cap M
  len : M.length = L.length
  pre : M.take i = (L.take j).filter hasDayB
  suf : M.drop j = L.drop j
  ij : i < j
  grown : w.grownBy wr (some g)
theorem Del1.at {w : World} {g cap : Nat} {L : List Seg} {i j : Nat} {M : List Seg} {wr : World} (h : Del1 w g cap L i j M wr) (hj : j < L.length) : sgA M j = sgA L j := by
  have := congrArg (fun l => l.head?) h.suf
  simp only [List.head?_drop] at this
  rw [sgA_eq hj, sgA_eq (by rw [h.len]; exact hj)]
  rw [List.getElem?_eq_getElem hj, List.getElem?_eq_getElem (by rw [h.len]; exact hj)] at this
  exact Option.some.inj this
theorem drop_next {M L : List Seg} {j : Nat} (h : M.drop j = L.drop j) : M.drop (j + 1) = L.drop (j + 1) := by
  have := congrArg (List.drop 1) h
  simpa [List.drop_drop, Nat.add_comm] using this
theorem grown_below {w wr w1 : World} {g : Nat} (h : w.grownBy wr (some g)) (hb : Below wr.heap.size wr w1) : w.grownBy w1 (some g) := ⟨hb.os.trans h.os, hb.tape.trans h.tape, hb.output.trans h.output, Nat.le_trans h.size hb.size, fun k hk hn => (hb.block k (Nat.lt_of_lt_of_le hk h.size)).trans (h.block k hk hn)⟩
theorem Del1.skip {w : World} {g cap : Nat} {L : List Seg} {i j : Nat} {M : List Seg} {wr w1 : World} (h : Del1 w g cap L i j M wr) (hj : j < L.length) (hd : hasDayB (sgA L j) = false) (hb : Below wr.heap.size wr w1) : Del1 w g cap L i (j + 1) M w1 := by
  refine ⟨h.row.below hb h.row.lt, h.len, ?_, drop_next h.suf, by have := h.ij; omega, grown_below h.grown hb⟩
  rw [filter_snoc hj, hd, h.pre]
  simp
theorem Del1.keep {w : World} {g cap : Nat} {L : List Seg} {i j : Nat} {M : List Seg} {wr w1 : World} (h : Del1 w g cap L i j M wr) (hj : j < L.length) (hd : hasDayB (sgA L j) = true) (hb : Below wr.heap.size wr w1) : Del1 w g cap L (i + 1) (j + 1) (M.set i (sgA L j)) (putI w1 g (i * 5) 0 (segK.iv (sgA L j))) := by
  have hij := h.ij
  have hlen := h.len
  refine ⟨(h.row.below hb h.row.lt).put (by omega) (sgA L j), by simpa using h.len, ?_, ?_, by omega, grown_two (grown_below h.grown hb) (putI_grown _ _ _ _ _)⟩
  · rw [filter_snoc hj, hd, ← h.pre, if_pos rfl, List.take_succ_eq_append_getElem (by simp; omega)]
    rw [List.take_set, List.set_eq_of_length_le (by simp; omega)]
    simp
  · rw [List.drop_set, if_pos (by omega)]
    exact drop_next h.suf
theorem put_seg (w : World) (g i : Nat) (s : Seg) : ((((w.setCell ⟨g, i * 5, none⟩ (.int .i64 s.fr)).setCell ⟨g, i * 5 + 1, none⟩ (.int .i64 s.to)).setCell ⟨g, i * 5 + 2, none⟩ (.int .i64 s.cal)).setCell ⟨g, i * 5 + 3, none⟩ (.int .i64 s.sty)).setCell ⟨g, i * 5 + 4, none⟩ (.int .i64 s.off) = putI w g (i * 5) 0 (segK.iv s) := rfl
/-- What DeleteFunc leaves. -/
def DelOut (w : World) (g cap : Nat) (L : List Seg) (o : Value) (w' : World) : Prop := o = .slice (some ⟨g, 0, none⟩) (L.filter hasDayB).length cap ∧ PRow segK 88 w' g cap (L.filter hasDayB) ∧ w.grownBy w' (some g)
theorem Del1.done {w : World} {g cap : Nat} {L : List Seg} {i : Nat} {M : List Seg} {wr : World} (h : Del1 w g cap L i L.length M wr) (vs : List Value) : DelOut w g cap L (.slice (some ⟨g, 0, none⟩) i cap) (wr.setCells g (i * 5) vs) := by
  have hp := h.pre
  rw [List.take_length] at hp
  have hij := h.ij
  have hlen := h.len
  have hl : (L.filter hasDayB).length = i := by rw [← hp]; simp; omega
  obtain ⟨cur, hB, hs, h1, h2, hC⟩ := h.row
  obtain ⟨cur', b1, b2, b3⟩ := setCells_blk vs wr g (i * 5) cur _ hB
  refine ⟨by rw [hl], ⟨cur', b1, by rw [b2, hs], by omega, h2, fun k hk j z e => ?_⟩, grown_two h.grown (setCells_grown _ _ _ _)⟩
  rw [hl] at hk
  have hj : j < 5 := by have := (List.getElem?_eq_some_iff.1 e).1; rw [segK.len] at this; exact this
  rw [show k * segK.m + j = k * 5 + j from rfl, b3 _ (by omega)]
  refine hC k (by omega) j z ?_
  have : atK segK (L.filter hasDayB) k = atK segK M k := by rw [← hp]; simp [atK, List.getD, hk]
  rw [← this]
  exact e
set_option maxRecDepth 100000 in
set_option maxHeartbeats 4000000 in
theorem deleteDel (g cap : Nat) (L : List Seg) (w : World) (hP : PRow segK 88 w g cap L) : Calls Tryz.prog 251 #[.slice (some ⟨g, 0, none⟩) L.length cap, .func (.func 253) #[] #[]] w fun e w' => ∃ o, e = .returned o ∧ DelOut w g cap L o w' := by
  have KI := indexDel _ L w hP.row
  have hcap : L.length ≤ cap := by obtain ⟨_, _, _, q, _⟩ := hP; exact q
  have hcm : cap ≤ maxLen := by obtain ⟨_, _, _, _, q, _⟩ := hP; exact q
  unfold maxLen at hcm
  have HP := hideP hP
  clear hP
  rcases if_cases (fun s => !hasDayB s) L with ⟨e, hall⟩ | ⟨k, hk, e, hk1, hk2⟩
  · rw [e] at KI
    have HK := hideP KI
    have HF : Hid (L.filter hasDayB = L) := by
      have := filter_all (p := hasDayB) (L := L) L.length (Nat.le_refl _) (fun j hj => by have := hall j hj; simpa using this)
      rw [List.take_length] at this
      exact this
    clear KI e hall
    go_enter Tryz.func251, Tryz.ntmps251
    go_wp2_with fail
    refine HK.out.mono ?_
    rintro e w1 ⟨rfl, hb⟩
    have HO : Hid (DelOut w g cap L (.slice (some ⟨g, 0, none⟩) L.length cap) w1) := ⟨by rw [HF.out], by rw [HF.out]; exact HP.out.below hb HP.out.lt, grown_below ⟨rfl, rfl, rfl, Nat.le_refl _, fun _ _ _ => rfl⟩ hb⟩
    clear hb
    go_wp2
    go_ret
    exact ⟨_, rfl, HO.out⟩
  · rw [e] at KI
    have HK := hideP KI
    have HD : Hid (∀ w1, Below w.heap.size w w1 → Del1 w g cap L k (k + 1) L w1) := fun w1 hb => by
      refine ⟨HP.out.below hb HP.out.lt, rfl, ?_, rfl, by omega, grown_below ⟨rfl, rfl, rfl, Nat.le_refl _, fun _ _ _ => rfl⟩ hb⟩
      rw [filter_snoc hk, show hasDayB (sgA L k) = false by simpa using hk1, filter_all k (by omega) (fun j hj => by have := hk2 j hj; simpa using this)]
      simp
    clear KI e hk1 hk2
    go_enter Tryz.func251, Tryz.ntmps251
    go_wp2_with fail
    refine HK.out.mono ?_
    rintro e w1 ⟨rfl, hb⟩
    have D1 := hideP (HD.out w1 hb)
    clear hb HD
    go_wp2
    go_loopw [5, 6] (fun p q wr => ∃ (i j : Nat) (M : List Seg), i < j ∧ j ≤ L.length ∧ p = .int .i64 (i : Int) ∧ q = .int .i64 (j : Int) ∧ Del1 w g cap L i j M wr) (fun _ q _ => L.length - (intOf q).toNat)
    case atStart => exact ⟨k, k + 1, L, by omega, by omega, rfl, by go_num, D1.out⟩
    case round =>
      obtain ⟨i, j, M, hij, hj, rfl, rfl, hD⟩ := hrel
      have H := hideP hD
      clear hD D1
      by_cases hlt : j < L.length
      · have hrow := H.out.row.at (k := j) (by rw [H.out.len]; exact hlt)
        rw [show atK segK M j = sgA L j from H.out.at hlt] at hrow
        obtain ⟨c0, c1, c2, c3, c4⟩ := hrow.seg
        have hgl := H.out.row.lt
        have HK1 := hideP (implNoDay (sgA L j))
        have HSk : Hid (∀ w1, Below wr.heap.size wr w1 → hasDayB (sgA L j) = false → Del1 w g cap L i (j + 1) M w1) := fun w1 hb hd => H.out.skip hlt hd hb
        have HKp : Hid (∀ w1, Below wr.heap.size wr w1 → hasDayB (sgA L j) = true → Del1 w g cap L (i + 1) (j + 1) (M.set i (sgA L j)) (putI w1 g (i * 5) 0 (segK.iv (sgA L j)))) := fun w1 hb hd => H.out.keep hlt hd hb
        have HO : Hid (∀ w1, Below wr.heap.size wr w1 → ∀ q, q < 5 → (∃ u, w1.cell? ⟨g, i * 5 + q, none⟩ = some u) ∧ w1.frozen? ⟨g, i * 5 + q, none⟩ = false) := fun w1 hb q hq => by
          obtain ⟨cur, hB, hs, h1, _⟩ := H.out.row
          have hB' := hB.below hb hB.lt
          have h5 : (i + 1) * 5 ≤ cap * 5 := Nat.mul_le_mul_right _ (by rw [H.out.len] at h1; omega)
          have h6 : cur.size = cap * 5 := hs
          exact ⟨⟨cur[i * 5 + q]'(by omega), hB'.cell _ (by simp)⟩, hB'.thaw _⟩
        clear hrow
        generalize sgA L j = r at *
        obtain ⟨W1, hW1⟩ : ∃ W1, W1 = wr.alloc (.cells #[.int .i64 r.fr, .int .i64 r.to, .int .i64 r.cal, .int .i64 r.sty, .int .i64 r.off] 88) := ⟨_, rfl⟩
        have HB1 : Hid (Below wr.heap.size wr W1) := by unfold Hid; rw [hW1]; exact (Below.refl _ _).alloc (Nat.le_refl _) _
        have q0 : ∀ x : Later W1, x.w.cell? ⟨wr.heap.size, 0, none⟩ = some (.int .i64 r.fr) := Later.new hW1 0 rfl
        have q1 : ∀ x : Later W1, x.w.cell? ⟨wr.heap.size, 1, none⟩ = some (.int .i64 r.to) := Later.new hW1 1 rfl
        have q2 : ∀ x : Later W1, x.w.cell? ⟨wr.heap.size, 2, none⟩ = some (.int .i64 r.cal) := Later.new hW1 2 rfl
        have q3 : ∀ x : Later W1, x.w.cell? ⟨wr.heap.size, 3, none⟩ = some (.int .i64 r.sty) := Later.new hW1 3 rfl
        have q4 : ∀ x : Later W1, x.w.cell? ⟨wr.heap.size, 4, none⟩ = some (.int .i64 r.off) := Later.new hW1 4 rfl
        have HW1 := hideP hW1
        clear hW1
        go_wp2_with fail
        rw [← HW1.out]
        refine (HK1.out _).mono ?_
        rintro e w2 ⟨rfl, hb⟩
        obtain ⟨x2, rfl⟩ := Later.of hb
        have HB2 : Hid (Below wr.heap.size wr x2.w) := HB1.out.trans (hb.mono HB1.out.size)
        clear hb c0 c1 c2 c3 c4
        cases hd : hasDayB r
        · have HN := hideP (HSk.out x2.w HB2.out hd)
          go_wp2
          exact ⟨⟨_, _, _, _, _, _, _, _, _, _, _, _, _, _, _, _, _, _, _, _, _, _, _, ⟨i, j + 1, M, by omega, by omega, rfl, rfl, HN.out⟩, rfl⟩, by simp [intOf]; omega⟩
        · have HN := hideP (HKp.out x2.w HB2.out hd)
          obtain ⟨⟨u0, p0⟩, f0⟩ := HO.out x2.w HB2.out 0 (by omega)
          obtain ⟨⟨u1, p1⟩, f1⟩ := HO.out x2.w HB2.out 1 (by omega)
          obtain ⟨⟨u2, p2⟩, f2⟩ := HO.out x2.w HB2.out 2 (by omega)
          obtain ⟨⟨u3, p3⟩, f3⟩ := HO.out x2.w HB2.out 3 (by omega)
          obtain ⟨⟨u4, p4⟩, f4⟩ := HO.out x2.w HB2.out 4 (by omega)
          rw [Nat.add_zero] at p0 f0
          go_wp2
          rw [put_seg]
          exact ⟨⟨_, _, _, _, _, _, _, _, _, _, _, _, _, _, _, _, _, _, _, _, _, _, _, ⟨i + 1, j + 1, M.set i r, by omega, by omega, rfl, rfl, HN.out⟩, rfl⟩, by simp [intOf]; omega⟩
      · obtain rfl : j = L.length := by omega
        have hci : ¬ cap = i := by omega
        have hcl := fun ty => clear_segs wr g (i * 5) (L.length - i) (cap - i) ty (by omega) (fun q hq => by
          obtain ⟨cur, hB, hs, h1, _⟩ := H.out.row
          have h5 : L.length * 5 ≤ cap * 5 := Nat.mul_le_mul_right _ (by rw [H.out.len] at h1; omega)
          have h6 : cur.size = cap * 5 := hs
          rw [hB.cell (i * 5 + q) (v := cur[i * 5 + q]'(by omega)) (by simp)]
          rfl) (fun q hq => by obtain ⟨cur, hB, _⟩ := H.out.row; exact hB.thaw _)
        have HN := hideP (H.out.done (Builtin.zeroCells #[.int .i64 0, .int .i64 0, .int .i64 0, .int .i64 0, .int .i64 0] (L.length - i)).toList)
        generalize (Builtin.zeroCells #[.int .i64 0, .int .i64 0, .int .i64 0, .int .i64 0, .int .i64 0] (L.length - i)).toList = vs at *
        go_wp2
        go_ret
        exact ⟨_, rfl, HN.out⟩
end Go.Proofs.YtaakgidndjoocaaGreatDoor.ctr

namespace Go.Proofs.YtaakgidndjoocaaGreatDoor.ctr
open Go.RowKit

set_option maxRecDepth 100000 in
set_option maxHeartbeats 2000000 in
theorem implShared (v : Value) (L : List Seg) (w : World) (h : IRow segK w v L) (hl : L.length ≤ 1048576) : Calls Tryz.prog 254 #[v] w fun e w' => ∃ d : Int, e = .returned (.tuple #[.int .i64 d, .bool (sharedB L)]) ∧ Below w.heap.size w w' := by
  obtain ⟨ad, c, rfl, hc, hcm, H⟩ := h
  have HR := hideP H
  unfold maxLen at hcm
  obtain ⟨N, hN⟩ : ∃ N, N = L.length := ⟨_, rfl⟩
  have HN := hideP hN
  rw [← hN] at hl hc ⊢
  obtain ⟨R, hR⟩ : ∃ R, R = sharedB L := ⟨_, rfl⟩
  have HRr := hideP hR
  rw [← hR]
  clear H hN hR
  go_enter Tryz.func254, Tryz.ntmps254
  go_wp2
  go_loopw [4] (fun i wr => ∃ k : Nat, i = .int .i64 ((k : Int) + 1) ∧ k ≤ N ∧ Hid (NoSh L N k) ∧ ∃ y : Later w, wr = y.w) (fun i _ => N + 1 - (intOf i).toNat)
  case atStart => exact ⟨0, rfl, Nat.zero_le _, fun j h1 h2 => by omega, ⟨w, Below.refl _ _⟩, rfl⟩
  case round =>
    obtain ⟨k, rfl, hk, HJ, y, rfl⟩ := hrel
    by_cases hlt : k + 1 < N
    · obtain ⟨g, rfl, hg, x1⟩ := HR.out (k + 1) (by rw [← HN.out]; exact hlt)
      obtain ⟨g', eg, _, x0⟩ := HR.out k (by rw [← HN.out]; omega)
      cases eg
      have hlt' : (k : Int) + 1 < (N : Int) := by omega
      have e1 : (k : Int) + 1 - 1 = (k : Int) := by omega
      have a0 : ∀ y : Later w, y.w.cell? ⟨g, (k + 1) * 5, none⟩ = some (.int .i64 (sgA L (k + 1)).fr) := fun y => (x1.below y.below hg).seg.1
      have a1 : ∀ y : Later w, y.w.cell? ⟨g, k * 5 + 1, none⟩ = some (.int .i64 (sgA L k).to) := fun y => (x0.below y.below hg).seg.2.1
      have HY : Hid ((sgA L (k + 1)).fr ≤ (sgA L k).to → R = true) := fun q => by rw [HRr.out]; exact shared_yes ⟨k + 1, by omega, by rw [← HN.out]; exact hlt, q⟩
      have HX : Hid (¬ (sgA L (k + 1)).fr ≤ (sgA L k).to → NoSh L N (k + 1)) := fun q j h1 h2 h3 => by
        by_cases e : j = k + 1
        · subst e; exact q
        · exact HJ.out j h1 (by omega) h3
      clear HJ x0 x1
      generalize (sgA L (k + 1)).fr = p at *
      generalize (sgA L k).to = q at *
      by_cases hpq : p ≤ q
      · have hd : decide (p ≤ q) = true := decide_eq_true hpq
        have HE := hideP (HY.out hpq)
        go_wp2_with fail
        refine wp_region_later (W := w) y.below (by kernel_rfl) (by kernel_rfl) ?_
        repeat (go_big_quiet_step (fail))
        refine wpQuiet_nil ?_
        intro _ hw'
        obtain ⟨x, rfl⟩ := hw'
        go_wp2_with fail
        go_returns
        first | exact ⟨p, (by rw [HE.out]; first | done | rfl), x.below⟩ | exact ⟨⟨p, (by rw [HE.out]; first | done | rfl)⟩, x.below⟩
      · have hd : decide (p ≤ q) = false := decide_eq_false hpq
        have HE := hideP (HX.out hpq)
        go_wp2_with fail
        refine wp_region_later (W := w) y.below (by kernel_rfl) (by kernel_rfl) ?_
        repeat (go_big_quiet_step (fail))
        refine wpQuiet_nil ?_
        intro _ hw'
        obtain ⟨x, rfl⟩ := hw'
        go_wp2
        exact ⟨⟨k + 1, by go_num, by omega, HE.out, x, rfl⟩, by simp [intOf]; omega⟩
    · have hlt' : ¬ ((k : Int) + 1 < (N : Int)) := by omega
      have HS : Hid (R = false) := by
        unfold Hid
        rw [HRr.out]
        exact shared_no (fun ⟨i, h1, h2, h3⟩ => HJ.out i h1 (by rw [← HN.out] at h2; omega) (by rw [HN.out]; exact h2) h3)
      clear HJ
      go_wp2
      go_returns
      first | exact ⟨0, (by rw [HS.out]; first | done | rfl), y.below⟩ | exact ⟨⟨0, (by rw [HS.out]; first | done | rfl)⟩, y.below⟩
/-- As the program looks for it; none where from is above to. -/
def bareB (f t : Int) (L : List Seg) : Bool := if t < f then false else bareI t L f
theorem bareB_same {f t : Int} {l : List Seg} : bareB f t (fullS l) = bareS t (fullS l) f := by
  unfold bareB
  by_cases h : t < f
  · rw [if_pos h, bareS_no (by omega)]
  · rw [if_neg h]
    exact bare_same _ _ (full_days l) (by omega)
theorem max_wrap (a b : Int) : max a b = if a ≤ b then b else a := by omega
set_option maxRecDepth 100000 in
set_option maxHeartbeats 2000000 in
theorem implBare (f t : Int) (v : Value) (L : List Seg) (w : World) (h : IRow segK w v L) (hl : L.length ≤ 1048576) (ht : t ≤ 9223372036854775807) (hw : ∀ s ∈ L, -9223372036854775808 ≤ s.to) : Calls Tryz.prog 255 #[.int .i64 f, .int .i64 t, v] w fun e w' => ∃ d : Int, e = .returned (.tuple #[.int .i64 d, .bool (bareB f t L)]) ∧ Below w.heap.size w w' := by
  obtain ⟨ad, c, rfl, hc, hcm, H⟩ := h
  have HR := hideP H
  unfold maxLen at hcm
  have HW : Hid (∀ k, k < L.length → -9223372036854775808 ≤ (sgA L k).to) := fun k hk => by rw [sgA_eq hk]; exact hw _ (List.getElem_mem hk)
  obtain ⟨N, hN⟩ : ∃ N, N = L.length := ⟨_, rfl⟩
  have HN := hideP hN
  rw [← hN] at hl hc ⊢
  obtain ⟨R, hR⟩ : ∃ R, R = bareB f t L := ⟨_, rfl⟩
  have HRr := hideP hR
  rw [← hR]
  clear H hN hR hw
  by_cases hft : t < f
  · have HE : Hid (R = false) := by unfold Hid; rw [HRr.out, bareB, if_pos hft]
    have hd : decide (t < f) = true := decide_eq_true hft
    go_enter Tryz.func255, Tryz.ntmps255
    go_wp2
    go_returns
    first | exact ⟨0, (by rw [HE.out]; first | done | rfl), Below.refl _ _⟩ | exact ⟨⟨0, (by rw [HE.out]; first | done | rfl)⟩, Below.refl _ _⟩
  have hd : decide (t < f) = false := decide_eq_false hft
  have HRI : Hid (R = bareI t L f) := by unfold Hid; rw [HRr.out, bareB, if_neg hft]
  go_enter Tryz.func255, Tryz.ntmps255
  go_wp2
  go_loopw [8, 17] (fun n i wr => ∃ (k : Nat) (z : Int), k ≤ N ∧ i = .int .i64 (k : Int) ∧ n = .int .i64 z ∧ Hid (bareI t (L.drop k) z = R) ∧ Below w.heap.size w wr) (fun _ i _ => N - (intOf i).toNat)
  case atStart => exact ⟨0, f, Nat.zero_le _, rfl, rfl, HRI.out.symm, Below.refl _ _⟩
  case round =>
    obtain ⟨k, z, hk, rfl, rfl, HF, hB⟩ := hrel
    have HB := hideP hB
    clear hB
    by_cases hlt : k < N
    · obtain ⟨g, rfl, hg, x⟩ := HR.out k (by rw [← HN.out]; exact hlt)
      obtain ⟨c0, c1, c2, c3, c4⟩ := (x.below HB.out hg).seg
      have HA := hideP (bareI_at (to := t) (n := z) (L := L) (k := k) (by rw [← HN.out]; exact hlt))
      have hs0 := HW.out k (by rw [← HN.out]; exact hlt)
      rw [show atK segK L k = sgA L k from rfl] at c0 c1 c2 c3 c4
      clear x
      generalize sgA L k = s at *
      by_cases h1 : z < s.fr
      · have HE : Hid (R = true) := by unfold Hid; rw [← HF.out, HA.out, if_pos h1]
        have hd1 : decide (z < s.fr) = true := decide_eq_true h1
        go_wp2
        go_returns
        first | exact ⟨z, (by rw [HE.out]; first | done | rfl), HB.out.alloc HB.out.size _⟩ | exact ⟨⟨z, (by rw [HE.out]; first | done | rfl)⟩, HB.out.alloc HB.out.size _⟩
      have hd1 : decide (z < s.fr) = false := decide_eq_false h1
      by_cases h2 : t ≤ s.to
      · have HE : Hid (R = false) := by unfold Hid; rw [← HF.out, HA.out, if_neg h1, if_pos h2]
        have hd2 : decide (t ≤ s.to) = true := decide_eq_true h2
        go_wp2
        go_returns
        first | exact ⟨0, (by rw [HE.out]; first | done | rfl), HB.out.alloc HB.out.size _⟩ | exact ⟨⟨0, (by rw [HE.out]; first | done | rfl)⟩, HB.out.alloc HB.out.size _⟩
      have hd2 : decide (t ≤ s.to) = false := decide_eq_false h2
      have HE : Hid (bareI t (L.drop (k + 1)) (max z (s.to + 1)) = R) := by unfold Hid; rw [← HF.out, HA.out, if_neg h1, if_neg h2]
      go_wp2
      exact ⟨⟨k + 1, max z (s.to + 1), by omega, by go_num, by first | rfl | go_num | (congr 1; omega), HE.out, HB.out.alloc HB.out.size _⟩, by simp [intOf]; omega⟩
    · have HE : Hid (R = true) := by unfold Hid; rw [← HF.out]; exact bareI_end (by rw [← HN.out]; omega)
      go_wp2
      go_returns
      first | exact ⟨z, (by rw [HE.out]; first | done | rfl), HB.out⟩ | exact ⟨⟨z, (by rw [HE.out]; first | done | rfl)⟩, HB.out⟩
end Go.Proofs.YtaakgidndjoocaaGreatDoor.ctr

namespace Go.Proofs.YtaakgidndjoocaaGreatDoor.ctr
open Go.RowKit Go.Extern.Stop Go.Stop Go.Extern

theorem as_nil (t : Value) (w : World) : Calls Tryz.prog 198 #[.nilIface, t] w fun e w' => e = .returned (.bool false) ∧ w' = w := by
  go_enter Tryz.func198, Tryz.ntmps198
  go_wp2
  go_ret
  exact ⟨rfl, rfl⟩
theorem a_valueOfP (t : Addr) (w : World) : (ReflectliteValue.unpack (.iface 221 (.pointer (some t)))).run Tryz.prog w
    = .ok (.agg #[.pointer (some ⟨10, 221, none⟩), .pointer (some ⟨w.heap.size, 0, none⟩), .int .u64 150]) (w.alloc (.cells #[.pointer (some t)] 221)) := by kernel_rfl
theorem a_typeP (a : Addr) (w : World) : (ReflectliteValue.methodAny (ReflectliteValue.valueError "reflectlite.Value.Type" 0) (fun t _ _ _ => ReflectliteType.toType t) #[.agg #[.pointer (some ⟨10, 221, none⟩), .pointer (some a), .int .u64 150]]).run Tryz.prog w
    = .ok (.iface 273 (.agg #[.pointer (some ⟨10, 221, none⟩)])) w := by kernel_rfl
theorem a_mKind (h : Value) (w : World) : (Go.method 487 273 (.agg #[h]) "Kind").run Tryz.prog w = .ok (348, h) w := by kernel_rfl
theorem a_kindP (w : World) : ((ReflectliteType.abiMethod fun t => (fun a : Nat => Value.int IntKind.u8 (a : Int)) <$> Rtype.kind t) #[.pointer (some ⟨10, 221, none⟩)]).run Tryz.prog w = .ok (.int .u8 22) w := by kernel_rfl
theorem a_kindS (w : World) : ((ReflectliteType.abiMethod fun t => (fun a : Nat => Value.int IntKind.u8 (a : Int)) <$> Rtype.kind t) #[.pointer (some ⟨10, 218, none⟩)]).run Tryz.prog w = .ok (.int .u8 25) w := by kernel_rfl
theorem a_mElem (h : Value) (w : World) : (Go.method 487 273 (.agg #[h]) "Elem").run Tryz.prog w = .ok (385, .agg #[h]) w := by kernel_rfl
theorem a_mImpl (h : Value) (w : World) : (Go.method 487 273 (.agg #[h]) "Implements").run Tryz.prog w = .ok (386, .agg #[h]) w := by kernel_rfl
theorem a_mAssign (h : Value) (w : World) : (Go.method 487 273 (.agg #[h]) "AssignableTo").run Tryz.prog w = .ok (383, .agg #[h]) w := by kernel_rfl
theorem a_elemT (w : World) : (ReflectliteType.method ReflectliteType.elem #[.agg #[.pointer (some ⟨10, 221, none⟩)]]).run Tryz.prog w = .ok (.iface 273 (.agg #[.pointer (some ⟨10, 218, none⟩)])) w := by kernel_rfl
theorem a_implS (w : World) : (ReflectliteType.relation "Implements" ReflectliteType.implements_ #[.agg #[.pointer (some ⟨10, 218, none⟩)], .iface 273 (.agg #[.pointer (some ⟨10, 174, none⟩)])]).run Tryz.prog w = .ok (.bool true) w := by kernel_rfl
theorem a_typeOfS (v : Value) (w : World) : (ReflectliteType.typeOf #[.iface 218 v]).run Tryz.prog w = .ok (.iface 273 (.agg #[.pointer (some ⟨10, 218, none⟩)])) w := by kernel_rfl
theorem a_assignS (w : World) : (ReflectliteType.relation "AssignableTo" ReflectliteType.assignableTo #[.agg #[.pointer (some ⟨10, 218, none⟩)], .iface 273 (.agg #[.pointer (some ⟨10, 218, none⟩)])]).run Tryz.prog w = .ok (.bool true) w := by kernel_rfl
theorem a_valueOfS (a b : Int) (w : World) : (ReflectliteValue.unpack (.iface 218 (.agg #[.int .i64 a, .int .i64 b]))).run Tryz.prog w
    = .ok (.agg #[.pointer (some ⟨10, 218, none⟩), .pointer (some ⟨w.heap.size, 0, none⟩), .int .u64 153]) (w.alloc (.cells #[.int .i64 a, .int .i64 b] 218)) := by kernel_rfl
theorem a_rlm (z : Sem Value) (f : TypeId → Addr → Nat → Nat → Sem Value) (v : Value) :
    ReflectliteValue.method z f #[v] = (do match ← ReflectliteValue.parts v with | none => z | some (t, a, fl) => f t a fl (fl % 32)) := rfl
theorem a_partsP (a : Addr) (w : World) : (ReflectliteValue.parts (.agg #[.pointer (some ⟨10, 221, none⟩), .pointer (some a), .int .u64 150])).run Tryz.prog w = .ok (some (221, a, 150)) w := by kernel_rfl
theorem a_isNilP (a p : Addr) (W : World) (ha : W.cell? a = some (.pointer (some p))) :
    (ReflectliteValue.method (ReflectliteValue.valueError "reflectlite.Value.IsNil" 0) ReflectliteValue.isNil #[.agg #[.pointer (some ⟨10, 221, none⟩), .pointer (some a), .int .u64 150]]).run Tryz.prog W = .ok (.bool false) W := by
  rw [a_rlm]
  simp only [Sem.run_bind, a_partsP, Result.andThen]
  simp [ReflectliteValue.isNil, loadVar, isAgg, underlying, Tryz.underlying221, ha, Result.andThen]
theorem a_elemOf (w : World) : (Rtype.elem? 221).run Tryz.prog w = .ok (some 218) w := by kernel_rfl
theorem a_mkS (p : Addr) (w : World) : (ReflectliteValue.mk 218 p ReflectliteValue.flagAddr).run Tryz.prog w = .ok (.agg #[.pointer (some ⟨10, 218, none⟩), .pointer (some p), .int .u64 409]) w := by kernel_rfl
theorem a_elemV (a p : Addr) (W : World) (ha : W.cell? a = some (.pointer (some p))) :
    (ReflectliteValue.method (ReflectliteValue.valueError "reflectlite.Value.Elem" 0) ReflectliteValue.elem #[.agg #[.pointer (some ⟨10, 221, none⟩), .pointer (some a), .int .u64 150]]).run Tryz.prog W
      = .ok (.agg #[.pointer (some ⟨10, 218, none⟩), .pointer (some p), .int .u64 409]) W := by
  rw [a_rlm]
  simp only [Sem.run_bind, a_partsP, Result.andThen]
  simp [ReflectliteValue.elem, loadVar, isAgg, underlying, Tryz.underlying221, ha, Result.andThen, a_elemOf, a_mkS]
theorem a_rls (v x : Value) : ReflectliteValue.set #[v, x] = (do
    let (some (dst, a, fl), some (src, b, _)) := (← ReflectliteValue.parts v, ← ReflectliteValue.parts x)
      | unsupported (.noEntry "extern/(internal/reflectlite.Value).Set.zeroValue")
    if fl / ReflectliteValue.flagAddr % 2 == 0 then unsupported (.noEntry "extern/(internal/reflectlite.Value).Set.unaddressable")
    let val ← loadVar src b
    if ← Rtype.directlyAssignable dst src then storeVar dst a val
    else if ← Rtype.implements dst src then
      if (← Rtype.kind src) == 20 then
        match val with
        | .nilIface => unsupported (.noEntry "extern/reflectlite: a nil value of one interface type handed on as a value of another")
        | _ => storeVar dst a val
      else storeVar dst a (.iface src val)
    else panicString ("reflectlite.Set: value of type " ++ (← Rtype.spelt src) ++ " is not assignable to type " ++ (← Rtype.spelt dst))
    pure (.tuple #[])) := rfl
theorem a_partsA (a : Addr) (w : World) : (ReflectliteValue.parts (.agg #[.pointer (some ⟨10, 218, none⟩), .pointer (some a), .int .u64 409])).run Tryz.prog w = .ok (some (218, a, 409)) w := by kernel_rfl
theorem a_partsS (a : Addr) (w : World) : (ReflectliteValue.parts (.agg #[.pointer (some ⟨10, 218, none⟩), .pointer (some a), .int .u64 153])).run Tryz.prog w = .ok (some (218, a, 153)) w := by kernel_rfl
theorem a_direct (w : World) : (Rtype.directlyAssignable 218 218).run Tryz.prog w = .ok true w := by kernel_rfl
end Go.Proofs.YtaakgidndjoocaaGreatDoor.ctr

namespace Go.Proofs.YtaakgidndjoocaaGreatDoor.ctr
open Go.RowKit Go.Extern.Stop Go.Stop Go.Extern

theorem a_loadS (s : Nat) (a b : Int) (W : World) (h0 : W.cell? ⟨s, 0, none⟩ = some (.int .i64 a)) (h1 : W.cell? ⟨s, 1, none⟩ = some (.int .i64 b)) : (loadVar 218 ⟨s, 0, none⟩).run Tryz.prog W = .ok (.agg #[.int .i64 a, .int .i64 b]) W := by
  go_simp
theorem a_storeS (s : Nat) (a b : Int) (W : World) (u0 u1 : Value) (h0 : W.cell? ⟨s, 0, none⟩ = some u0) (h1 : W.cell? ⟨s, 1, none⟩ = some u1) (f0 : W.frozen? ⟨s, 0, none⟩ = false) (f1 : W.frozen? ⟨s, 1, none⟩ = false) : (storeVar 218 ⟨s, 0, none⟩ (.agg #[.int .i64 a, .int .i64 b])).run Tryz.prog W = .ok () ((W.setCell ⟨s, 0, none⟩ (.int .i64 a)).setCell ⟨s, 1, none⟩ (.int .i64 b)) := by
  go_simp
theorem a_set (t s : Nat) (a b : Int) (u0 u1 : Value) (W : World) (h0 : W.cell? ⟨s, 0, none⟩ = some (.int .i64 a)) (h1 : W.cell? ⟨s, 1, none⟩ = some (.int .i64 b)) (g0 : W.cell? ⟨t, 0, none⟩ = some u0) (g1 : W.cell? ⟨t, 1, none⟩ = some u1) (f0 : W.frozen? ⟨t, 0, none⟩ = false) (f1 : W.frozen? ⟨t, 1, none⟩ = false) :
    (ReflectliteValue.set #[.agg #[.pointer (some ⟨10, 218, none⟩), .pointer (some ⟨t, 0, none⟩), .int .u64 409], .agg #[.pointer (some ⟨10, 218, none⟩), .pointer (some ⟨s, 0, none⟩), .int .u64 153]]).run Tryz.prog W
      = .ok (.tuple #[]) ((W.setCell ⟨t, 0, none⟩ (.int .i64 a)).setCell ⟨t, 1, none⟩ (.int .i64 b)) := by
  rw [a_rls]
  simp only [Sem.run_bind, a_partsA, a_partsS, Result.andThen]
  simp [ReflectliteValue.flagAddr, a_loadS s a b W h0 h1, Result.andThen, a_direct, a_storeS t a b W u0 u1 g0 g1 f0 f1]
set_option maxRecDepth 100000 in
set_option maxHeartbeats 4000000 in
theorem as_hit (a b : Int) (t : Nat) (u0 u1 : Value) (w : World) (hg : w.cell? ⟨3, 0, none⟩ = some (.iface 273 (.agg #[.pointer (some ⟨10, 174, none⟩)]))) (ht : Blk w t #[u0, u1] 218) :
    Calls Tryz.prog 198 #[.iface 218 (.agg #[.int .i64 a, .int .i64 b]), .iface 221 (.pointer (some ⟨t, 0, none⟩))] w fun ev w' => ev = .returned (.bool true) ∧ w' = ((((((w.alloc (.cells #[.pointer (some ⟨t, 0, none⟩)] 221)).alloc (.cells #[.pointer (some ⟨10, 221, none⟩), .pointer (some ⟨w.heap.size, 0, none⟩), .int .u64 150] 262)).alloc (.cells #[.pointer (some ⟨10, 221, none⟩), .pointer (some ⟨w.heap.size, 0, none⟩), .int .u64 150] 262)).alloc (.cells #[.int .i64 a, .int .i64 b] 218)).setCell ⟨t, 0, none⟩ (.int .i64 a)).setCell ⟨t, 1, none⟩ (.int .i64 b)) := by
  have h6 := @run_callFunc_extern Tryz.prog 247 _ (fun args => ReflectliteValue.unpack (args.getD 0 (.tuple #[]))) Tryz.func247 (by kernel_rfl) (by kernel_rfl) (by kernel_rfl) (by kernel_rfl)
  have h7 := @run_callFunc_extern Tryz.prog 248 _ (ReflectliteValue.methodAny (ReflectliteValue.valueError "reflectlite.Value.Type" 0) (fun t _ _ _ => ReflectliteType.toType t)) Tryz.func248 (by kernel_rfl) (by kernel_rfl) (by kernel_rfl) (by kernel_rfl)
  have h8 := @run_callFunc_extern Tryz.prog 249 _ (ReflectliteValue.method (ReflectliteValue.valueError "reflectlite.Value.IsNil" 0) ReflectliteValue.isNil) Tryz.func249 (by kernel_rfl) (by kernel_rfl) (by kernel_rfl) (by kernel_rfl)
  have h27 := @run_callFunc_extern Tryz.prog 348 _ (ReflectliteType.abiMethod fun t => do pure (.int .u8 (← Rtype.kind t))) Tryz.func348 (by kernel_rfl) (by kernel_rfl) (by kernel_rfl) (by kernel_rfl)
  have h37 := @run_callFunc_extern Tryz.prog 385 _ (ReflectliteType.method ReflectliteType.elem) Tryz.func385 (by kernel_rfl) (by kernel_rfl) (by kernel_rfl) (by kernel_rfl)
  have h38 := @run_callFunc_extern Tryz.prog 386 _ (ReflectliteType.relation "Implements" ReflectliteType.implements_) Tryz.func386 (by kernel_rfl) (by kernel_rfl) (by kernel_rfl) (by kernel_rfl)
  have h10 := @run_callFunc_extern Tryz.prog 200 _ ReflectliteType.typeOf Tryz.func200 (by kernel_rfl) (by kernel_rfl) (by kernel_rfl) (by kernel_rfl)
  have h35 := @run_callFunc_extern Tryz.prog 383 _ (ReflectliteType.relation "AssignableTo" ReflectliteType.assignableTo) Tryz.func383 (by kernel_rfl) (by kernel_rfl) (by kernel_rfl) (by kernel_rfl)
  have h11 := @run_callFunc_extern Tryz.prog 274 _ (ReflectliteValue.method (ReflectliteValue.valueError "reflectlite.Value.Elem" 0) ReflectliteValue.elem) Tryz.func274 (by kernel_rfl) (by kernel_rfl) (by kernel_rfl) (by kernel_rfl)
  have h12 := @run_callFunc_extern Tryz.prog 275 _ ReflectliteValue.set Tryz.func275 (by kernel_rfl) (by kernel_rfl) (by kernel_rfl) (by kernel_rfl)
  have tO := a_typeOfS
  have mA := a_mAssign
  have aS := a_assignS
  have vS := a_valueOfS
  have f6 := a_valueOfP
  have f7 := a_typeP
  have mK := a_mKind
  have mE := a_mElem
  have mI := a_mImpl
  have kP := a_kindP
  have kS := a_kindS
  have eT := a_elemT
  have iS := a_implS
  have n8 := a_isNilP ⟨w.heap.size, 0, none⟩ ⟨t, 0, none⟩ ((w.alloc (.cells #[.pointer (some ⟨t, 0, none⟩)] 221)).alloc (.cells #[.pointer (some ⟨10, 221, none⟩), .pointer (some ⟨w.heap.size, 0, none⟩), .int .u64 150] 262)) (by simp)
  have hlt : 3 < w.heap.size := by
    rcases Nat.lt_or_ge 3 w.heap.size with h | h
    · exact h
    · simp [World.cell?, Array.getElem?_eq_none h] at hg
  have hg2 : ((w.alloc (.cells #[.pointer (some ⟨t, 0, none⟩)] 221)).alloc (.cells #[.pointer (some ⟨10, 221, none⟩), .pointer (some ⟨w.heap.size, 0, none⟩), .int .u64 150] 262)).cell? ⟨3, 0, none⟩ = some (.iface 273 (.agg #[.pointer (some ⟨10, 174, none⟩)])) := by
    rw [World.cell?_alloc_lt _ _ ⟨3, 0, none⟩ (by rw [World.size_alloc]; exact Nat.lt_succ_of_lt hlt), World.cell?_alloc_lt _ _ ⟨3, 0, none⟩ hlt]; exact hg
  have htl := ht.lt
  have el := a_elemV ⟨w.heap.size, 0, none⟩ ⟨t, 0, none⟩ (((w.alloc (.cells #[.pointer (some ⟨t, 0, none⟩)] 221)).alloc (.cells #[.pointer (some ⟨10, 221, none⟩), .pointer (some ⟨w.heap.size, 0, none⟩), .int .u64 150] 262)).alloc (.cells #[.pointer (some ⟨10, 221, none⟩), .pointer (some ⟨w.heap.size, 0, none⟩), .int .u64 150] 262)) (by rw [World.cell?_alloc_lt _ _ ⟨w.heap.size, 0, none⟩ (by simp; omega)]; simp)
  have HT := (((ht.alloc (.cells #[.pointer (some ⟨t, 0, none⟩)] 221)).alloc (.cells #[.pointer (some ⟨10, 221, none⟩), .pointer (some ⟨w.heap.size, 0, none⟩), .int .u64 150] 262)).alloc (.cells #[.pointer (some ⟨10, 221, none⟩), .pointer (some ⟨w.heap.size, 0, none⟩), .int .u64 150] 262)).alloc (.cells #[.int .i64 a, .int .i64 b] 218)
  have HN := Blk.new (((w.alloc (.cells #[.pointer (some ⟨t, 0, none⟩)] 221)).alloc (.cells #[.pointer (some ⟨10, 221, none⟩), .pointer (some ⟨w.heap.size, 0, none⟩), .int .u64 150] 262)).alloc (.cells #[.pointer (some ⟨10, 221, none⟩), .pointer (some ⟨w.heap.size, 0, none⟩), .int .u64 150] 262)) #[.int .i64 a, .int .i64 b] 218
  rw [World.size_alloc, World.size_alloc, World.size_alloc] at HN
  have st := a_set t (w.heap.size + 1 + 1 + 1) a b u0 u1 _ (HN.cell 0 rfl) (HN.cell 1 rfl) (HT.cell 0 rfl) (HT.cell 1 rfl) (HT.thaw 0) (HT.thaw 1)
  clear HT HN
  go_enter Tryz.func198, Tryz.ntmps198
  go_wp2
  refine wp_loop_rounds 1 ?_
  rw [rounds_succ]
  go_wp2
  go_ret
  exact ⟨rfl, rfl⟩
end Go.Proofs.YtaakgidndjoocaaGreatDoor.ctr

namespace Go.Proofs.YtaakgidndjoocaaGreatDoor.ctr
open Go.RowKit

theorem ins_mem {l : List Seg} {s x : Seg} (h : x ∈ insS l s) : x ∈ l ∨ x = s := by
  unfold insS at h
  rcases List.mem_append.1 h with h | h
  · exact .inl (List.mem_of_mem_take h)
  · rcases List.mem_cons.1 h with h | h
    · exact .inr h
    · exact .inl (List.mem_of_mem_drop h)
theorem fold_mem : ∀ (l a : List Seg) {x : Seg}, x ∈ l.foldl insS a → x ∈ a ∨ x ∈ l
  | [], _, _, h => .inl h
  | s :: l, a, x, h => by
    rcases fold_mem l (insS a s) h with h | h
    · rcases ins_mem h with h | h
      · exact .inl h
      · exact .inr (h ▸ List.mem_cons_self)
    · exact .inr (List.mem_cons_of_mem _ h)
theorem full_mem {l : List Seg} {x : Seg} (h : x ∈ fullS l) : x ∈ l := by
  rcases fold_mem l [] (List.mem_filter.1 h).1 with h | h
  · simp at h
  · exact h
/-- What is wrong, as an error. -/
def errOf (c d : Int) : Value := if c = 0 then .nilIface else .iface 218 (.agg #[.int .i64 c, .int .i64 d])
theorem tilesZ_eq (f t : Int) (l : List Seg) : tilesZ f t l = if sharedB (fullS l) = true then 1 else if bareB f t (fullS l) = true then 2 else 0 := by
  unfold tilesZ tileC
  rw [bareB_same]
set_option maxRecDepth 100000 in
set_option maxHeartbeats 2000000 in
theorem implCheckT (f t : Int) (v : Value) (l : List Seg) (w : World) (h : IRow segK w v l) (hl : l.length ≤ 1048576) (ht : t ≤ 9223372036854775807) (hw : ∀ s ∈ l, -9223372036854775808 ≤ s.to) : Calls Tryz.prog 199 #[.int .i64 f, .int .i64 t, v] w fun e w' => ∃ d : Int, e = .returned (errOf (tilesZ f t l) d) ∧ Below w.heap.size w w' := by
  have KS := hideP (implSorted v l w h hl)
  have hfl := full_len l
  have hw' : ∀ s ∈ fullS l, -9223372036854775808 ≤ s.to := fun s hs => hw s (full_mem hs)
  have HF : Hid ((sortS l).filter hasDayB = fullS l) := rfl
  obtain ⟨Z, hZ⟩ : ∃ Z : Int, Z = tilesZ f t l := ⟨_, rfl⟩
  have HZ0 := hideP hZ
  rw [tilesZ_eq] at HZ0
  rw [← hZ]
  clear hZ
  obtain ⟨ad, ca, rfl, _⟩ := h
  have HZ := HZ0
  clear HZ0
  go_enter Tryz.func199, Tryz.ntmps199
  go_wp2_with fail
  refine KS.out.mono ?_
  rintro e w1 ⟨o, rfl, ⟨g, c, rfl, hg, hP⟩, hB⟩
  have KD := hideP (deleteDel g c (sortS l) w1 hP)
  have HB := hideP hB
  have Hg := hideP hg
  clear hP hB hg
  go_wp2_with fail
  refine KD.out.mono ?_
  rintro e w2 ⟨o, rfl, rfl, hP2, hG2⟩
  rw [HF.out] at hP2
  rw [HF.out]
  have HB2 : Hid (Below w.heap.size w w2) := HB.out.trans (below_grown2 hG2 HB.out.size (fun k e => by cases e; exact Hg.out))
  have KSh := hideP (implShared _ _ w2 hP2.row (by omega))
  have KBa : Hid (∀ W, Below w2.heap.size w2 W → Calls Tryz.prog 255 #[.int .i64 f, .int .i64 t, .slice (some ⟨g, 0, none⟩) (fullS l).length c] W fun e w' => ∃ d : Int, e = .returned (.tuple #[.int .i64 d, .bool (bareB f t (fullS l))]) ∧ Below W.heap.size W w') := fun W hb => implBare f t _ _ W (hP2.row.below hb) (by omega) ht hw'
  clear hP2 hG2 hw hw' HF
  generalize sharedB (fullS l) = sb at *
  generalize bareB f t (fullS l) = bb at *
  go_wp2_with fail
  refine KSh.out.mono ?_
  rintro e w3 ⟨d, rfl, hb⟩
  have HB3 : Hid (Below w.heap.size w w3) := HB2.out.trans (hb.mono HB2.out.size)
  have HB23 := hideP hb
  clear hb
  cases sb
  case true =>
    have HQ : Hid (Z = 1) := HZ.out
    clear HZ
    go_wp2_with fail
    go_ret
    exact ⟨d, (by rw [HQ.out]; rfl), HB3.out⟩
  go_wp2_with fail
  refine (KBa.out w3 HB23.out).mono ?_
  rintro e w4 ⟨d', rfl, hb⟩
  have HB4 : Hid (Below w.heap.size w w4) := HB3.out.trans (hb.mono HB3.out.size)
  clear hb
  cases bb
  · have HQ : Hid (Z = 0) := HZ.out
    clear HZ
    go_wp2_with fail
    go_ret
    exact ⟨0, (by rw [HQ.out]; rfl), HB4.out⟩
  · have HQ : Hid (Z = 2) := HZ.out
    clear HZ
    go_wp2_with fail
    go_ret
    exact ⟨d', (by rw [HQ.out]; rfl), HB4.out⟩
/-- The listed type that errors.As asks for. -/
def ErrT (w : World) : Prop := w.cell? ⟨3, 0, none⟩ = some (.iface 273 (.agg #[.pointer (some ⟨10, 174, none⟩)]))
theorem ErrT.below {w w' : World} (h : ErrT w) (hb : Below w.heap.size w w') : ErrT w' := Later.at h ⟨w', hb⟩
theorem tilesZ_cases (f t : Int) (l : List Seg) : tilesZ f t l = 0 ∨ tilesZ f t l = 1 ∨ tilesZ f t l = 2 := by
  unfold tilesZ tileC
  split
  · exact .inr (.inl rfl)
  · split
    · exact .inr (.inr rfl)
    · exact .inl rfl
set_option maxRecDepth 100000 in
set_option maxHeartbeats 2000000 in
theorem implTiles (f t : Int) (v : Value) (l : List Seg) (w : World) (h : IRow segK w v l) (hl : l.length ≤ 1048576) (ht : t ≤ 9223372036854775807) (hw : ∀ s ∈ l, -9223372036854775808 ≤ s.to) (hE : ErrT w) : Calls Tryz.prog 144 #[.int .i64 f, .int .i64 t, v] w fun e w' => e = .returned (.int .i64 (tilesZ f t l)) ∧ Below w.heap.size w w' := by
  obtain ⟨W0, hW0⟩ : ∃ W0, W0 = w.alloc (.cells #[.int .i64 0, .int .i64 0] 218) := ⟨_, rfl⟩
  have hb0 : Below w.heap.size w W0 := by rw [hW0]; exact (Below.refl _ _).alloc (Nat.le_refl _) _
  have hK0 : Blk W0 w.heap.size #[.int .i64 0, .int .i64 0] 218 := by rw [hW0]; exact Blk.new _ _ _
  have KC := hideP (implCheckT f t v l W0 (h.below hb0) hl ht hw)
  have hz := tilesZ_cases f t l
  have HE := hideP (hE.below hb0)
  have HB0 := hideP hb0
  have HK0 := hideP hK0
  have HW0 := hideP hW0
  obtain ⟨ad, ca, rfl, _⟩ := h
  generalize tilesZ f t l = z at *
  clear hb0 hK0 hW0 hE hw
  go_enter Tryz.func144, Tryz.ntmps144
  go_wp2_with fail
  rw [← HW0.out]
  refine KC.out.mono ?_
  rintro e w1 ⟨d, rfl, hb⟩
  have HB1 : Hid (Below w.heap.size w w1) := HB0.out.trans (hb.mono HB0.out.size)
  have HE1 := hideP (HE.out.below hb)
  have HK1 := hideP (HK0.out.below hb HK0.out.lt)
  clear hb
  by_cases h0 : z = 0
  · subst h0
    have KN := hideP (as_nil (.iface 221 (.pointer (some ⟨w.heap.size, 0, none⟩))) w1)
    rw [errOf, if_pos rfl]
    go_wp2_with fail
    refine KN.out.mono ?_
    rintro e w2 ⟨rfl, rfl⟩
    go_wp2_with fail
    go_ret
    exact ⟨rfl, HB1.out⟩
  · rw [errOf, if_neg h0]
    have KN := hideP (as_hit z d w.heap.size _ _ w1 HE1.out HK1.out)
    go_wp2_with fail
    refine KN.out.mono ?_
    rintro e w2 ⟨rfl, hw2⟩
    have HB2 : Hid (Below w.heap.size w w2) := by
      unfold Hid
      rw [hw2]
      have s1 := HB1.out.size
      exact below_store (below_store ((((HB1.out.alloc s1 _).alloc (by rw [World.size_alloc]; omega) _).alloc (by rw [World.size_alloc, World.size_alloc]; omega) _).alloc (by rw [World.size_alloc, World.size_alloc, World.size_alloc]; omega) _) _ (Nat.le_refl _)) _ (Nat.le_refl _)
    have c0 : w2.cell? ⟨w.heap.size, 0, none⟩ = some (.int .i64 z) := by
      rw [hw2]
      exact ((((((HK1.out.alloc _).alloc _).alloc _).alloc _).set 0 _).set 1 _).cell 0 rfl
    clear hw2
    go_wp2_with fail
    go_ret
    exact ⟨rfl, HB2.out⟩
end Go.Proofs.YtaakgidndjoocaaGreatDoor.ctr

namespace Go.Proofs.YtaakgidndjoocaaGreatDoor.ctr
open Go.RowKit

structure Ful1 (w : World) (L : List Seg) (k q c : Nat) (wr : World) : Prop where
  row : PRow segK 88 wr q c ((L.take k).filter hasDayB)
  lo : w.heap.size ≤ q
  below : Below w.heap.size w wr
theorem Ful1.len {w : World} {L : List Seg} {k q c : Nat} {wr : World} (_ : Ful1 w L k q c wr) : ((L.take k).filter hasDayB).length ≤ k := by
  have := List.length_filter_le hasDayB (L.take k)
  have h2 : (L.take k).length ≤ k := by simp; omega
  omega
theorem Ful1.skip {w : World} {L : List Seg} {k q c : Nat} {wr x : World} (h : Ful1 w L k q c wr) (hx : Below wr.heap.size wr x) (hk : k < L.length) (hd : hasDayB (sgA L k) = false) : Ful1 w L (k + 1) q c x ∧ (L.take (k + 1)).filter hasDayB = (L.take k).filter hasDayB := by
  have e := filter_snoc (p := hasDayB) hk
  rw [hd] at e
  simp only [Bool.false_eq_true, if_false, List.append_nil] at e
  exact ⟨⟨by rw [e]; exact h.row.below hx h.row.lt, h.lo, h.below.trans (hx.mono h.below.size)⟩, e⟩
theorem Ful1.take {w : World} {L : List Seg} {k q c q' c' : Nat} {wr x w2 : World} {o : Obj} (h : Ful1 w L k q c wr) (hx : Below wr.heap.size wr x) (hk : k < L.length) (hd : hasDayB (sgA L k) = true)
    (hown : w2.ownsRow w.heap.size 88 5 (.slice (some ⟨q', 0, none⟩) (((L.take k).filter hasDayB).length + 1) c') (((L.take k).filter hasDayB).length + 1) (icells segK ((L.take k).filter hasDayB) ++ icell segK (sgA L k))) (hgrow : (x.alloc o).grownBy w2 (some q)) (hat : q = q' ∨ q' = x.heap.size + 1) : Ful1 w L (k + 1) q' c' w2 ∧ ((L.take (k + 1)).filter hasDayB).length = ((L.take k).filter hasDayB).length + 1 := by
  have e := filter_snoc (p := hasDayB) hk
  rw [hd] at e
  simp only [if_true] at e
  have hb : Below w.heap.size w x := h.below.trans (hx.mono h.below.size)
  have hlen : ((L.take (k + 1)).filter hasDayB).length = ((L.take k).filter hasDayB).length + 1 := by rw [e]; simp
  obtain ⟨g2, c2, e2, _, hP⟩ := PRow.of_owns (K := segK) (T := 88) (w := w2) (base := w.heap.size) (L := (L.take (k + 1)).filter hasDayB) (v := .slice (some ⟨q', 0, none⟩) (((L.take k).filter hasDayB).length + 1) c') (by
    rw [hlen, e, icells_app, show icells segK [sgA L k] = icell segK (sgA L k) by simp [icells]]
    exact hown) (by rw [hlen]; omega)
  have e3 : q' = g2 ∧ c' = c2 := by
    have := e2
    rw [hlen] at this
    simpa using this
  obtain ⟨rfl, rfl⟩ := e3
  refine ⟨⟨hP, ?_, ?_⟩, hlen⟩
  · rcases hat with q | q
    · rw [← q]; exact h.lo
    · have := hb.size; omega
  · exact (hb.alloc hb.size o).trans (below_grown2 hgrow (by rw [World.size_alloc]; have := hb.size; omega) (fun k e => by cases e; exact h.lo))
set_option maxRecDepth 100000 in
set_option maxHeartbeats 4000000 in
theorem specFull (v : Value) (l : List Seg) (w : World) (h : IRow segK w v l) (hl : l.length ≤ 1048576) : Calls Tryz.prog 195 #[v] w fun e w' => ∃ o, e = .returned o ∧ SNew w w' o (fullS l) ∧ Below w.heap.size w w' := by
  obtain ⟨i0, hi, he⟩ := Option.map_eq_some_iff.1 info_seg
  simp only [Prod.mk.injEq] at he
  obtain ⟨hz0, hz1, hz2⟩ := he
  have hb0 : Below w.heap.size w (w.alloc (.cells #[] 88)) := (Below.refl _ _).alloc (Nat.le_refl _) _
  have KS := hideP (specSorted v l _ (h.below hb0) hl)
  have HB0 := hideP hb0
  obtain ⟨ad, ca, rfl, hca, hcm, _⟩ := h
  have hsl := sortS_len l
  have HF : Hid (fullS l = (sortS l).filter hasDayB) := rfl
  obtain ⟨N, hN⟩ : ∃ N, N = (sortS l).length := ⟨_, rfl⟩
  have hNl : N ≤ 1048576 := by omega
  have HNl := hideP hN
  clear hb0 hsl hN
  go_enter Tryz.func195, Tryz.ntmps195
  go_wp2_with fail
  refine KS.out.mono ?_
  rintro e w1 ⟨o, rfl, ⟨gs, cs, rfl, hgs, hP⟩, hB⟩
  have HP := hideP hP
  have HB := hideP hB
  have hcs : N ≤ cs := by obtain ⟨_, _, _, q, _⟩ := hP; rw [HNl.out]; exact q
  have hcsm : cs ≤ 2 ^ 63 - 1 := by obtain ⟨_, _, _, _, q, _⟩ := hP; exact q
  have hgs1 := hideP hP.lt
  have S0 : Hid (Ful1 w (sortS l) 0 w.heap.size 0 w1) := by
    refine ⟨⟨#[], ?_, rfl, by simp, by unfold maxLen; omega, fun k hk => by simp at hk⟩, Nat.le_refl _, HB0.out.trans (hB.mono HB0.out.size)⟩
    exact (Blk.new w _ _).below hB (by rw [World.size_alloc]; omega)
  have hne : gs ≠ w.heap.size := by rw [World.size_alloc] at hgs; omega
  rw [← HNl.out]
  have HRow : Hid (∀ k, k < N → IAt segK w1 gs k (sgA (sortS l) k)) := fun k hk => hP.at (by rw [← HNl.out]; exact hk)
  have HLo : Hid (w.heap.size + 1 ≤ gs) := by rw [World.size_alloc] at hgs; exact hgs
  clear hP hB hgs
  go_wp2
  go_loopw [3, 5] (fun o i wr => ∃ (k q c : Nat), k ≤ N ∧ i = .int .i64 (k : Int) ∧ o = .slice (some ⟨q, 0, none⟩) ((((sortS l).take k).filter hasDayB).length) c ∧ q ≠ gs ∧ Ful1 w (sortS l) k q c wr ∧ (∀ k, k < N → IAt segK wr gs k (sgA (sortS l) k)) ∧ gs < wr.heap.size) (fun _ i _ => N - (intOf i).toNat)
  case atStart => exact ⟨0, _, _, Nat.zero_le _, rfl, by simp, Ne.symm hne, S0.out, HRow.out, hgs1.out⟩
  case round =>
    obtain ⟨k, q, c, hk, rfl, rfl, hq, hF, hR, hgl⟩ := hrel
    have HF1 := hideP hF
    have HR1 := hideP hR
    clear hF hR S0
    by_cases hlt : k < N
    · have hkL : Hid (k < (sortS l).length) := by unfold Hid; rw [← HNl.out]; exact hlt
      have HC : Hid (∀ y : Later wr, IAt segK y.w gs k (sgA (sortS l) k)) := fun y => (HR1.out k hlt).below y.below hgl
      have e0 : ∀ y : Later wr, y.w.cell? ⟨gs, k * 5, none⟩ = some (.int .i64 (sgA (sortS l) k).fr) := fun y => (HC.out y).seg.1
      have e1 : ∀ y : Later wr, y.w.cell? ⟨gs, k * 5 + 1, none⟩ = some (.int .i64 (sgA (sortS l) k).to) := fun y => (HC.out y).seg.2.1
      have e2 : ∀ y : Later wr, y.w.cell? ⟨gs, k * 5 + 2, none⟩ = some (.int .i64 (sgA (sortS l) k).cal) := fun y => (HC.out y).seg.2.2.1
      have e3 : ∀ y : Later wr, y.w.cell? ⟨gs, k * 5 + 3, none⟩ = some (.int .i64 (sgA (sortS l) k).sty) := fun y => (HC.out y).seg.2.2.2.1
      have e4 : ∀ y : Later wr, y.w.cell? ⟨gs, k * 5 + 4, none⟩ = some (.int .i64 (sgA (sortS l) k).off) := fun y => (HC.out y).seg.2.2.2.2
      have hm := HF1.out.len
      have HT : Hid (∀ (x : Later wr) w2 (o : Obj) q' c', hasDayB (sgA (sortS l) k) = true → w2.ownsRow w.heap.size 88 5 (.slice (some ⟨q', 0, none⟩) ((((sortS l).take k).filter hasDayB).length + 1) c') ((((sortS l).take k).filter hasDayB).length + 1) (icells segK (((sortS l).take k).filter hasDayB) ++ icell segK (sgA (sortS l) k)) → (x.w.alloc o).grownBy w2 (some q) → (q = q' ∨ q' = x.w.heap.size + 1) → (Ful1 w (sortS l) (k + 1) q' c' w2 ∧ (((sortS l).take (k + 1)).filter hasDayB).length = (((sortS l).take k).filter hasDayB).length + 1) ∧ (∀ k, k < N → IAt segK w2 gs k (sgA (sortS l) k)) ∧ gs < w2.heap.size ∧ q' ≠ gs) := fun x w2 o q' c' hd h1 h2 h3 => by
        refine ⟨HF1.out.take x.below hkL.out hd h1 h2 h3, fun k' hk' j z hz => ?_, ?_, ?_⟩
        · have h4 := ((HR1.out k' hk').below x.below hgl) j z hz
          have hgx : gs < x.w.heap.size := Nat.lt_of_lt_of_le hgl x.below.size
          refine h2.cell (a := ⟨gs, k' * segK.m + j, none⟩) ?_ (fun e => hq (by simpa using e.symm))
          exact Later.at h4 ⟨x.w.alloc o, (Below.refl _ _).alloc (Nat.le_refl _) _⟩
        · have := h2.size; rw [World.size_alloc] at this; have := x.below.size; omega
        · rcases h3 with h3 | h3
          · rw [← h3]; exact hq
          · have := x.below.size; omega
      have HSk : Hid (∀ x : Later wr, hasDayB (sgA (sortS l) k) = false → (Ful1 w (sortS l) (k + 1) q c x.w ∧ ((sortS l).take (k + 1)).filter hasDayB = ((sortS l).take k).filter hasDayB) ∧ (∀ k, k < N → IAt segK x.w gs k (sgA (sortS l) k)) ∧ gs < x.w.heap.size) := fun x hd => ⟨HF1.out.skip x.below hkL.out hd, fun k' hk' => (HR1.out k' hk').below x.below hgl, Nat.lt_of_lt_of_le hgl x.below.size⟩
      have HOw : Hid (∀ (x : Later wr) (o : Obj), (x.w.alloc o).ownsRow w.heap.size 88 5 (.slice (some ⟨q, 0, none⟩) ((((sortS l).take k).filter hasDayB).length) c) ((((sortS l).take k).filter hasDayB).length) (icells segK (((sortS l).take k).filter hasDayB))) := fun x o => ((HF1.out.row.below x.below HF1.out.row.lt).owns (by decide) HF1.out.lo).alloc o
      have hsz : Hid (w.heap.size ≤ wr.heap.size) := HF1.out.below.size
      obtain ⟨m, hmE⟩ : ∃ m, m = (((sortS l).take k).filter hasDayB).length := ⟨_, rfl⟩
      rw [← hmE] at HT hm HOw ⊢
      have HmE := hideP hmE
      clear hmE HC
      obtain ⟨s, hs⟩ : ∃ s, s = sgA (sortS l) k := ⟨_, rfl⟩
      rw [← hs] at e0 e1 e2 e3 e4 HT HSk
      have Hs := hideP hs
      clear hs
      by_cases hd : s.fr ≤ s.to
      · have hd' : decide (s.fr ≤ s.to) = true := decide_eq_true hd
        go_wp2_with fail
        refine wp_region_later (W := wr) (Below.refl _ _) (by kernel_rfl) (by kernel_rfl) ?_
        repeat (go_big_quiet_step (fail))
        refine wpQuiet_nil ?_
        intro _ hw'
        obtain ⟨x, rfl⟩ := hw'
        have hown := hideP (HOw.out x (.cells (icell segK s).toArray 88))
        have hnews := hideP (news_seg x.w s 88)
        have hbase : Hid (w.heap.size ≤ (x.w.alloc (.cells (icell segK s).toArray 88)).heap.size) := by
          unfold Hid
          rw [World.size_alloc]
          have := hsz.out
          have := x.below.size
          omega
        go_wp2_with (at_builtin; refine wpList_append_lies _ rfl _ _ 32 rfl w.heap.size 88 i0 (.agg #[.int .i64 0, .int .i64 0, .int .i64 0, .int .i64 0, .int .i64 0]) 5 40 Tryz.underlying32 hi hz0 hz1 hz2 rfl (by decide) _ m _ rfl hown.out ⟨x.w.heap.size, 0, none⟩ 1 1 (icell segK s) rfl rfl hnews.out (by simp [icell, Value.oneCell']) (by omega) (by unfold maxLen; omega) (by omega) hbase.out (x.w.heap.size + 1) (by rw [World.size_alloc]) ?_; intro q' c' w2 hown2 hgrow hat hlt2; have hown3 := hideP hown2; have hgrow3 := hideP hgrow; have hat3 := hideP hat; clear hown2 hgrow hat hlt2)
        have hat4 : q = q' ∨ q' = x.w.heap.size + 1 := by
          rcases hat3.out with e | e
          · exact .inl (Option.some.inj e)
          · exact .inr e
        have O2 := hideP (HT.out x w2 _ q' c' (decide_eq_true hd) hown3.out hgrow3.out hat4)
        exact ⟨⟨k + 1, q', c', by omega, by go_num, by rw [O2.out.1.2], O2.out.2.2.2, O2.out.1.1, O2.out.2.1, O2.out.2.2.1⟩, by simp [intOf]; omega⟩
      · have hd' : decide (s.fr ≤ s.to) = false := decide_eq_false hd
        go_wp2_with fail
        refine wp_region_later (W := wr) (Below.refl _ _) (by kernel_rfl) (by kernel_rfl) ?_
        repeat (go_big_quiet_step (fail))
        refine wpQuiet_nil ?_
        intro _ hw'
        obtain ⟨x, rfl⟩ := hw'
        have O2 := hideP (HSk.out x hd')
        go_wp2_with fail
        exact ⟨⟨k + 1, q, c, by omega, by go_num, by rw [O2.out.1.2, HmE.out], hq, O2.out.1.1, O2.out.2.1, O2.out.2.2⟩, by simp [intOf]; omega⟩
    · have HE : Hid (SNew w wr (.slice (some ⟨q, 0, none⟩) ((((sortS l).take k).filter hasDayB).length) c) (fullS l)) := by
        have hkl : (sortS l).take k = sortS l := List.take_of_length_le (by rw [← HNl.out]; omega)
        have hr := HF1.out.row
        rw [hkl] at hr ⊢
        exact ⟨q, c, rfl, HF1.out.lo, hr⟩
      have HB2 := hideP HF1.out.below
      go_wp2
      go_ret
      exact ⟨_, rfl, HE.out, HB2.out⟩
theorem tile_one {f t : Int} {L : List Seg} (h : sharedP L) : tileC f t L = 1 := by unfold tileC; rw [if_pos (shared_yes h)]
theorem tile_two {f t : Int} {L : List Seg} (h : ¬ sharedP L) (hb : bareS t L f = true) : tileC f t L = 2 := by unfold tileC; rw [shared_no h, if_neg (by simp), if_pos hb]
theorem tile_no {f t : Int} {L : List Seg} (h : ¬ sharedP L) (hb : bareS t L f = false) : tileC f t L = 0 := by unfold tileC; rw [shared_no h, if_neg (by simp), hb, if_neg (by simp)]
set_option maxRecDepth 100000 in
set_option maxHeartbeats 4000000 in
theorem specTiles (f t : Int) (v : Value) (l : List Seg) (w : World) (h : IRow segK w v l) (hl : l.length ≤ 1048576) (hf : -9223372036854775808 ≤ f) (ht : t ≤ 9223372036854775807) : Calls Tryz.prog 138 #[.int .i64 f, .int .i64 t, v] w fun e w' => e = .returned (.int .i64 (tilesZ f t l)) ∧ Below w.heap.size w w' := by
  have KF := hideP (specFull v l w h hl)
  have hfl := full_len l
  unfold tilesZ
  obtain ⟨ad, ca, rfl, _⟩ := h
  generalize fullS l = L at *
  obtain ⟨R, hR⟩ : ∃ R, R = tileC f t L := ⟨_, rfl⟩
  have HR := hideP hR
  rw [← hR]
  obtain ⟨N, hN⟩ : ∃ N, N = L.length := ⟨_, rfl⟩
  have HN := hideP hN
  have hNl : N ≤ 1048576 := by omega
  clear hR hN hfl
  go_enter Tryz.func138, Tryz.ntmps138
  go_wp2_with fail
  refine KF.out.mono ?_
  rintro e w1 ⟨o, rfl, ⟨g, c, rfl, hg, hP⟩, hB⟩
  have HP := hideP hP
  have HB := hideP hB
  have HC : Hid (∀ (y : Later w1) k, k < N → y.w.cell? ⟨g, k * 5, none⟩ = some (.int .i64 (sgA L k).fr) ∧ y.w.cell? ⟨g, k * 5 + 1, none⟩ = some (.int .i64 (sgA L k).to)) := fun y k hk => by
    have := ((hP.at (k := k) (by rw [← HN.out]; exact hk)).below y.below hP.lt).seg
    exact ⟨this.1, this.2.1⟩
  have hcs : N ≤ c := by obtain ⟨_, _, _, q, _⟩ := hP; rw [HN.out]; exact q
  have hcsm : c ≤ 2 ^ 63 - 1 := by obtain ⟨_, _, _, _, q, _⟩ := hP; exact q
  rw [← HN.out]
  clear hP hB hg
  go_wp2
  go_loopw [8] (fun i wr => ∃ k : Nat, i = .int .i64 ((k : Int) + 1) ∧ k ≤ N ∧ Hid (NoSh L N k) ∧ ∃ y : Later w1, wr = y.w) (fun i _ => N + 1 - (intOf i).toNat)
  case atStart => exact ⟨0, rfl, Nat.zero_le _, fun j h1 h2 => by omega, ⟨w1, Below.refl _ _⟩, rfl⟩
  case round =>
    obtain ⟨k, rfl, hk, HJ, y, rfl⟩ := hrel
    by_cases hlt : k + 1 < N
    · have hlt' : (k : Int) + 1 < (N : Int) := by omega
      have e1 : (k : Int) + 1 - 1 = (k : Int) := by omega
      have a0 : ∀ y : Later w1, y.w.cell? ⟨g, (k + 1) * 5, none⟩ = some (.int .i64 (sgA L (k + 1)).fr) := fun y => (HC.out y (k + 1) hlt).1
      have a1 : ∀ y : Later w1, y.w.cell? ⟨g, k * 5 + 1, none⟩ = some (.int .i64 (sgA L k).to) := fun y => (HC.out y k (by omega)).2
      have HY : Hid ((sgA L (k + 1)).fr ≤ (sgA L k).to → R = 1) := fun q => by rw [HR.out]; exact tile_one ⟨k + 1, by omega, by rw [← HN.out]; exact hlt, q⟩
      have HX : Hid (¬ (sgA L (k + 1)).fr ≤ (sgA L k).to → NoSh L N (k + 1)) := fun q j h1 h2 h3 => by
        by_cases e : j = k + 1
        · subst e; exact q
        · exact HJ.out j h1 (by omega) h3
      clear HJ
      generalize (sgA L (k + 1)).fr = p at *
      generalize (sgA L k).to = q at *
      by_cases hpq : p ≤ q
      · have hd : decide (p ≤ q) = true := decide_eq_true hpq
        have HE := hideP (HY.out hpq)
        go_wp2_with fail
        refine wp_region_later (W := w1) y.below (by kernel_rfl) (by kernel_rfl) ?_
        repeat (go_big_quiet_step (fail))
        refine wpQuiet_nil ?_
        intro _ hw'
        obtain ⟨x, rfl⟩ := hw'
        go_wp2_with fail
        go_ret
        exact ⟨ret_int HE.out.symm, HB.out.trans (x.below.mono HB.out.size)⟩
      · have hd : decide (p ≤ q) = false := decide_eq_false hpq
        have HE := hideP (HX.out hpq)
        go_wp2_with fail
        refine wp_region_later (W := w1) y.below (by kernel_rfl) (by kernel_rfl) ?_
        repeat (go_big_quiet_step (fail))
        refine wpQuiet_nil ?_
        intro _ hw'
        obtain ⟨x, rfl⟩ := hw'
        go_wp2
        exact ⟨⟨k + 1, by go_num, by omega, HE.out, x, rfl⟩, by simp [intOf]; omega⟩
    · have hlt' : ¬ ((k : Int) + 1 < (N : Int)) := by omega
      have HS : Hid (¬ sharedP L) := fun ⟨i, h1, h2, h3⟩ => HJ.out i h1 (by rw [← HN.out] at h2; omega) (by rw [HN.out]; exact h2) h3
      clear HJ
      go_wp2
      go_loopw [9, 10] (fun n i wr => ∃ (k : Nat) (z : Int), k ≤ N ∧ i = .int .i64 (k : Int) ∧ n = .int .i64 z ∧ -9223372036854775808 ≤ z ∧ Hid (bareS t (L.drop k) z = bareS t L f) ∧ ∃ y : Later w1, wr = y.w) (fun _ i _ => N - (intOf i).toNat)
      case atStart => exact ⟨0, f, Nat.zero_le _, rfl, rfl, hf, by simp [Hid], y, rfl⟩
      case round =>
        obtain ⟨k, z, hk, rfl, rfl, hz, HF, y, rfl⟩ := hrel
        by_cases hkN : k < N
        case neg =>
          have hkN' : ¬ ((k : Int) < (N : Int)) := by omega
          have HE := hideP (bareS_end (to := t) (n := z) (L := L) (k := k) (by rw [← HN.out]; omega))
          by_cases hzt : z ≤ t
          · have HQ : Hid (R = 2) := by unfold Hid; rw [HR.out]; exact tile_two HS.out (by rw [← HF.out, HE.out]; exact decide_eq_true hzt)
            have hd : decide (z ≤ t) = true := decide_eq_true hzt
            go_wp2
            go_ret
            exact ⟨ret_int HQ.out.symm, HB.out.trans (y.below.mono HB.out.size)⟩
          · have HQ : Hid (R = 0) := by unfold Hid; rw [HR.out]; exact tile_no HS.out (by rw [← HF.out, HE.out]; exact decide_eq_false hzt)
            have hd : decide (z ≤ t) = false := decide_eq_false hzt
            go_wp2
            go_ret
            exact ⟨ret_int HQ.out.symm, HB.out.trans (y.below.mono HB.out.size)⟩
        have hkN' : (k : Int) < (N : Int) := by omega
        have HA := hideP (bareS_at (to := t) (n := z) (L := L) (k := k) (by rw [← HN.out]; exact hkN))
        have a0 : y.w.cell? ⟨g, k * 5, none⟩ = some (.int .i64 (sgA L k).fr) := (HC.out y k hkN).1
        have a1 : y.w.cell? ⟨g, k * 5 + 1, none⟩ = some (.int .i64 (sgA L k).to) := (HC.out y k hkN).2
        generalize sgA L k = s at *
        by_cases hzt : z ≤ t
        case neg =>
          have HQ : Hid (R = 0) := by unfold Hid; rw [HR.out]; exact tile_no HS.out (by rw [← HF.out, HA.out, if_neg hzt])
          have hd : decide (z ≤ t) = false := decide_eq_false hzt
          go_wp2
          go_ret
          exact ⟨ret_int HQ.out.symm, HB.out.trans (y.below.mono HB.out.size)⟩
        have hd : decide (z ≤ t) = true := decide_eq_true hzt
        by_cases h1 : s.to < z
        · have HQ : Hid (bareS t (L.drop (k + 1)) z = bareS t L f) := by unfold Hid; rw [← HF.out, HA.out, if_pos hzt, if_pos h1]
          have hd1 : decide (s.to < z) = true := decide_eq_true h1
          go_wp2
          exact ⟨⟨k + 1, z, by omega, by go_num, rfl, hz, HQ.out, y, rfl⟩, by simp [intOf]; omega⟩
        have hd1 : decide (s.to < z) = false := decide_eq_false h1
        by_cases h2 : z < s.fr
        · have HQ : Hid (R = 2) := by unfold Hid; rw [HR.out]; exact tile_two HS.out (by rw [← HF.out, HA.out, if_pos hzt, if_neg h1, if_pos h2])
          have hd2 : decide (z < s.fr) = true := decide_eq_true h2
          go_wp2
          go_ret
          exact ⟨ret_int HQ.out.symm, HB.out.trans (y.below.mono HB.out.size)⟩
        have hd2 : decide (z < s.fr) = false := decide_eq_false h2
        by_cases h3 : t ≤ s.to
        · have HQ : Hid (R = 0) := by unfold Hid; rw [HR.out]; exact tile_no HS.out (by rw [← HF.out, HA.out, if_pos hzt, if_neg h1, if_neg h2, if_pos h3])
          have hd3 : decide (t ≤ s.to) = true := decide_eq_true h3
          go_wp2
          go_ret
          exact ⟨ret_int HQ.out.symm, HB.out.trans (y.below.mono HB.out.size)⟩
        · have HQ : Hid (bareS t (L.drop (k + 1)) (s.to + 1) = bareS t L f) := by unfold Hid; rw [← HF.out, HA.out, if_pos hzt, if_neg h1, if_neg h2, if_neg h3]
          have hd3 : decide (t ≤ s.to) = false := decide_eq_false h3
          go_wp2
          exact ⟨⟨k + 1, s.to + 1, by omega, by go_num, by go_num, by omega, HQ.out, y, rfl⟩, by simp [intOf]; omega⟩
end Go.Proofs.YtaakgidndjoocaaGreatDoor.ctr

namespace Go.Proofs.YtaakgidndjoocaaGreatDoor.kit
open Go.RowKit

theorem a_et : Tryz.prog.globalNamed "errors.errorType" = some 3 := by kernel_rfl
theorem a_rt : (Tryz.prog.cutTypes.find? (·.1 == "internal/reflectlite.rtype")).map (·.2) = some 273 := by kernel_rfl
theorem a_row : ((List.range 387).filter fun t => Tryz.prog.rowNamed t [101, 114, 114, 111, 114]) = [174] := by kernel_rfl
theorem a_size : Tryz.prog.types.size = 387 := by kernel_rfl
theorem err_of {W : World} (h : handlesMet Tryz.prog [("errors.errorType", .iface "internal/reflectlite.rtype" (.agg [.ptr (.lit (.string [101, 114, 114, 111, 114]))]))] W) : ctr.ErrT W := by
  obtain ⟨name, u, ty, e1, e2, e3, e4, e5⟩ := h _ (List.mem_singleton.2 rfl)
  have en : name = [101, 114, 114, 111, 114] := (Option.some.inj e1).symm
  subst en
  obtain rfl := Option.some.inj (a_rt.symm.trans e2)
  have hm : ty ∈ (List.range 387).filter fun t => Tryz.prog.rowNamed t [101, 114, 114, 111, 114] := List.mem_filter.2 ⟨List.mem_range.2 (by rw [← a_size]; exact e3), e4⟩
  rw [a_row] at hm
  obtain rfl := List.mem_singleton.1 hm
  have hh : typeHandle Tryz.prog 174 = .pointer (some ⟨10, 174, none⟩) := by kernel_rfl
  rw [hh] at e5
  unfold ctr.ErrT
  simpa using World.var?_cell a_et e5 0
end Go.Proofs.YtaakgidndjoocaaGreatDoor.kit

namespace Go.Proofs.YtaakgidndjoocaaGreatDoor.kit
open Go.RowKit

theorem gs_two {H : Type} {enc : TypeId × Value → H} {P : Program} {W : World} {sp : Nat → Bool} {a b : String} {gs : List (DataW H)} {q : List MemPlace} (h : DataW.TrodVars enc P W sp [a, b] gs q) : ∃ g1 g2, gs = [g1, g2] := by
  match gs, h with
  | [], h => exact h.elim
  | [g1], h =>
    obtain ⟨_, _, _, _, _, _, _, _, _, _, h5, _⟩ := h
    exact h5.elim
  | [g1, g2], _ => exact ⟨g1, g2, rfl⟩
  | g1 :: g2 :: g3 :: r, h =>
    obtain ⟨_, _, _, _, _, _, _, _, _, _, h5, _⟩ := h
    obtain ⟨_, _, _, _, _, _, _, _, _, _, h6, _⟩ := h5
    exact h6.elim
theorem gs_three {H : Type} {enc : TypeId × Value → H} {P : Program} {W : World} {sp : Nat → Bool} {a b c : String} {gs : List (DataW H)} {q : List MemPlace} (h : DataW.TrodVars enc P W sp [a, b, c] gs q) : ∃ g1 g2 g3, gs = [g1, g2, g3] := by
  match gs, h with
  | [], h => exact h.elim
  | g :: r, h =>
    obtain ⟨_, _, _, _, _, _, _, _, _, _, h5, _⟩ := h
    obtain ⟨g2, g3, rfl⟩ := gs_two h5
    exact ⟨g, g2, g3, rfl⟩
theorem star : "*" ++ "errors.errorString" = "*errors.errorString" := by decide
theorem rowErr (u : TypeId) (h : Tryz.prog.typeName? 3 u = some "*errors.errorString") : u = 355 :=
  typeName_ptr_named (nm := "errors.errorString") (by rw [star]; kernel_rfl) (by kernel_rfl) (by decide) u (by rw [star]; exact h)
theorem cellsErr : Tryz.prog.cellsOf 375 = 1 := by kernel_rfl
theorem cellsStr : Tryz.prog.cellsOf 9 = 1 := by kernel_rfl
theorem gErr : Tryz.prog.globalNamed "loop.example/g00638/impl.errNoTable" = some 0 := by kernel_rfl
theorem gErrType : (Tryz.prog.globals[0]?).map (·.type) = some 174 := by kernel_rfl
theorem sent_of {text : List UInt8} {r : List (String × DataW Unit)} {W : World} (h : laidMet Tryz.prog (("loop.example/g00638/impl.errNoTable", .iface "*errors.errorString" (.ptr (.agg [.lit (.string text)]))) :: r) W) : ∃ a, ctr.Sent W a := by
  obtain ⟨a, s, hv, _⟩ := laid_sentinel h gErr gErrType Tryz.underlying174 rowErr Tryz.underlying355 Tryz.underlying375 rfl rfl Tryz.underlying9 cellsErr cellsStr
  exact ⟨a, by unfold ctr.Sent; simpa using World.var?_cell gErr hv 0⟩
end Go.Proofs.YtaakgidndjoocaaGreatDoor.kit

namespace Go.Proofs.YtaakgidndjoocaaGreatDoor.ctr
open Go.RowKit

set_option maxHeartbeats 1000000 in
theorem implPatchOk (s : Pat) (w : World) : Calls Tryz.prog 145 #[.agg #[.int .i64 s.day, .int .i64 s.mon, .int .i64 s.dom]] w fun e w' => e = .returned (.bool (patB s)) ∧ Below w.heap.size w w' := by
  unfold patB
  by_cases h1 : 1 ≤ s.mon
  case neg =>
    rw [inB_false (.inl (by omega)), Bool.false_and]
    have hd : decide (1 ≤ s.mon) = false := decide_eq_false h1
    go_enter Tryz.func145, Tryz.ntmps145
    go_wp2
    go_ret
    exact ⟨rfl, (Below.refl _ _).alloc (Nat.le_refl _) _⟩
  by_cases h2 : s.mon ≤ 12
  case neg =>
    rw [inB_false (.inr (by omega)), Bool.false_and]
    have hd : decide (s.mon ≤ 12) = false := decide_eq_false h2
    go_enter Tryz.func145, Tryz.ntmps145
    go_wp2
    go_ret
    exact ⟨rfl, (Below.refl _ _).alloc (Nat.le_refl _) _⟩
  rw [inB_true h1 h2, Bool.true_and]
  by_cases h3 : 1 ≤ s.dom
  case neg =>
    rw [inB_false (.inl (by omega))]
    have hd : decide (1 ≤ s.dom) = false := decide_eq_false h3
    go_enter Tryz.func145, Tryz.ntmps145
    go_wp2
    go_ret
    exact ⟨rfl, (Below.refl _ _).alloc (Nat.le_refl _) _⟩
  by_cases h4 : s.dom ≤ 31
  case neg =>
    rw [inB_false (.inr (by omega))]
    have hd : decide (s.dom ≤ 31) = false := decide_eq_false h4
    go_enter Tryz.func145, Tryz.ntmps145
    go_wp2
    go_ret
    exact ⟨rfl, (Below.refl _ _).alloc (Nat.le_refl _) _⟩
  rw [inB_true h3 h4]
  go_enter Tryz.func145, Tryz.ntmps145
  go_wp2
  go_ret
  exact ⟨rfl, (Below.refl _ _).alloc (Nat.le_refl _) _⟩
theorem implRuleOk (z : Int) (w : World) : Calls Tryz.prog 97 #[.int .i64 z] w fun e w' => e = .returned (.bool (ruleB z)) ∧ w' = w := by
  unfold ruleB
  by_cases h0 : z = 0
  · subst h0
    go_enter Tryz.func97, Tryz.ntmps97
    go_wp2
    go_ret
    exact ⟨rfl, rfl⟩
  by_cases h1 : z = 1
  · subst h1
    go_enter Tryz.func97, Tryz.ntmps97
    go_wp2
    go_ret
    exact ⟨rfl, rfl⟩
  rw [decide_eq_false h0, decide_eq_false h1]
  have hd : (z == 0) = false := by simp [h0]
  have hd' : (z == 1) = false := by simp [h1]
  go_enter Tryz.func97, Tryz.ntmps97
  go_wp2
  go_ret
  exact ⟨rfl, rfl⟩

set_option maxRecDepth 100000 in
set_option maxHeartbeats 2000000 in
theorem implSegsOk (v : Value) (r : Rgm) (w : World) (h : GRow w v r) (ht : r.to ≤ 9223372036854775807) (hE : ErrT w) : Calls Tryz.prog 94 #[v] w fun e w' => e = .returned (.bool (segsB r.fr r.to r.segs)) ∧ Below w.heap.size w w' := by
  obtain ⟨nm, f, t, l, ps, rs, ru⟩ := r
  obtain ⟨v1, v2, v3, rfl, _, x1, x2, x3⟩ := h
  dsimp only at x1 x2 x3
  obtain ⟨W0, hW0, d0, d1, d2, d3, d4, d5, d6, hBl⟩ := seven_box w (.string nm) (.int .i64 f) (.int .i64 t) v1 v2 v3 (.int .i64 ru) 36
  have hrow := x1.below (hBl ⟨W0, Below.refl _ _⟩)
  have KT : Hid (∀ y : Later W0, l.length ≤ 1048576 → (∀ s ∈ l, -9223372036854775808 ≤ s.to) → Calls Tryz.prog 144 #[.int .i64 f, .int .i64 t, v1] y.w fun e w' => e = .returned (.int .i64 (tilesZ f t l)) ∧ Below y.w.heap.size y.w w') := fun y h1 h2 => implTiles f t v1 l y.w (hrow.below y.below) h1 ht h2 (hE.below (hBl y))
  obtain ⟨a1, c1, rfl, _⟩ := x1
  obtain ⟨a2, c2, rfl, _⟩ := x2
  obtain ⟨a3, c3, rfl, _⟩ := x3
  obtain ⟨a, c, ev, hl, hm, H⟩ := hrow
  cases ev
  have HK := hideP H
  have HW0 := hideP hW0
  have HBl := hideP hBl
  unfold maxLen at hm
  dsimp only
  clear H hW0 hBl
  clear ht hE
  by_cases n1 : l.length < 1
  · have HR := hideP (segs_short (f := f) (t := t) (inB_false (x := (l.length : Int)) (a := 1) (b := 20) (.inl (by omega))))
    have q1 : (l.length : Int) < 1 := by omega
    go_enter Tryz.func94, Tryz.ntmps94
    go_wp2
    rw [← HW0.out]
    go_ret
    exact ⟨ret_bool HR.out.symm, HBl.out ⟨W0, Below.refl _ _⟩⟩
  have q1 : decide ((l.length : Int) < 1) = false := decide_eq_false (by omega)
  by_cases n2 : 20 < l.length
  · have HR := hideP (segs_short (f := f) (t := t) (inB_false (x := (l.length : Int)) (a := 1) (b := 20) (.inr (by omega))))
    have q2 : (20 : Int) < (l.length : Int) := by omega
    go_enter Tryz.func94, Tryz.ntmps94
    go_wp2
    rw [← HW0.out]
    go_ret
    exact ⟨ret_bool HR.out.symm, HBl.out ⟨W0, Below.refl _ _⟩⟩
  have q2 : decide ((20 : Int) < (l.length : Int)) = false := decide_eq_false (by omega)
  have HI : Hid (inB l.length 1 20 = true) := inB_true (by omega) (by omega)
  have hst : Hid (Below W0.heap.size W0 W0) := Below.refl _ _
  go_enter Tryz.func94, Tryz.ntmps94
  go_wp2
  rw [← HW0.out]
  go_loopw [18] (fun i wr => ∃ k : Nat, k ≤ l.length ∧ i = .int .i64 (k : Int) ∧ Hid (allTo (segFit f t l) k = true) ∧ ∃ y : Later W0, wr = y.w) (fun i _ => l.length - (intOf i).toNat)
  case atStart => exact ⟨0, Nat.zero_le _, rfl, rfl, ⟨W0, hst.out⟩, rfl⟩
  case round =>
    obtain ⟨k, hk, rfl, HF, y, rfl⟩ := hrel
    by_cases hlt : k < l.length
    · obtain ⟨g, rfl, hg, x⟩ := HK.out k hlt
      obtain ⟨e0, e1, e2, e3, e4⟩ := (x.below y.below hg).seg
      obtain ⟨W1, hW1, c10, c11, c12, c13, c14, hBl1⟩ := seg_box y.w (atK segK l k).fr (atK segK l k).to (atK segK l k).cal (atK segK l k).sty (atK segK l k).off 88
      have hY : ∀ z : Later W1, Below W0.heap.size W0 z.w := fun z => y.on (hBl1 z)
      have D1 : ∀ z : Later W1, z.w.cell? ⟨w.heap.size, 1, none⟩ = some (.int .i64 f) := fun z => d1 ⟨z.w, hY z⟩
      have D2 : ∀ z : Later W1, z.w.cell? ⟨w.heap.size, 2, none⟩ = some (.int .i64 t) := fun z => d2 ⟨z.w, hY z⟩
      have D3 : ∀ z : Later W1, z.w.cell? ⟨w.heap.size, 3, none⟩ = some (.slice (some ⟨g, 0, none⟩) l.length c1) := fun z => d3 ⟨z.w, hY z⟩
      have HP : Hid (∀ j, k = j + 1 → ∀ z : Later W1, z.w.cell? ⟨g, j * 5, none⟩ = some (.int .i64 (atK segK l j).fr)) := fun j e z => by
        obtain ⟨g', e', hg', x'⟩ := HK.out j (by omega)
        cases e'
        exact ((x'.below (hY z) hg').seg).1
      have F1 := hideP (fun h => segs_bad (f := f) (t := t) (k := k) (fit_no1 h) hlt)
      have F2 := hideP (fun h => segs_bad (f := f) (t := t) (k := k) (fit_no2 h) hlt)
      have F3 := hideP (fun h => segs_bad (f := f) (t := t) (k := k) (fit_no3 h) hlt)
      have F4 := hideP (fun (j : Nat) (e : k = j + 1) h => segs_bad (f := f) (t := t) (k := k) (fit_no4 e h) hlt)
      have F5 := hideP (fun h1 h2 h3 h4 => allTo_next HF.out (fit_yes (f := f) (t := t) (k := k) h1 h2 h3 h4))
      have HW1 := hideP hW1
      have HY := hideP hY
      clear x hW1 hBl1 hY
      generalize atK segK l k = s at *
      have KO : Hid (∀ W, Calls Tryz.prog 143 #[.agg #[.int .i64 s.fr, .int .i64 s.to, .int .i64 s.cal, .int .i64 s.sty, .int .i64 s.off]] W fun e w' => e = .returned (.bool (segOkB s)) ∧ Below W.heap.size W w') := fun W => implSegOk s W
      generalize segOkB s = b1 at *
      go_wp2_with fail
      rw [← HW1.out]
      refine (KO.out _).mono ?_
      rintro e w2 ⟨rfl, hb⟩
      obtain ⟨z, rfl⟩ := Later.of hb
      clear hb e0 e1 e2 e3 e4
      cases b1
      · have HR := hideP (F1.out rfl)
        go_wp2
        go_ret
        exact ⟨ret_bool HR.out.symm, HBl.out ⟨z.w, HY.out z⟩⟩
      by_cases h2 : f ≤ s.fr
      case neg =>
        have HR := hideP (F2.out (by omega))
        have q3 : s.fr < f := by omega
        go_wp2
        go_ret
        exact ⟨ret_bool HR.out.symm, HBl.out ⟨z.w, HY.out z⟩⟩
      have q3 : decide (s.fr < f) = false := decide_eq_false (by omega)
      by_cases h3 : s.to ≤ t
      case neg =>
        have HR := hideP (F3.out (by omega))
        have q4 : t < s.to := by omega
        go_wp2
        go_ret
        exact ⟨ret_bool HR.out.symm, HBl.out ⟨z.w, HY.out z⟩⟩
      have q4 : decide (t < s.to) = false := decide_eq_false (by omega)
      obtain rfl | ⟨j, rfl⟩ : k = 0 ∨ ∃ j, k = j + 1 := by cases k with | zero => exact .inl rfl | succ j => exact .inr ⟨j, rfl⟩
      · have HN := hideP (F5.out rfl h2 h3 (fun j e => by omega))
        go_wp2_with fail
        refine wp_region_later (W := W1) z.below (by kernel_rfl) (by kernel_rfl) ?_
        repeat (go_big_quiet_step (fail))
        refine wpQuiet_nil ?_
        intro _ hw'
        obtain ⟨u, rfl⟩ := hw'
        go_wp2
        exact ⟨⟨0 + 1, by omega, by go_num, HN.out, ⟨u.w, HY.out u⟩, rfl⟩, by simp [intOf]; omega⟩
      · have e5 := HP.out j rfl
        have G4 := hideP (F4.out j rfl)
        have G5 := hideP (fun (h4 : (atK segK l j).fr < s.fr) => F5.out rfl h2 h3 (fun i e => (show i = j from by omega) ▸ h4))
        have hj0 : decide ((0 : Int) < (j : Int) + 1) = true := decide_eq_true (by omega)
        clear HP F1 F2 F3 F4 F5
        generalize (atK segK l j).fr = P at *
        by_cases h4 : P < s.fr
        case neg =>
          have HR := hideP (G4.out (by omega))
          have q5 : decide (s.fr ≤ P) = true := decide_eq_true (by omega)
          go_wp2_with fail
          refine wp_region_later (W := W1) z.below (by kernel_rfl) (by kernel_rfl) ?_
          repeat (go_big_quiet_step (fail))
          refine wpQuiet_nil ?_
          intro _ hw'
          obtain ⟨u, rfl⟩ := hw'
          go_wp2
          go_ret
          exact ⟨ret_bool HR.out.symm, HBl.out ⟨u.w, HY.out u⟩⟩
        have HN := hideP (G5.out h4)
        have q5 : decide (s.fr ≤ P) = false := decide_eq_false (by omega)
        go_wp2_with fail
        refine wp_region_later (W := W1) z.below (by kernel_rfl) (by kernel_rfl) ?_
        repeat (go_big_quiet_step (fail))
        refine wpQuiet_nil ?_
        intro _ hw'
        obtain ⟨u, rfl⟩ := hw'
        go_wp2
        exact ⟨⟨j + 1 + 1, by omega, by go_num, HN.out, ⟨u.w, HY.out u⟩, rfl⟩, by simp [intOf]; omega⟩
    · have hkn : k = l.length := by omega
      have HA : Hid (allTo (segFit f t l) l.length = true) := by rw [← hkn]; exact HF
      have HR := hideP (segs_end HI.out HA.out)
      have KC := hideP (KT.out y (by omega) (segs_days HA.out))
      clear KT HF
      subst hkn
      generalize tilesZ f t l = Z at *
      go_wp2_with fail
      refine KC.out.mono ?_
      rintro e w2 ⟨rfl, hb⟩
      have HB2 : Hid (Below w.heap.size w w2) := HBl.out ⟨w2, y.on hb⟩
      clear hb
      by_cases hz : Z = 0
      · subst hz
        go_wp2
        go_ret
        exact ⟨ret_bool (by rw [HR.out]; rfl), HB2.out⟩
      · have hz' : (Z == 0) = false := by simp [hz]
        have HR2 : Hid (segsB f t l = false) := by unfold Hid; rw [HR.out]; exact decide_eq_false hz
        go_wp2
        go_ret
        exact ⟨ret_bool HR2.out.symm, HB2.out⟩

set_option maxRecDepth 100000 in
set_option maxHeartbeats 2000000 in
theorem implPatchesOk (v : Value) (r : Rgm) (w : World) (h : GRow w v r) : Calls Tryz.prog 95 #[v] w fun e w' => e = .returned (.bool (patsB r.fr r.to r.pats)) ∧ Below w.heap.size w w' := by
  obtain ⟨nm, f, t, ss, l, rs, ru⟩ := r
  obtain ⟨v1, v2, v3, rfl, _, x1, x2, x3⟩ := h
  dsimp only at x1 x2 x3
  obtain ⟨W0, hW0, d0, d1, d2, d3, d4, d5, d6, hBl⟩ := seven_box w (.string nm) (.int .i64 f) (.int .i64 t) v1 v2 v3 (.int .i64 ru) 36
  have hrow := x2.below (hBl ⟨W0, Below.refl _ _⟩)
  obtain ⟨a1, c1, rfl, _⟩ := x1
  obtain ⟨a2, c2, rfl, _⟩ := x2
  obtain ⟨a3, c3, rfl, _⟩ := x3
  obtain ⟨a, c, ev, hl, hm, H⟩ := hrow
  cases ev
  have HK := hideP H
  have HW0 := hideP hW0
  have HBl := hideP hBl
  unfold maxLen at hm
  dsimp only
  clear H hW0 hBl
  by_cases n2 : 8 < l.length
  · have HR : Hid (patsB f t l = false) := by unfold Hid patsB; rw [decide_eq_false (by omega), Bool.false_and]
    have q2 : (8 : Int) < (l.length : Int) := by omega
    go_enter Tryz.func95, Tryz.ntmps95
    go_wp2
    rw [← HW0.out]
    go_ret
    exact ⟨ret_bool HR.out.symm, HBl.out ⟨W0, Below.refl _ _⟩⟩
  have q2 : decide ((8 : Int) < (l.length : Int)) = false := decide_eq_false (by omega)
  have HI : Hid (decide ((l.length : Int) ≤ 8) = true) := decide_eq_true (by omega)
  have hst : Hid (Below W0.heap.size W0 W0) := Below.refl _ _
  go_enter Tryz.func95, Tryz.ntmps95
  go_wp2
  rw [← HW0.out]
  go_loopw [12] (fun i wr => ∃ k : Nat, k ≤ l.length ∧ i = .int .i64 (k : Int) ∧ Hid (allTo (patFit f t l) k = true) ∧ ∃ y : Later W0, wr = y.w) (fun i _ => l.length - (intOf i).toNat)
  case atStart => exact ⟨0, Nat.zero_le _, rfl, rfl, ⟨W0, hst.out⟩, rfl⟩
  case round =>
    obtain ⟨k, hk, rfl, HF, y, rfl⟩ := hrel
    by_cases hlt : k < l.length
    · obtain ⟨g, rfl, hg, x⟩ := HK.out k hlt
      obtain ⟨e0, e1, e2⟩ := (x.below y.below hg).pat
      obtain ⟨W1, hW1, c10, c11, c12, hBl1⟩ := pat_box y.w (atK patK l k).day (atK patK l k).mon (atK patK l k).dom 92
      have hY : ∀ z : Later W1, Below W0.heap.size W0 z.w := fun z => y.on (hBl1 z)
      have D1 : ∀ z : Later W1, z.w.cell? ⟨w.heap.size, 1, none⟩ = some (.int .i64 f) := fun z => d1 ⟨z.w, hY z⟩
      have D2 : ∀ z : Later W1, z.w.cell? ⟨w.heap.size, 2, none⟩ = some (.int .i64 t) := fun z => d2 ⟨z.w, hY z⟩
      have D3 : ∀ z : Later W1, z.w.cell? ⟨w.heap.size, 4, none⟩ = some (.slice (some ⟨g, 0, none⟩) l.length c2) := fun z => d4 ⟨z.w, hY z⟩
      have HP : Hid (∀ j, k = j + 1 → ∀ z : Later W1, z.w.cell? ⟨g, j * 3, none⟩ = some (.int .i64 (atK patK l j).day)) := fun j e z => by
        obtain ⟨g', e', hg', x'⟩ := HK.out j (by omega)
        cases e'
        exact ((x'.below (hY z) hg').pat).1
      have F1 := hideP (fun h => pats_bad (f := f) (t := t) (k := k) (pfit_no1 h) hlt)
      have F2 := hideP (fun h => pats_bad (f := f) (t := t) (k := k) (pfit_no2 h) hlt)
      have F4 := hideP (fun (j : Nat) (e : k = j + 1) h => pats_bad (f := f) (t := t) (k := k) (pfit_no4 e h) hlt)
      have F5 := hideP (fun h1 h2 h4 => allTo_next HF.out (pfit_yes (f := f) (t := t) (k := k) h1 h2 h4))
      have HW1 := hideP hW1
      have HY := hideP hY
      clear x hW1 hBl1 hY
      generalize atK patK l k = s at *
      have KO : Hid (∀ W, Calls Tryz.prog 145 #[.agg #[.int .i64 s.day, .int .i64 s.mon, .int .i64 s.dom]] W fun e w' => e = .returned (.bool (patB s)) ∧ Below W.heap.size W w') := fun W => implPatchOk s W
      generalize patB s = b1 at *
      go_wp2_with fail
      rw [← HW1.out]
      refine (KO.out _).mono ?_
      rintro e w2 ⟨rfl, hb⟩
      obtain ⟨z, rfl⟩ := Later.of hb
      clear hb e0 e1 e2
      cases b1
      · have HR := hideP (F1.out rfl)
        go_wp2
        go_ret
        exact ⟨ret_bool HR.out.symm, HBl.out ⟨z.w, HY.out z⟩⟩
      by_cases h2 : f ≤ s.day
      case neg =>
        have HR := hideP (F2.out (inB_false (.inl (by omega))))
        have q3 : s.day < f := by omega
        go_wp2
        go_ret
        exact ⟨ret_bool HR.out.symm, HBl.out ⟨z.w, HY.out z⟩⟩
      have q3 : decide (s.day < f) = false := decide_eq_false (by omega)
      by_cases h3 : s.day ≤ t
      case neg =>
        have HR := hideP (F2.out (inB_false (.inr (by omega))))
        have q4 : t < s.day := by omega
        go_wp2
        go_ret
        exact ⟨ret_bool HR.out.symm, HBl.out ⟨z.w, HY.out z⟩⟩
      have q4 : decide (t < s.day) = false := decide_eq_false (by omega)
      obtain rfl | ⟨j, rfl⟩ : k = 0 ∨ ∃ j, k = j + 1 := by cases k with | zero => exact .inl rfl | succ j => exact .inr ⟨j, rfl⟩
      · have HN := hideP (F5.out rfl (inB_true h2 h3) (fun j e => by omega))
        go_wp2_with fail
        refine wp_region_later (W := W1) z.below (by kernel_rfl) (by kernel_rfl) ?_
        repeat (go_big_quiet_step (fail))
        refine wpQuiet_nil ?_
        intro _ hw'
        obtain ⟨u, rfl⟩ := hw'
        go_wp2
        exact ⟨⟨0 + 1, by omega, by go_num, HN.out, ⟨u.w, HY.out u⟩, rfl⟩, by simp [intOf]; omega⟩
      · have e5 := HP.out j rfl
        have G4 := hideP (F4.out j rfl)
        have G5 := hideP (fun (h4 : (atK patK l j).day < s.day) => F5.out rfl (inB_true h2 h3) (fun i e => (show i = j from by omega) ▸ h4))
        have hj0 : decide ((0 : Int) < (j : Int) + 1) = true := decide_eq_true (by omega)
        clear HP F1 F2 F4 F5
        generalize (atK patK l j).day = P at *
        by_cases h4 : P < s.day
        case neg =>
          have HR := hideP (G4.out (by omega))
          have q5 : decide (s.day ≤ P) = true := decide_eq_true (by omega)
          go_wp2_with fail
          refine wp_region_later (W := W1) z.below (by kernel_rfl) (by kernel_rfl) ?_
          repeat (go_big_quiet_step (fail))
          refine wpQuiet_nil ?_
          intro _ hw'
          obtain ⟨u, rfl⟩ := hw'
          go_wp2
          go_ret
          exact ⟨ret_bool HR.out.symm, HBl.out ⟨u.w, HY.out u⟩⟩
        have HN := hideP (G5.out h4)
        have q5 : decide (s.day ≤ P) = false := decide_eq_false (by omega)
        go_wp2_with fail
        refine wp_region_later (W := W1) z.below (by kernel_rfl) (by kernel_rfl) ?_
        repeat (go_big_quiet_step (fail))
        refine wpQuiet_nil ?_
        intro _ hw'
        obtain ⟨u, rfl⟩ := hw'
        go_wp2
        exact ⟨⟨j + 1 + 1, by omega, by go_num, HN.out, ⟨u.w, HY.out u⟩, rfl⟩, by simp [intOf]; omega⟩
    · have hkn : k = l.length := by omega
      have HA : Hid (allTo (patFit f t l) l.length = true) := by rw [← hkn]; exact HF
      have HR : Hid (patsB f t l = true) := (pats_end HA.out).trans HI.out
      clear HF
      subst hkn
      go_wp2
      go_ret
      exact ⟨ret_bool HR.out.symm, HBl.out y⟩
end Go.Proofs.YtaakgidndjoocaaGreatDoor.ctr

namespace Go.Proofs.YtaakgidndjoocaaGreatDoor.ctr
open Go.RowKit

set_option maxRecDepth 100000 in
set_option maxHeartbeats 2000000 in
theorem specSegs9 (v : Value) (r : Rgm) (w : World) (h : GRow w v r) (hf : -9223372036854775808 ≤ r.fr) (ht : r.to ≤ 9223372036854775807) : Calls Tryz.prog 82 #[v] w fun e w' => e = .returned (.bool (segsB r.fr r.to r.segs)) ∧ Below w.heap.size w w' := by
  obtain ⟨nm, f, t, l, ps, rs, ru⟩ := r
  obtain ⟨v1, v2, v3, rfl, _, x1, x2, x3⟩ := h
  dsimp only at x1 x2 x3
  obtain ⟨W0, hW0, d0, d1, d2, d3, d4, d5, d6, hBl⟩ := seven_box w (.string nm) (.int .i64 f) (.int .i64 t) v1 v2 v3 (.int .i64 ru) 36
  have hrow := x1.below (hBl ⟨W0, Below.refl _ _⟩)
  have KT : Hid (∀ y : Later W0, l.length ≤ 1048576 → Calls Tryz.prog 138 #[.int .i64 f, .int .i64 t, v1] y.w fun e w' => e = .returned (.int .i64 (tilesZ f t l)) ∧ Below y.w.heap.size y.w w') := fun y h1 => specTiles f t v1 l y.w (hrow.below y.below) h1 hf ht
  obtain ⟨a1, c1, rfl, _⟩ := x1
  obtain ⟨a2, c2, rfl, _⟩ := x2
  obtain ⟨a3, c3, rfl, _⟩ := x3
  obtain ⟨a, c, ev, hl, hm, H⟩ := hrow
  cases ev
  have HK := hideP H
  have HW0 := hideP hW0
  have HBl := hideP hBl
  unfold maxLen at hm
  dsimp only
  clear H hW0 hBl
  clear hf ht
  have KL : Hid (∀ W, Calls Tryz.prog 107 #[.int .i64 (l.length : Int), .int .i64 1, .int .i64 20] W fun e w' => e = .returned (.bool (inB (l.length : Int) 1 20)) ∧ w' = W) := fun W => l01In _ _ _ W
  have hst : Hid (Below W0.heap.size W0 W0) := Below.refl _ _
  go_enter Tryz.func82, Tryz.ntmps82
  go_wp2
  rw [← HW0.out]
  go_loopw [3] (fun i wr => ∃ k : Nat, k ≤ l.length ∧ i = .int .i64 (k : Int) ∧ Hid (allTo (segFit f t l) k = true) ∧ ∃ y : Later W0, wr = y.w) (fun i _ => l.length - (intOf i).toNat)
  case atStart => exact ⟨0, Nat.zero_le _, rfl, rfl, ⟨W0, hst.out⟩, rfl⟩
  case round =>
    obtain ⟨k, hk, rfl, HF, y, rfl⟩ := hrel
    by_cases hlt : k < l.length
    · obtain ⟨g, rfl, hg, x⟩ := HK.out k hlt
      obtain ⟨e0, e1, e2, e3, e4⟩ := (x.below y.below hg).seg
      obtain ⟨W1, hW1, c10, c11, c12, c13, c14, hBl1⟩ := seg_box y.w (atK segK l k).fr (atK segK l k).to (atK segK l k).cal (atK segK l k).sty (atK segK l k).off 88
      have hY : ∀ z : Later W1, Below W0.heap.size W0 z.w := fun z => y.on (hBl1 z)
      have D1 : ∀ z : Later W1, z.w.cell? ⟨w.heap.size, 1, none⟩ = some (.int .i64 f) := fun z => d1 ⟨z.w, hY z⟩
      have D2 : ∀ z : Later W1, z.w.cell? ⟨w.heap.size, 2, none⟩ = some (.int .i64 t) := fun z => d2 ⟨z.w, hY z⟩
      have D3 : ∀ z : Later W1, z.w.cell? ⟨w.heap.size, 3, none⟩ = some (.slice (some ⟨g, 0, none⟩) l.length c1) := fun z => d3 ⟨z.w, hY z⟩
      have HP : Hid (∀ j, k = j + 1 → ∀ z : Later W1, z.w.cell? ⟨g, j * 5, none⟩ = some (.int .i64 (atK segK l j).fr)) := fun j e z => by
        obtain ⟨g', e', hg', x'⟩ := HK.out j (by omega)
        cases e'
        exact ((x'.below (hY z) hg').seg).1
      have F1 := hideP (fun h => segs_bad (f := f) (t := t) (k := k) (fit_no1 h) hlt)
      have F2 := hideP (fun h => segs_bad (f := f) (t := t) (k := k) (fit_no2 h) hlt)
      have F3 := hideP (fun h => segs_bad (f := f) (t := t) (k := k) (fit_no3 h) hlt)
      have F4 := hideP (fun (j : Nat) (e : k = j + 1) h => segs_bad (f := f) (t := t) (k := k) (fit_no4 e h) hlt)
      have F5 := hideP (fun h1 h2 h3 h4 => allTo_next HF.out (fit_yes (f := f) (t := t) (k := k) h1 h2 h3 h4))
      have HW1 := hideP hW1
      have HY := hideP hY
      clear x hW1 hBl1 hY
      generalize atK segK l k = s at *
      have KO : ∀ y : Later W1, Calls Tryz.prog 137 #[.agg #[.int .i64 s.fr, .int .i64 s.to, .int .i64 s.cal, .int .i64 s.sty, .int .i64 s.off]] y.w fun e w' => e = .returned (.bool (segOkB s)) ∧ Below y.w.heap.size y.w w' := fun y => specSegOk s y.w
      generalize segOkB s = b1 at *
      cases b1
      · have HR := hideP (F1.out rfl)
        go_wp2_with fail
        rw [← HW1.out]
        refine wp_region_later (W := W1) (Below.refl _ _) (by kernel_rfl) (by kernel_rfl) ?_
        repeat (go_big_quiet_step (first | (go_at_call 137; exact calls_later (KO _)) | fail))
        refine wpQuiet_nil ?_
        intro _ hw'
        obtain ⟨u, rfl⟩ := hw'
        go_wp2
        go_ret
        exact ⟨ret_bool HR.out.symm, HBl.out ⟨u.w, HY.out u⟩⟩
      by_cases h2 : f ≤ s.fr
      case neg =>
        have HR := hideP (F2.out (by omega))
        have q3 : decide (s.fr < f) = true := decide_eq_true (by omega)
        go_wp2_with fail
        rw [← HW1.out]
        refine wp_region_later (W := W1) (Below.refl _ _) (by kernel_rfl) (by kernel_rfl) ?_
        repeat (go_big_quiet_step (first | (go_at_call 137; exact calls_later (KO _)) | fail))
        refine wpQuiet_nil ?_
        intro _ hw'
        obtain ⟨u, rfl⟩ := hw'
        go_wp2
        go_ret
        exact ⟨ret_bool HR.out.symm, HBl.out ⟨u.w, HY.out u⟩⟩
      have q3 : decide (s.fr < f) = false := decide_eq_false (by omega)
      by_cases h3 : s.to ≤ t
      case neg =>
        have HR := hideP (F3.out (by omega))
        have q4 : decide (t < s.to) = true := decide_eq_true (by omega)
        go_wp2_with fail
        rw [← HW1.out]
        refine wp_region_later (W := W1) (Below.refl _ _) (by kernel_rfl) (by kernel_rfl) ?_
        repeat (go_big_quiet_step (first | (go_at_call 137; exact calls_later (KO _)) | fail))
        refine wpQuiet_nil ?_
        intro _ hw'
        obtain ⟨u, rfl⟩ := hw'
        go_wp2
        go_ret
        exact ⟨ret_bool HR.out.symm, HBl.out ⟨u.w, HY.out u⟩⟩
      have q4 : decide (t < s.to) = false := decide_eq_false (by omega)
      obtain rfl | ⟨j, rfl⟩ : k = 0 ∨ ∃ j, k = j + 1 := by cases k with | zero => exact .inl rfl | succ j => exact .inr ⟨j, rfl⟩
      · have HN := hideP (F5.out rfl h2 h3 (fun j e => by omega))
        go_wp2_with fail
        rw [← HW1.out]
        refine wp_region_later (W := W1) (Below.refl _ _) (by kernel_rfl) (by kernel_rfl) ?_
        repeat (go_big_quiet_step (first | (go_at_call 137; exact calls_later (KO _)) | fail))
        refine wpQuiet_nil ?_
        intro _ hw'
        obtain ⟨u, rfl⟩ := hw'
        go_wp2
        exact ⟨⟨0 + 1, by omega, by go_num, HN.out, ⟨u.w, HY.out u⟩, rfl⟩, by simp [intOf]; omega⟩
      · have e5 := HP.out j rfl
        have G4 := hideP (F4.out j rfl)
        have G5 := hideP (fun (h4 : (atK segK l j).fr < s.fr) => F5.out rfl h2 h3 (fun i e => (show i = j from by omega) ▸ h4))
        have hj0 : decide ((0 : Int) < (j : Int) + 1) = true := decide_eq_true (by omega)
        clear HP F1 F2 F3 F4 F5
        generalize (atK segK l j).fr = P at *
        by_cases h4 : P < s.fr
        case neg =>
          have HR := hideP (G4.out (by omega))
          have q5 : decide (s.fr ≤ P) = true := decide_eq_true (by omega)
          go_wp2_with fail
          rw [← HW1.out]
          refine wp_region_later (W := W1) (Below.refl _ _) (by kernel_rfl) (by kernel_rfl) ?_
          repeat (go_big_quiet_step (first | (go_at_call 137; exact calls_later (KO _)) | fail))
          refine wpQuiet_nil ?_
          intro _ hw'
          obtain ⟨u, rfl⟩ := hw'
          go_wp2
          go_ret
          exact ⟨ret_bool HR.out.symm, HBl.out ⟨u.w, HY.out u⟩⟩
        have HN := hideP (G5.out h4)
        have q5 : decide (s.fr ≤ P) = false := decide_eq_false (by omega)
        go_wp2_with fail
        rw [← HW1.out]
        refine wp_region_later (W := W1) (Below.refl _ _) (by kernel_rfl) (by kernel_rfl) ?_
        repeat (go_big_quiet_step (first | (go_at_call 137; exact calls_later (KO _)) | fail))
        refine wpQuiet_nil ?_
        intro _ hw'
        obtain ⟨u, rfl⟩ := hw'
        go_wp2
        exact ⟨⟨j + 1 + 1, by omega, by go_num, HN.out, ⟨u.w, HY.out u⟩, rfl⟩, by simp [intOf]; omega⟩
    · have hkn : k = l.length := by omega
      have HA : Hid (allTo (segFit f t l) l.length = true) := by rw [← hkn]; exact HF
      have HR1 := hideP (fun h => segs_end (f := f) (t := t) (l := l) h HA.out)
      have HR0 := hideP (fun h => segs_short (f := f) (t := t) (l := l) h)
      have HL : Hid (inB (l.length : Int) 1 20 = true → l.length ≤ 1048576) := fun h => by
        by_cases hx : l.length ≤ 1048576
        · exact hx
        · rw [inB_false (.inr (by omega))] at h; cases h
      have KC := hideP (fun h => KT.out y (HL.out h))
      clear KT HF
      subst hkn
      generalize inB (l.length : Int) 1 20 = b at *
      generalize tilesZ f t l = Z at *
      go_wp2_with fail
      refine (KL.out _).mono ?_
      rintro e w1 ⟨rfl, rfl⟩
      cases b
      · have HR := hideP (HR0.out rfl)
        go_wp2
        go_ret
        exact ⟨ret_bool HR.out.symm, HBl.out y⟩
      have HR := hideP (HR1.out rfl)
      have KD := hideP (KC.out rfl)
      clear KC HR1 HR0 HL
      go_wp2_with fail
      refine KD.out.mono ?_
      rintro e w2 ⟨rfl, hb⟩
      have HB2 : Hid (Below w.heap.size w w2) := HBl.out ⟨w2, y.on hb⟩
      clear hb
      by_cases hz : Z = 0
      · subst hz
        go_wp2
        go_ret
        exact ⟨ret_bool (by rw [HR.out]; rfl), HB2.out⟩
      · have hz' : (Z == 0) = false := by simp [hz]
        have HR2 : Hid (segsB f t l = false) := by unfold Hid; rw [HR.out]; exact decide_eq_false hz
        go_wp2
        go_ret
        exact ⟨ret_bool HR2.out.symm, HB2.out⟩

set_option maxRecDepth 100000 in
set_option maxHeartbeats 2000000 in
theorem specPatches9 (v : Value) (r : Rgm) (w : World) (h : GRow w v r) : Calls Tryz.prog 83 #[v] w fun e w' => e = .returned (.bool (patsB r.fr r.to r.pats)) ∧ Below w.heap.size w w' := by
  obtain ⟨nm, f, t, ss, l, rs, ru⟩ := r
  obtain ⟨v1, v2, v3, rfl, _, x1, x2, x3⟩ := h
  dsimp only at x1 x2 x3
  obtain ⟨W0, hW0, d0, d1, d2, d3, d4, d5, d6, hBl⟩ := seven_box w (.string nm) (.int .i64 f) (.int .i64 t) v1 v2 v3 (.int .i64 ru) 36
  have hrow := x2.below (hBl ⟨W0, Below.refl _ _⟩)
  obtain ⟨a1, c1, rfl, _⟩ := x1
  obtain ⟨a2, c2, rfl, _⟩ := x2
  obtain ⟨a3, c3, rfl, _⟩ := x3
  obtain ⟨a, c, ev, hl, hm, H⟩ := hrow
  cases ev
  have HK := hideP H
  have HW0 := hideP hW0
  have HBl := hideP hBl
  unfold maxLen at hm
  dsimp only
  clear H hW0 hBl
  have hst : Hid (Below W0.heap.size W0 W0) := Below.refl _ _
  go_enter Tryz.func83, Tryz.ntmps83
  go_wp2
  rw [← HW0.out]
  go_loopw [3] (fun i wr => ∃ k : Nat, k ≤ l.length ∧ i = .int .i64 (k : Int) ∧ Hid (allTo (patFit f t l) k = true) ∧ ∃ y : Later W0, wr = y.w) (fun i _ => l.length - (intOf i).toNat)
  case atStart => exact ⟨0, Nat.zero_le _, rfl, rfl, ⟨W0, hst.out⟩, rfl⟩
  case round =>
    obtain ⟨k, hk, rfl, HF, y, rfl⟩ := hrel
    by_cases hlt : k < l.length
    · obtain ⟨g, rfl, hg, x⟩ := HK.out k hlt
      obtain ⟨e0, e1, e2⟩ := (x.below y.below hg).pat
      obtain ⟨W1, hW1, c10, c11, c12, hBl1⟩ := pat_box y.w (atK patK l k).day (atK patK l k).mon (atK patK l k).dom 92
      have hY : ∀ z : Later W1, Below W0.heap.size W0 z.w := fun z => y.on (hBl1 z)
      have D1 : ∀ z : Later W1, z.w.cell? ⟨w.heap.size, 1, none⟩ = some (.int .i64 f) := fun z => d1 ⟨z.w, hY z⟩
      have D2 : ∀ z : Later W1, z.w.cell? ⟨w.heap.size, 2, none⟩ = some (.int .i64 t) := fun z => d2 ⟨z.w, hY z⟩
      have D3 : ∀ z : Later W1, z.w.cell? ⟨w.heap.size, 4, none⟩ = some (.slice (some ⟨g, 0, none⟩) l.length c2) := fun z => d4 ⟨z.w, hY z⟩
      have HP : Hid (∀ j, k = j + 1 → ∀ z : Later W1, z.w.cell? ⟨g, j * 3, none⟩ = some (.int .i64 (atK patK l j).day)) := fun j e z => by
        obtain ⟨g', e', hg', x'⟩ := HK.out j (by omega)
        cases e'
        exact ((x'.below (hY z) hg').pat).1
      have F1 := hideP (fun h => pats_bad (f := f) (t := t) (k := k) (pfit_no1 h) hlt)
      have F2 := hideP (fun h => pats_bad (f := f) (t := t) (k := k) (pfit_no2 h) hlt)
      have F4 := hideP (fun (j : Nat) (e : k = j + 1) h => pats_bad (f := f) (t := t) (k := k) (pfit_no4 e h) hlt)
      have F5 := hideP (fun h1 h2 h4 => allTo_next HF.out (pfit_yes (f := f) (t := t) (k := k) h1 h2 h4))
      have HW1 := hideP hW1
      have HY := hideP hY
      clear x hW1 hBl1 hY
      generalize atK patK l k = s at *
      have KA : ∀ y : Later W1, Calls Tryz.prog 107 #[.int .i64 s.day, .int .i64 f, .int .i64 t] y.w fun e w' => e = .returned (.bool (inB s.day f t)) ∧ w' = y.w := fun y => l01In _ _ _ y.w
      have KM : ∀ y : Later W1, Calls Tryz.prog 107 #[.int .i64 s.mon, .int .i64 1, .int .i64 12] y.w fun e w' => e = .returned (.bool (inB s.mon 1 12)) ∧ w' = y.w := fun y => l01In _ _ _ y.w
      have KD : ∀ y : Later W1, Calls Tryz.prog 107 #[.int .i64 s.dom, .int .i64 1, .int .i64 31] y.w fun e w' => e = .returned (.bool (inB s.dom 1 31)) ∧ w' = y.w := fun y => l01In _ _ _ y.w
      have HPB : Hid (patB s = (inB s.mon 1 12 && inB s.dom 1 31)) := rfl
      generalize patB s = pb at *
      obtain ⟨s0, s1, s2⟩ := s
      dsimp only at *
      generalize inB s0 f t = b1 at *
      generalize inB s1 1 12 = b2 at *
      generalize inB s2 1 31 = b3 at *
      cases b1
      · have HR := hideP (F2.out rfl)
        go_wp2_with fail
        rw [← HW1.out]
        refine wp_region_later (W := W1) (Below.refl _ _) (by kernel_rfl) (by kernel_rfl) ?_
        repeat (go_big_quiet_step (first | (go_at_call_of 107 s0; exact calls_same (KA _)) | (go_at_call_of 107 s1; exact calls_same (KM _)) | (go_at_call_of 107 s2; exact calls_same (KD _)) | fail))
        refine wpQuiet_nil ?_
        intro _ hw'
        obtain ⟨u, rfl⟩ := hw'
        go_wp2
        go_ret
        exact ⟨ret_bool HR.out.symm, HBl.out ⟨u.w, HY.out u⟩⟩
      cases b2
      · have HR := hideP (F1.out (by rw [HPB.out]; rfl))
        go_wp2_with fail
        rw [← HW1.out]
        refine wp_region_later (W := W1) (Below.refl _ _) (by kernel_rfl) (by kernel_rfl) ?_
        repeat (go_big_quiet_step (first | (go_at_call_of 107 s0; exact calls_same (KA _)) | (go_at_call_of 107 s1; exact calls_same (KM _)) | (go_at_call_of 107 s2; exact calls_same (KD _)) | fail))
        refine wpQuiet_nil ?_
        intro _ hw'
        obtain ⟨u, rfl⟩ := hw'
        go_wp2
        go_ret
        exact ⟨ret_bool HR.out.symm, HBl.out ⟨u.w, HY.out u⟩⟩
      cases b3
      · have HR := hideP (F1.out (by rw [HPB.out]; rfl))
        go_wp2_with fail
        rw [← HW1.out]
        refine wp_region_later (W := W1) (Below.refl _ _) (by kernel_rfl) (by kernel_rfl) ?_
        repeat (go_big_quiet_step (first | (go_at_call_of 107 s0; exact calls_same (KA _)) | (go_at_call_of 107 s1; exact calls_same (KM _)) | (go_at_call_of 107 s2; exact calls_same (KD _)) | fail))
        refine wpQuiet_nil ?_
        intro _ hw'
        obtain ⟨u, rfl⟩ := hw'
        go_wp2
        go_ret
        exact ⟨ret_bool HR.out.symm, HBl.out ⟨u.w, HY.out u⟩⟩
      have HP1 : Hid (pb = true) := HPB.out
      obtain rfl | ⟨j, rfl⟩ : k = 0 ∨ ∃ j, k = j + 1 := by cases k with | zero => exact .inl rfl | succ j => exact .inr ⟨j, rfl⟩
      · have HN := hideP (F5.out HP1.out rfl (fun j e => by omega))
        go_wp2_with fail
        rw [← HW1.out]
        refine wp_region_later (W := W1) (Below.refl _ _) (by kernel_rfl) (by kernel_rfl) ?_
        repeat (go_big_quiet_step (first | (go_at_call_of 107 s0; exact calls_same (KA _)) | (go_at_call_of 107 s1; exact calls_same (KM _)) | (go_at_call_of 107 s2; exact calls_same (KD _)) | fail))
        refine wpQuiet_nil ?_
        intro _ hw'
        obtain ⟨u, rfl⟩ := hw'
        go_wp2
        exact ⟨⟨0 + 1, by omega, by go_num, HN.out, ⟨u.w, HY.out u⟩, rfl⟩, by simp [intOf]; omega⟩
      · have e5 := HP.out j rfl
        have G4 := hideP (F4.out j rfl)
        have G5 := hideP (fun (h4 : (atK patK l j).day < s0) => F5.out HP1.out rfl (fun i e => (show i = j from by omega) ▸ h4))
        have hj0 : decide ((0 : Int) < (j : Int) + 1) = true := decide_eq_true (by omega)
        clear HP F1 F2 F4 F5
        generalize (atK patK l j).day = P at *
        by_cases h4 : P < s0
        case neg =>
          have HR := hideP (G4.out (by omega))
          have q5 : decide (s0 ≤ P) = true := decide_eq_true (by omega)
          go_wp2_with fail
          rw [← HW1.out]
          refine wp_region_later (W := W1) (Below.refl _ _) (by kernel_rfl) (by kernel_rfl) ?_
          repeat (go_big_quiet_step (first | (go_at_call_of 107 s0; exact calls_same (KA _)) | (go_at_call_of 107 s1; exact calls_same (KM _)) | (go_at_call_of 107 s2; exact calls_same (KD _)) | fail))
          refine wpQuiet_nil ?_
          intro _ hw'
          obtain ⟨u, rfl⟩ := hw'
          go_wp2
          go_ret
          exact ⟨ret_bool HR.out.symm, HBl.out ⟨u.w, HY.out u⟩⟩
        have HN := hideP (G5.out h4)
        have q5 : decide (s0 ≤ P) = false := decide_eq_false (by omega)
        go_wp2_with fail
        rw [← HW1.out]
        refine wp_region_later (W := W1) (Below.refl _ _) (by kernel_rfl) (by kernel_rfl) ?_
        repeat (go_big_quiet_step (first | (go_at_call_of 107 s0; exact calls_same (KA _)) | (go_at_call_of 107 s1; exact calls_same (KM _)) | (go_at_call_of 107 s2; exact calls_same (KD _)) | fail))
        refine wpQuiet_nil ?_
        intro _ hw'
        obtain ⟨u, rfl⟩ := hw'
        go_wp2
        exact ⟨⟨j + 1 + 1, by omega, by go_num, HN.out, ⟨u.w, HY.out u⟩, rfl⟩, by simp [intOf]; omega⟩
    · have hkn : k = l.length := by omega
      have HA : Hid (allTo (patFit f t l) l.length = true) := by rw [← hkn]; exact HF
      have HR := hideP (pats_end HA.out)
      clear HF
      subst hkn
      by_cases h8 : (l.length : Int) ≤ 8
      · have HR2 : Hid (patsB f t l = true) := HR.out.trans (decide_eq_true h8)
        go_wp2
        go_ret
        exact ⟨ret_bool HR2.out.symm, HBl.out y⟩
      · have HR2 : Hid (patsB f t l = false) := HR.out.trans (decide_eq_false h8)
        have q8 : decide ((l.length : Int) ≤ 8) = false := decide_eq_false h8
        go_wp2
        go_ret
        exact ⟨ret_bool HR2.out.symm, HBl.out y⟩
end Go.Proofs.YtaakgidndjoocaaGreatDoor.ctr

namespace Go.Proofs.YtaakgidndjoocaaGreatDoor.ctr
open Go.RowKit
set_option linter.unusedSimpArgs false

set_option maxRecDepth 100000 in
set_option maxHeartbeats 2000000 in
theorem implRegimeOk (v : Value) (r : Rgm) (a : Addr) (w : World) (h : GRow w v r) (ht : r.to ≤ 9223372036854775807) (hE : ErrT w) (hT : Tab w) (hS : Sent w a) : Calls Tryz.prog 46 #[v] w fun e w' => e = .returned (.bool (regimeB r)) ∧ Below w.heap.size w w' := by
  have hn : r.name.size ≤ maxLen := by obtain ⟨_, _, _, _, hn, _⟩ := h; exact hn
  have KS : Hid (∀ W, Below w.heap.size w W → Calls Tryz.prog 94 #[v] W fun e w' => e = .returned (.bool (segsB r.fr r.to r.segs)) ∧ Below W.heap.size W w') := fun W hb => implSegsOk v r W (h.below hb) ht (hE.below hb)
  have KP : Hid (∀ W, Below w.heap.size w W → Calls Tryz.prog 95 #[v] W fun e w' => e = .returned (.bool (patsB r.fr r.to r.pats)) ∧ Below W.heap.size W w') := fun W hb => implPatchesOk v r W (h.below hb)
  have RB : Hid (regimeB r = (nameOk r.name && (dayB r.fr && (dayB r.to && (segsB r.fr r.to r.segs && (patsB r.fr r.to r.pats && (reignsOk r.rgns && ruleB r.rule))))))) := rfl
  have HO : Hid (r.to < r.fr → segsB r.fr r.to r.segs = false) := fun h => segs_order (by omega)
  generalize regimeB r = ans at *
  obtain ⟨nm, f, t, l, ps, rs, ru⟩ := r
  dsimp only at *
  obtain ⟨v1, v2, v3, rfl, _, x1, x2, x3⟩ := h
  dsimp only at *
  have KN : Hid (∀ W, Calls Tryz.prog 92 #[.string nm] W fun e w' => e = .returned (.bool (nameOk nm)) ∧ Below W.heap.size W w') := fun W => (implNameOk nm W hn).mono fun _ _ h => ⟨h.1, same_bel h.2⟩
  have KF : Hid (∀ W, Calls Tryz.prog 93 #[.int .i64 f] W fun e w' => e = .returned (.bool (dayB f)) ∧ Below W.heap.size W w') := fun W => (implOnLine f W).mono fun _ _ h => ⟨h.1, same_bel h.2⟩
  have KT : Hid (∀ W, Calls Tryz.prog 93 #[.int .i64 t] W fun e w' => e = .returned (.bool (dayB t)) ∧ Below W.heap.size W w') := fun W => (implOnLine t W).mono fun _ _ h => ⟨h.1, same_bel h.2⟩
  have KR : Hid (∀ W, Below w.heap.size w W → Calls Tryz.prog 96 #[v3] W fun e w' => e = .returned (.bool (reignsOk rs)) ∧ Below W.heap.size W w') := fun W hb => implReignsOk v3 rs a W (x3.below hb) (hT.later hb) (hS.later hb)
  obtain ⟨W0, hW0, d0, d1, d2, d3, d4, d5, d6, hBl⟩ := seven_box w (.string nm) (.int .i64 f) (.int .i64 t) v1 v2 v3 (.int .i64 ru) 36
  obtain ⟨a1, c1, rfl, _⟩ := x1
  obtain ⟨a2, c2, rfl, _⟩ := x2
  obtain ⟨a3, c3, rfl, _⟩ := x3
  have HW0 := hideP hW0
  have HBl := hideP hBl
  clear hW0 hBl hn ht hE hT hS
  generalize nameOk nm = b1 at *
  generalize dayB f = b2 at *
  generalize dayB t = b3 at *
  generalize segsB f t l = b4 at *
  generalize patsB f t ps = b5 at *
  generalize reignsOk rs = b6 at *
  go_enter Tryz.func46, Tryz.ntmps46
  go_wp2_with fail
  rw [← HW0.out]
  refine (KN.out _).mono ?_
  rintro e w1 ⟨rfl, hb⟩
  obtain ⟨x1, rfl⟩ := Later.of hb
  clear hb
  cases b1
  · have HR : Hid (ans = false) := by unfold Hid; rw [RB.out]; simp only [Bool.false_and, Bool.and_false, Bool.true_and]
    go_wp2
    go_ret
    exact ⟨ret_bool HR.out.symm, HBl.out x1⟩
  go_wp2_with fail
  refine (KF.out _).mono ?_
  rintro e w2 ⟨rfl, hb⟩
  obtain ⟨x2, rfl⟩ := x1.next hb
  clear hb
  cases b2
  · have HR : Hid (ans = false) := by unfold Hid; rw [RB.out]; simp only [Bool.false_and, Bool.and_false, Bool.true_and]
    go_wp2
    go_ret
    exact ⟨ret_bool HR.out.symm, HBl.out x2⟩
  go_wp2_with fail
  refine (KT.out _).mono ?_
  rintro e w3 ⟨rfl, hb⟩
  obtain ⟨x3, rfl⟩ := x2.next hb
  clear hb
  cases b3
  · have HR : Hid (ans = false) := by unfold Hid; rw [RB.out]; simp only [Bool.false_and, Bool.and_false, Bool.true_and]
    go_wp2
    go_ret
    exact ⟨ret_bool HR.out.symm, HBl.out x3⟩
  go_wp2_with fail
  refine (KS.out _ (HBl.out x3)).mono ?_
  rintro e w4 ⟨rfl, hb⟩
  obtain ⟨x4, rfl⟩ := x3.next hb
  clear hb
  cases b4
  · have HR : Hid (ans = false) := by unfold Hid; rw [RB.out]; simp only [Bool.false_and, Bool.and_false, Bool.true_and]
    go_wp2
    go_ret
    exact ⟨ret_bool HR.out.symm, HBl.out x4⟩
  go_wp2_with fail
  refine (KP.out _ (HBl.out x4)).mono ?_
  rintro e w5 ⟨rfl, hb⟩
  obtain ⟨x5, rfl⟩ := x4.next hb
  clear hb
  cases b5
  · have HR : Hid (ans = false) := by unfold Hid; rw [RB.out]; simp only [Bool.false_and, Bool.and_false, Bool.true_and]
    go_wp2
    go_ret
    exact ⟨ret_bool HR.out.symm, HBl.out x5⟩
  go_wp2_with fail
  refine (KR.out _ (HBl.out x5)).mono ?_
  rintro e w6 ⟨rfl, hb⟩
  obtain ⟨x6, rfl⟩ := x5.next hb
  clear hb
  cases b6
  · have HR : Hid (ans = false) := by unfold Hid; rw [RB.out]; simp only [Bool.false_and, Bool.and_false, Bool.true_and]
    go_wp2
    go_ret
    exact ⟨ret_bool HR.out.symm, HBl.out x6⟩
  have HQ : Hid (ans = ruleB ru) := by unfold Hid; rw [RB.out]; simp only [Bool.true_and]
  clear RB HO KN KF KT KS KP KR
  have KU : Hid (∀ W, Calls Tryz.prog 97 #[.int .i64 ru] W fun e w' => e = .returned (.bool (ruleB ru)) ∧ w' = W) := fun W => implRuleOk ru W
  generalize ruleB ru = b7 at *
  go_wp2_with fail
  refine (KU.out _).mono ?_
  rintro e w7 ⟨rfl, rfl⟩
  go_wp2
  go_ret
  exact ⟨ret_bool HQ.out.symm, HBl.out x6⟩

set_option maxRecDepth 100000 in
set_option maxHeartbeats 2000000 in
theorem specRegimeOk (v : Value) (r : Rgm) (w : World) (h : GRow w v r) (hf : -9223372036854775808 ≤ r.fr) (ht : r.to ≤ 9223372036854775807) : Calls Tryz.prog 41 #[v] w fun e w' => e = .returned (.bool (regimeB r)) ∧ Below w.heap.size w w' := by
  have hn : r.name.size ≤ maxLen := by obtain ⟨_, _, _, _, hn, _⟩ := h; exact hn
  have KS : Hid (∀ W, Below w.heap.size w W → Calls Tryz.prog 82 #[v] W fun e w' => e = .returned (.bool (segsB r.fr r.to r.segs)) ∧ Below W.heap.size W w') := fun W hb => specSegs9 v r W (h.below hb) hf ht
  have KP : Hid (∀ W, Below w.heap.size w W → Calls Tryz.prog 83 #[v] W fun e w' => e = .returned (.bool (patsB r.fr r.to r.pats)) ∧ Below W.heap.size W w') := fun W hb => specPatches9 v r W (h.below hb)
  have RB : Hid (regimeB r = (nameOk r.name && (dayB r.fr && (dayB r.to && (segsB r.fr r.to r.segs && (patsB r.fr r.to r.pats && (reignsOk r.rgns && ruleB r.rule))))))) := rfl
  have HO : Hid (r.to < r.fr → segsB r.fr r.to r.segs = false) := fun h => segs_order (by omega)
  generalize regimeB r = ans at *
  obtain ⟨nm, f, t, l, ps, rs, ru⟩ := r
  dsimp only at *
  obtain ⟨v1, v2, v3, rfl, _, x1, x2, x3⟩ := h
  dsimp only at *
  have KN : Hid (∀ W, Calls Tryz.prog 80 #[.string nm] W fun e w' => e = .returned (.bool (nameOk nm)) ∧ Below W.heap.size W w') := fun W => (specNameOk nm W hn).mono fun _ _ h => ⟨h.1, same_bel h.2⟩
  have KF : Hid (∀ W, Calls Tryz.prog 81 #[.int .i64 f] W fun e w' => e = .returned (.bool (dayB f)) ∧ Below W.heap.size W w') := fun W => (specDay9 f W).mono fun _ _ h => ⟨h.1, same_bel h.2⟩
  have KT : Hid (∀ W, Calls Tryz.prog 81 #[.int .i64 t] W fun e w' => e = .returned (.bool (dayB t)) ∧ Below W.heap.size W w') := fun W => (specDay9 t W).mono fun _ _ h => ⟨h.1, same_bel h.2⟩
  have KR : Hid (∀ W, Below w.heap.size w W → Calls Tryz.prog 84 #[v3] W fun e w' => e = .returned (.bool (reignsOk rs)) ∧ Below W.heap.size W w') := fun W hb => specReignsOk v3 rs W (x3.below hb)
  obtain ⟨W0, hW0, d0, d1, d2, d3, d4, d5, d6, hBl⟩ := seven_box w (.string nm) (.int .i64 f) (.int .i64 t) v1 v2 v3 (.int .i64 ru) 36
  obtain ⟨a1, c1, rfl, _⟩ := x1
  obtain ⟨a2, c2, rfl, _⟩ := x2
  obtain ⟨a3, c3, rfl, _⟩ := x3
  have HW0 := hideP hW0
  have HBl := hideP hBl
  clear hW0 hBl hn hf ht
  generalize nameOk nm = b1 at *
  generalize dayB f = b2 at *
  generalize dayB t = b3 at *
  generalize segsB f t l = b4 at *
  generalize patsB f t ps = b5 at *
  generalize reignsOk rs = b6 at *
  go_enter Tryz.func41, Tryz.ntmps41
  go_wp2_with fail
  rw [← HW0.out]
  refine (KN.out _).mono ?_
  rintro e w1 ⟨rfl, hb⟩
  obtain ⟨x1, rfl⟩ := Later.of hb
  clear hb
  cases b1
  · have HR : Hid (ans = false) := by unfold Hid; rw [RB.out]; simp only [Bool.false_and, Bool.and_false, Bool.true_and]
    go_wp2
    go_ret
    exact ⟨ret_bool HR.out.symm, HBl.out x1⟩
  go_wp2_with fail
  refine (KF.out _).mono ?_
  rintro e w2 ⟨rfl, hb⟩
  obtain ⟨x2, rfl⟩ := x1.next hb
  clear hb
  cases b2
  · have HR : Hid (ans = false) := by unfold Hid; rw [RB.out]; simp only [Bool.false_and, Bool.and_false, Bool.true_and]
    go_wp2
    go_ret
    exact ⟨ret_bool HR.out.symm, HBl.out x2⟩
  go_wp2_with fail
  refine (KT.out _).mono ?_
  rintro e w3 ⟨rfl, hb⟩
  obtain ⟨x3, rfl⟩ := x2.next hb
  clear hb
  cases b3
  · have HR : Hid (ans = false) := by unfold Hid; rw [RB.out]; simp only [Bool.false_and, Bool.and_false, Bool.true_and]
    go_wp2
    go_ret
    exact ⟨ret_bool HR.out.symm, HBl.out x3⟩
  by_cases hft : f ≤ t
  case neg =>
    have q1 : decide (f ≤ t) = false := decide_eq_false hft
    have HR : Hid (ans = false) := by unfold Hid; rw [RB.out, HO.out (by omega)]; simp only [Bool.false_and, Bool.true_and]
    go_wp2
    go_ret
    exact ⟨ret_bool HR.out.symm, HBl.out x3⟩
  go_wp2_with fail
  refine (KS.out _ (HBl.out x3)).mono ?_
  rintro e w4 ⟨rfl, hb⟩
  obtain ⟨x4, rfl⟩ := x3.next hb
  clear hb
  cases b4
  · have HR : Hid (ans = false) := by unfold Hid; rw [RB.out]; simp only [Bool.false_and, Bool.and_false, Bool.true_and]
    go_wp2
    go_ret
    exact ⟨ret_bool HR.out.symm, HBl.out x4⟩
  go_wp2_with fail
  refine (KP.out _ (HBl.out x4)).mono ?_
  rintro e w5 ⟨rfl, hb⟩
  obtain ⟨x5, rfl⟩ := x4.next hb
  clear hb
  cases b5
  · have HR : Hid (ans = false) := by unfold Hid; rw [RB.out]; simp only [Bool.false_and, Bool.and_false, Bool.true_and]
    go_wp2
    go_ret
    exact ⟨ret_bool HR.out.symm, HBl.out x5⟩
  go_wp2_with fail
  refine (KR.out _ (HBl.out x5)).mono ?_
  rintro e w6 ⟨rfl, hb⟩
  obtain ⟨x6, rfl⟩ := x5.next hb
  clear hb
  cases b6
  · have HR : Hid (ans = false) := by unfold Hid; rw [RB.out]; simp only [Bool.false_and, Bool.and_false, Bool.true_and]
    go_wp2
    go_ret
    exact ⟨ret_bool HR.out.symm, HBl.out x6⟩
  have HQ : Hid (ans = ruleB ru) := by unfold Hid; rw [RB.out]; simp only [Bool.true_and]
  clear RB HO KN KF KT KS KP KR
  by_cases h0 : ru = 0
  · subst h0
    have HR : Hid (ans = true) := HQ.out
    go_wp2
    go_ret
    exact ⟨ret_bool HR.out.symm, HBl.out x6⟩
  by_cases h1 : ru = 1
  · subst h1
    have HR : Hid (ans = true) := HQ.out
    go_wp2
    go_ret
    exact ⟨ret_bool HR.out.symm, HBl.out x6⟩
  have HR : Hid (ans = false) := by unfold Hid; rw [HQ.out, ruleB, decide_eq_false h0, decide_eq_false h1]; rfl
  have q2 : (ru == 0) = false := by simp [h0]
  have q3 : (ru == 1) = false := by simp [h1]
  go_wp2
  go_ret
  exact ⟨ret_bool HR.out.symm, HBl.out x6⟩
end Go.Proofs.YtaakgidndjoocaaGreatDoor.ctr
