/- Lists of ints in rows of their own ('MovRow': in a block that was not there in w; 'IntRow': anywhere), and the contracts of the laws' own helpers over lists of ints (eqIntS, sameInts, markIntS, heldIntS): two lists alike are told alike; marks are written into a list's own row, and found there again; nothing else turns. Lists of pairs of ints in rows of their own ('PMov': in a block that was not there in w; 'PRow': anywhere), and the contracts of the laws' own helpers over them (eqIntA2, eqIntA2S, markIntA2S, heldIntA2S): two lists alike are told alike; marks are written into a list's own row, and found there again; nothing else turns. Contracts of the program's gapsOf and of the function that it hands back: it tells every run of days in no reign, in order, to whatever loop body, where its captured variables, the list and its own reigns stay as they are. -/
import Derived.Test.YtcdcniniafejbaaGreatDoorBlkKit
import Derived.Laws.AppendOwn
import Derived.Deep.RegionWith
import Derived.Test.YtcdcniniafejbaaGreatDoorRgnGapP
import Derived.RangeFuncNested
import Derived.RangeFuncBound
import Derived.RangeFuncCalls
import Derived.RangeFuncLeaves
import Derived.Shelf.Abstract
import Derived.Shelf.RegionOpen
import Derived.OwnWalkIn
import Derived.TacticsInMore
import Derived.LoopNIn
import Derived.LoopIn
import Derived.Sort.QuietIn
namespace Go.Proofs.YtcdcniniafejbaaGreatDoor.ctr
open Go.RowKit

def ints (l : List Int) : Array Value := (l.map (Value.int .i64)).toArray
theorem ints_at (l : List Int) (j : Nat) (h : j < l.length) : (ints l)[j]? = some (.int .i64 (l.getD j 0)) := by
  simp [ints, List.getD, h]
theorem ints_set (l : List Int) (k : Nat) (z : Int) : (ints l).setIfInBounds k (.int .i64 z) = ints (l.set k z) := by
  simp [ints, List.map_set]
theorem ints_size (l : List Int) : (ints l).size = l.length := by simp [ints]
theorem ints_app (l : List Int) (rs : Array Value) (j : Nat) (h : j < l.length) : (ints l ++ rs)[j]? = some (.int .i64 (l.getD j 0)) := by
  rw [Array.getElem?_append_left (by rw [ints_size]; exact h), ints_at l j h]
theorem ints_setA (l : List Int) (rs : Array Value) (k : Nat) (z : Int) (h : k < l.length) : (ints l ++ rs).setIfInBounds k (.int .i64 z) = ints (l.set k z) ++ rs := by
  rw [Array.setIfInBounds_append_left (by rw [ints_size]; exact h), ints_set]
/-- A slice value that holds just these numbers, in a row of its own that was not there in w. -/
def MovRow (w w' : World) (v : Value) (xs : List Int) : Prop := ∃ ad cap, v = .slice ad xs.length cap ∧ (xs = [] ∨ ∃ g t rs, ad = some ⟨g, 0, none⟩ ∧ w.heap.size ≤ g ∧ Blk w' g (ints xs ++ rs) t)
theorem movRow_nil {w w' : World} (ad : Option Addr) (cap : Nat) : MovRow w w' (.slice ad 0 cap) [] := ⟨ad, cap, rfl, .inl rfl⟩
theorem movRow_at {w w' : World} {xs : List Int} {g cap : Nat} {t : TypeId} (hg : w.heap.size ≤ g) (h : Blk w' g (ints xs) t) : MovRow w w' (.slice (some ⟨g, 0, none⟩) xs.length cap) xs := ⟨_, cap, rfl, .inr ⟨g, t, #[], rfl, hg, by simpa using h⟩⟩
theorem MovRow.below {w w' w'' : World} {v : Value} {xs : List Int} (h : MovRow w w' v xs) (hb : Below w'.heap.size w' w'') : MovRow w w'' v xs := by
  obtain ⟨ad, cap, rfl, h | ⟨g, t, zs, rfl, hg, hB⟩⟩ := h
  · exact ⟨ad, cap, rfl, .inl h⟩
  · exact ⟨_, cap, rfl, .inr ⟨g, t, zs, rfl, hg, hB.below hb hB.lt⟩⟩

/-- A slice value that holds just these numbers. -/
def IntRow (w : World) (v : Value) (xs : List Int) : Prop := ∃ ad cap, v = .slice ad xs.length cap ∧ ∀ j, j < xs.length → ∃ g, ad = some ⟨g, 0, none⟩ ∧ g < w.heap.size ∧ w.cell? ⟨g, j, none⟩ = some (.int .i64 (xs.getD j 0))
theorem MovRow.row {w w' : World} {v : Value} {xs : List Int} (h : MovRow w w' v xs) : IntRow w' v xs := by
  obtain ⟨ad, cap, rfl, h | ⟨g, t, zs, rfl, _, hb⟩⟩ := h
  · subst h
    exact ⟨ad, cap, rfl, fun j hj => by simp at hj⟩
  · exact ⟨_, cap, rfl, fun j hj => ⟨g, rfl, hb.lt, hb.cell j (ints_app xs zs j hj)⟩⟩
theorem IntRow.below {w w' : World} {v : Value} {xs : List Int} (h : IntRow w v xs) (hb : Below w.heap.size w w') : IntRow w' v xs := by
  obtain ⟨ad, cap, rfl, h⟩ := h
  exact ⟨ad, cap, rfl, fun j hj => by
    obtain ⟨g, e, hg, hc⟩ := h j hj
    exact ⟨g, e, Nat.lt_of_lt_of_le hg hb.size, (hb.cell (p := ⟨g, j, none⟩) hg).trans hc⟩⟩

set_option maxHeartbeats 1000000 in
theorem sameInts (v1 v2 : Value) (xs : List Int) (w : World) (hx : xs.length ≤ 2000000) (h1 : IntRow w v1 xs) (h2 : IntRow w v2 xs) :
    Calls Tryz.prog 26 #[v1, v2] w fun e w' => e = .returned (.bool true) ∧ Below w.heap.size w w' := by
  obtain ⟨a1, c1, rfl, H1⟩ := h1
  obtain ⟨a2, c2, rfl, H2⟩ := h2
  have K1 : Hid _ := H1
  have K2 : Hid _ := H2
  clear H1 H2
  go_enter Tryz.func26, Tryz.ntmps26
  go_wp2
  go_loopw [5] (fun i wr => ∃ k : Nat, k ≤ xs.length ∧ i = .int .i64 (k : Int) ∧ ∃ m, wr = w.drewN m) (fun i _ => xs.length - (intOf i).toNat)
  case atStart => exact ⟨0, Nat.zero_le _, rfl, 0, rfl⟩
  case round =>
    obtain ⟨k, hk, rfl, m, rfl⟩ := hrel
    by_cases hlt : k < xs.length
    · obtain ⟨g1, rfl, _, e1⟩ := K1.out k hlt
      obtain ⟨g2, rfl, _, e2⟩ := K2.out k hlt
      generalize xs.getD k 0 = x at e1 e2
      go_wp2
      go_quiet (fail)
      go_wp2
      exact ⟨⟨k + 1, by omega, by go_num, _, rfl⟩, by simp [intOf]; omega⟩
    · go_wp2
      go_ret
      exact ⟨rfl, Below_drewN (Below.refl _ _) m⟩

/-- The marks k0, k0 + 1 .. -/
def marks (k0 n : Nat) : List Int := (List.range n).map fun j => ((k0 + j : Nat) : Int)
theorem marks_len (k0 n : Nat) : (marks k0 n).length = n := by simp [marks]
theorem marks_at (k0 n j : Nat) (h : j < n) : (marks k0 n).getD j 0 = ((k0 + j : Nat) : Int) := by simp [marks, List.getD, h]
/-- The first k marks, then the numbers of old. -/
def marked (xs : List Int) (k0 k : Nat) : List Int := marks k0 k ++ xs.drop k
theorem marked_len (xs : List Int) (k0 k : Nat) (h : k ≤ xs.length) : (marked xs k0 k).length = xs.length := by simp [marked, marks_len]; omega
theorem marked_all (xs : List Int) (k0 : Nat) : marked xs k0 xs.length = marks k0 xs.length := by simp [marked]
theorem marked_set (xs : List Int) (k0 k : Nat) (h : k < xs.length) : (marked xs k0 k).set k ((k0 + k : Nat) : Int) = marked xs k0 (k + 1) := by
  unfold marked marks
  rw [List.set_append_right _ _ (by simp), List.length_map, List.length_range, Nat.sub_self, List.range_succ, List.map_append, List.drop_eq_getElem_cons h, List.set_cons_zero, List.append_assoc]
  rfl

/-- A row of its own, made by append. -/
theorem own_ints {w W : World} {v : Value} {xs : List Int} {e : TypeId} (h : W.ownsRow w.heap.size e 1 v xs.length (xs.map (Value.int .i64))) : MovRow w W v xs := by
  rcases h.2 with ⟨hv, h0⟩ | ⟨g, cap, cur, hv, hb, hh, hcap, _, hsz, htake⟩
  · subst hv
    exact ⟨none, 0, by rw [h0], .inl (List.length_eq_zero_iff.1 h0)⟩
  · subst hv
    refine ⟨_, cap, rfl, .inr ⟨g, e, (cur.toList.drop xs.length).toArray, rfl, hb, ?_⟩⟩
    have e1 : cur = ints xs ++ (cur.toList.drop xs.length).toArray := by
      apply Array.toList_inj.1
      rw [Array.toList_append]
      show cur.toList = (xs.map (Value.int .i64)) ++ cur.toList.drop xs.length
      rw [← htake]
      simp
    unfold Blk
    rw [← e1]
    exact hh
theorem info_int : (Tryz.prog.info? 3).map (fun i => (i.zero, i.size, i.bytes)) = some (some (.int .i64 0), 1, 8) := by kernel_rfl
end Go.Proofs.YtcdcniniafejbaaGreatDoor.ctr

namespace Go.Proofs.YtcdcniniafejbaaGreatDoor.ctr
open Go.RowKit

def flat : List (Int × Int) → List Int
  | [] => []
  | p :: l => p.1 :: p.2 :: flat l
theorem flat_len : ∀ l : List (Int × Int), (flat l).length = l.length * 2
  | [] => rfl
  | p :: l => by simp [flat, flat_len l]; omega
theorem flat_app : ∀ l m : List (Int × Int), flat (l ++ m) = flat l ++ flat m
  | [], m => rfl
  | p :: l, m => by simp [flat, flat_app l m]
theorem flat_at0 : ∀ (l : List (Int × Int)) (k : Nat), k < l.length → (flat l).getD (k * 2) 0 = (l.getD k (0, 0)).1
  | [], k, h => by simp at h
  | p :: l, 0, _ => rfl
  | p :: l, k + 1, h => by
    have := flat_at0 l k (by simpa using h)
    rw [show (k + 1) * 2 = k * 2 + 2 by omega]
    simpa [flat] using this
theorem flat_at1 : ∀ (l : List (Int × Int)) (k : Nat), k < l.length → (flat l).getD (k * 2 + 1) 0 = (l.getD k (0, 0)).2
  | [], k, h => by simp at h
  | p :: l, 0, _ => rfl
  | p :: l, k + 1, h => by
    have := flat_at1 l k (by simpa using h)
    rw [show (k + 1) * 2 + 1 = k * 2 + 1 + 2 by omega]
    simpa [flat] using this
def PMov (w w' : World) (v : Value) (xs : List (Int × Int)) : Prop := ∃ ad cap, v = .slice ad xs.length cap ∧ (xs = [] ∨ ∃ g t rs, ad = some ⟨g, 0, none⟩ ∧ w.heap.size ≤ g ∧ Blk w' g (ints (flat xs) ++ rs) t)
theorem pmov_nil {w w' : World} (ad : Option Addr) (cap : Nat) : PMov w w' (.slice ad 0 cap) [] := ⟨ad, cap, rfl, .inl rfl⟩
theorem PMov.below {w w' w'' : World} {v : Value} {xs : List (Int × Int)} (h : PMov w w' v xs) (hb : Below w'.heap.size w' w'') : PMov w w'' v xs := by
  obtain ⟨ad, cap, rfl, h | ⟨g, t, zs, rfl, hg, hB⟩⟩ := h
  · exact ⟨ad, cap, rfl, .inl h⟩
  · exact ⟨_, cap, rfl, .inr ⟨g, t, zs, rfl, hg, hB.below hb hB.lt⟩⟩
/-- Another block than one that was there already is turned. -/
theorem PMov.grown {w w' w'' : World} {v : Value} {xs : List (Int × Int)} {r : Nat} (h : PMov w w' v xs) (hb : w'.grownBy w'' (some r)) (hr : r < w.heap.size) : PMov w w'' v xs := by
  obtain ⟨ad, cap, rfl, h | ⟨g, t, zs, rfl, hg, hB⟩⟩ := h
  · exact ⟨ad, cap, rfl, .inl h⟩
  · exact ⟨_, cap, rfl, .inr ⟨g, t, zs, rfl, hg, (hb.block g hB.lt (by simp; omega)).trans hB⟩⟩
def PRow (w : World) (v : Value) (xs : List (Int × Int)) : Prop := ∃ ad cap, v = .slice ad xs.length cap ∧ ∀ j, j < xs.length * 2 → ∃ g, ad = some ⟨g, 0, none⟩ ∧ g < w.heap.size ∧ w.cell? ⟨g, j, none⟩ = some (.int .i64 ((flat xs).getD j 0))
theorem PMov.row {w w' : World} {v : Value} {xs : List (Int × Int)} (h : PMov w w' v xs) : PRow w' v xs := by
  obtain ⟨ad, cap, rfl, h | ⟨g, t, zs, rfl, _, hb⟩⟩ := h
  · subst h
    exact ⟨ad, cap, rfl, fun j hj => by simp at hj⟩
  · exact ⟨_, cap, rfl, fun j hj => ⟨g, rfl, hb.lt, hb.cell j (ints_app (flat xs) zs j (by rw [flat_len]; exact hj))⟩⟩
theorem PRow.below {w w' : World} {v : Value} {xs : List (Int × Int)} (h : PRow w v xs) (hb : Below w.heap.size w w') : PRow w' v xs := by
  obtain ⟨ad, cap, rfl, h⟩ := h
  exact ⟨ad, cap, rfl, fun j hj => by
    obtain ⟨g, e, hg, hc⟩ := h j hj
    exact ⟨g, e, Nat.lt_of_lt_of_le hg hb.size, (hb.cell (p := ⟨g, j, none⟩) hg).trans hc⟩⟩
/-- A row of its own, made by append. -/
theorem own_pairs {w W : World} {v : Value} {xs : List (Int × Int)} {e : TypeId} (h : W.ownsRow w.heap.size e 2 v xs.length ((flat xs).map (Value.int .i64))) : PMov w W v xs := by
  rcases h.2 with ⟨hv, h0⟩ | ⟨g, cap, cur, hv, hb, hh, hcap, _, hsz, htake⟩
  · subst hv
    exact ⟨none, 0, by rw [h0], .inl (List.length_eq_zero_iff.1 h0)⟩
  · subst hv
    refine ⟨_, cap, rfl, .inr ⟨g, e, (cur.toList.drop (xs.length * 2)).toArray, rfl, hb, ?_⟩⟩
    have e1 : cur = ints (flat xs) ++ (cur.toList.drop (xs.length * 2)).toArray := by
      apply Array.toList_inj.1
      rw [Array.toList_append]
      show cur.toList = ((flat xs).map (Value.int .i64)) ++ cur.toList.drop (xs.length * 2)
      rw [← htake]
      simp
    unfold Blk
    rw [← e1]
    exact hh

/-- A row of marks. -/
def PMark (w : World) (v : Value) (k0 n : Nat) : Prop := ∃ ad cap, v = .slice ad n cap ∧ ∀ j, j < n * 2 → ∃ g, ad = some ⟨g, 0, none⟩ ∧ g < w.heap.size ∧ w.cell? ⟨g, j, none⟩ = some (.int .i64 ((k0 + j : Nat) : Int))
theorem PMark.below {w w' : World} {v : Value} {k0 n : Nat} (h : PMark w v k0 n) (hb : Below w.heap.size w w') : PMark w' v k0 n := by
  obtain ⟨ad, cap, rfl, h⟩ := h
  exact ⟨ad, cap, rfl, fun j hj => by
    obtain ⟨g, e, hg, hc⟩ := h j hj
    exact ⟨g, e, Nat.lt_of_lt_of_le hg hb.size, (hb.cell (p := ⟨g, j, none⟩) hg).trans hc⟩⟩
end Go.Proofs.YtcdcniniafejbaaGreatDoor.ctr

namespace Go.Proofs.YtcdcniniafejbaaGreatDoor.ctr
open Go.RowKit Go.Shelf

attribute [local go_sem] Oper.semAt_some

/-- All but block R stays below R + 4, and so does every reign. -/
def KpR (R : Nat) (W W' : World) : Prop := W.heap.size ≤ W'.heap.size ∧ (∀ b, b ≠ R → b < R + 4 → W'.heap[b]? = W.heap[b]?) ∧ ∀ (b : Nat) (cs : Array Value) (fr : Nat × Nat), W.heap[b]? = some (Obj.cells cs 29 fr) → W'.heap[b]? = W.heap[b]?
theorem KpR.refl (R : Nat) (W : World) : KpR R W W := ⟨Nat.le_refl _, fun _ _ _ => rfl, fun _ _ _ _ => rfl⟩
theorem KpR.trans {R : Nat} {A B C : World} (h : KpR R A B) (k : KpR R B C) : KpR R A C :=
  ⟨Nat.le_trans h.1 k.1, fun b h1 h2 => (k.2.1 b h1 h2).trans (h.2.1 b h1 h2), fun b cs fr e => (k.2.2 b cs fr ((h.2.2 b cs fr e).trans e)).trans (h.2.2 b cs fr e)⟩
theorem KpR.alloc {R : Nat} {A B : World} (h : KpR R A B) (hR : R + 4 ≤ A.heap.size) (o : Obj) : KpR R A (B.alloc o) :=
  ⟨Nat.le_trans h.1 (by rw [World.size_alloc]; omega), fun b h1 h2 => (Below.heap_alloc B o b (by have := h.1; omega)).trans (h.2.1 b h1 h2), fun b cs fr e => (Below.heap_alloc B o b (Nat.lt_of_lt_of_le (Array.getElem?_eq_some_iff.1 e).1 h.1)).trans (h.2.2 b cs fr e)⟩
theorem KpR.cell {R : Nat} {A B : World} (h : KpR R A B) {b i : Nat} (h1 : b ≠ R) (h2 : b < R + 4) : B.cell? ⟨b, i, none⟩ = A.cell? ⟨b, i, none⟩ := World.cell?_of_block (a := ⟨b, i, none⟩) (h.2.1 b h1 h2)
theorem keepR_b {R : Nat} {w : World} (h1 : R + 4 ≤ w.heap.size) (W : World) (l : Nat) (o o' : Obj) (hl : w.heap.size ≤ l) (ho : W.heap[l]? = some o) (hc : o.isCells = false) (_ : o.isWalk = false) : KpR R W (W.putObj l o') :=
  ⟨by simp [World.putObj], fun b _ _ => World.putObj_heap_other (by omega), fun b cs fr e => World.putObj_heap_other (by intro q; subst q; rw [ho] at e; cases e; cases hc)⟩

set_option maxRecDepth 100000 in
set_option maxHeartbeats 4000000 in
theorem gaps1_in (n : Nat) (hn : 3 ≤ n) (lp R : Nat) (ad : Option Addr) (cap : Nat) (l : List Rgn) (F T : Int) (hok : reignsOk l = true) (J Jx : List (Int × Int) → World → Prop)
    (hY : ∀ pre x W, J pre W → pre.length < (gapsFrom T l F).length → YieldAt Fence.wide (n - 1) Tryz.prog lp #[.agg #[.int .i64 x.1, .int .i64 x.2]] W fun e W' =>
      (e = .returned (.bool true) ∧ J (pre ++ [x]) W' ∧ KpR R W W') ∨ (e = .returned (.bool false) ∧ Jx (pre ++ [x]) W'))
    (W : World) (hJ : AbidesFrom W.heap.size J) (hR : R + 4 ≤ W.heap.size) (hr : ∀ k, k < l.length → ∃ g, ad = some ⟨g, 0, none⟩ ∧ g < R ∧ RAt W g k (rgA l k))
    (hc1 : W.cell? ⟨R + 2, 0, none⟩ = some (.int .i64 F)) (hc2 : W.cell? ⟨R + 1, 0, none⟩ = some (.slice ad l.length cap)) (hc3 : W.cell? ⟨R + 3, 0, none⟩ = some (.int .i64 T)) (h0 : J [] W) :
    CallsIn Fence.wide n Tryz.prog 83 #[.func (.yield lp) #[] #[], .pointer (some ⟨R + 2, 0, none⟩), .pointer (some ⟨R + 1, 0, none⟩), .pointer (some ⟨R + 3, 0, none⟩)] W fun e W' => (∃ v, e = .returned v) ∧
      ((∃ ys, ys = gapsFrom T l F ∧ J ys W') ∨ (∃ pre, True ∧ Jx pre W')) := by
  have HJ := hideP hJ
  have HY := hideP hY
  have HR := hideP hr
  have HK := hideP hok
  have hl30 := ok_len hok
  clear hJ hY hr hok
  refine callsIn_of_wp Tryz.func83 rfl trivial ?_ rfl
  simp only [Tryz.ntmps83, List.size_toArray, List.length_cons, List.length_nil, Nat.reduceAdd, Nat.reduceSub, Array.replicate_succ, Array.replicate_zero, List.push_toArray, List.append_toArray, List.nil_append, List.cons_append]
  gi_wp2
  gi_loopw [5, 12] (fun f i wr => ∃ (k : Nat) (m : Int) (pre : List (Int × Int)), k ≤ l.length ∧ i = .int .i64 (k : Int) ∧ f = .int .i64 m ∧ Hid (pre ++ gapsFrom T (l.drop k) m = gapsFrom T l F) ∧ J pre wr ∧ KpR R W wr) (fun _ i _ => l.length - (intOf i).toNat)
  case atStart => exact ⟨0, F, [], Nat.zero_le _, rfl, rfl, rfl, h0, KpR.refl _ _⟩
  case round =>
    obtain ⟨k, m, pre, hk, rfl, rfl, HF, hJs, hKp⟩ := hrel
    have HJs := hideP hJs
    have KP := hideP hKp
    have d3 := (hKp.cell (b := R + 3) (i := 0) (by omega) (by omega)).trans hc3
    clear hJs hKp
    by_cases hlt : k < l.length
    · obtain ⟨g, rfl, hg, x0, x1, x2⟩ := HR.out k hlt
      have a0 := (KP.out.cell (b := g) (i := k * 3) (by omega) (by omega)).trans x0
      have a1 := (KP.out.cell (b := g) (i := k * 3 + 1) (by omega) (by omega)).trans x1
      have a2 := (KP.out.cell (b := g) (i := k * 3 + 2) (by omega) (by omega)).trans x2
      obtain ⟨_, hft, hbf, hbt, _, _⟩ := ok_rgn HK.out hlt
      have b1 := both_bound hbf
      have b2 := both_bound hbt
      have HD := hideP (drop_rg hlt)
      have HF2 := HF.out
      rw [HD.out, gapsFrom] at HF2
      have HFF := hideP HF2
      clear x0 x1 x2 HF2 HD HF hbf hbt
      generalize rgA l k = r at *
      obtain ⟨nm, f, t⟩ := r
      dsimp only at a0 a1 a2 b1 b2 hft HFF
      have e3 : (wr.alloc (.cells #[.string nm, .int .i64 f, .int .i64 t] 29)).cell? ⟨R + 3, 0, none⟩ = some (.int .i64 T) := (Later.at d3 ⟨_, (Below.refl _ _).alloc (Nat.le_refl _) _⟩)
      have HV : Hid (J pre (wr.alloc (.cells #[.string nm, .int .i64 f, .int .i64 t] 29))) := HJ.out _ _ _ none HJs.out (World.grownBy_alloc wr _ none) (fun r e => by cases e)
      have KPV : Hid (KpR R W (wr.alloc (.cells #[.string nm, .int .i64 f, .int .i64 t] 29))) := KP.out.alloc hR _
      have hnb : Hid ((wr.alloc (.cells #[.string nm, .int .i64 f, .int .i64 t] 29)).heap[wr.heap.size]? = some (.cells #[.string nm, .int .i64 f, .int .i64 t] 29)) := World.alloc_heap_new wr _
      have q2 : (wr.alloc (.cells #[.string nm, .int .i64 f, .int .i64 t] 29)).cell? ⟨wr.heap.size, 2, none⟩ = some (.int .i64 t) := (Blk.new wr _ _).cell 2 rfl
      by_cases hA : f - 1 ≤ T
      · have hA2 : f - 1 ≤ T := by omega
        by_cases hC : m ≤ t + 1
        · have hC2 : m ≤ t + 1 := by omega
          have hmx : max m (t + 1) = (t + 1) := by omega
          have hmn : min (f - 1) T = (f - 1) := by omega
          have HG := HFF.out
          rw [hmx, hmn] at HG
          clear hmx hmn
          by_cases hB : m ≤ (f - 1)
          · rw [if_pos hB] at HG
            have HN : Hid ((pre ++ [(m, (f - 1))]) ++ gapsFrom T (l.drop (k + 1)) (t + 1) = gapsFrom T l F) := by unfold Hid; rw [List.append_assoc]; exact HG
            have hlen : pre.length < (gapsFrom T l F).length := by rw [← HN.out]; simp <;> omega
            obtain ⟨fn, tmps, assign, body, hy, hRR⟩ := HY.out pre (m, (f - 1)) _ HV.out hlen
            have HRR := hideP hRR
            dsimp only at hy
            clear hRR HG hlen
            gi_wp2
            refine ⟨fun _ => by omega, ?_⟩
            refine HRR.out.mono ?_
            rintro e W3 (⟨rfl, hJ3, hk3⟩ | ⟨rfl, hJx3⟩)
            · have hm2 : W3.cell? ⟨wr.heap.size, 2, none⟩ = some (.int .i64 t) := (World.cell?_of_block (a := ⟨wr.heap.size, 2, none⟩) (hk3.2.2 _ _ _ hnb.out)).trans q2
              have HJ3 := hideP hJ3
              have K3 := hideP (KPV.out.trans hk3)
              clear hk3 hJ3
              gi_wp2
              go_roundw
              case rel => exact ⟨k + 1, (t + 1), pre ++ [(m, (f - 1))], by omega, by go_num, by go_num, HN.out, HJ3.out, K3.out⟩
              case measure => simp [intOf]; omega
            · have HX3 := hideP hJx3
              clear hJx3
              gi_wp2
              refine bodyPost_ret (results_none rfl _ _ _) rfl ?_
              exact ⟨⟨_, rfl⟩, .inr ⟨_, trivial, HX3.out⟩⟩
          · rw [if_neg hB, List.nil_append] at HG
            have HN : Hid (pre ++ gapsFrom T (l.drop (k + 1)) (t + 1) = gapsFrom T l F) := HG
            clear HG
            gi_wp2
            refine ⟨fun _ h => (by cases h), ?_⟩
            gi_wp2
            go_roundw
            case rel => exact ⟨k + 1, (t + 1), pre, by omega, by go_num, by go_num, HN.out, HV.out, KPV.out⟩
            case measure => simp [intOf]; omega
        · have hC2 : t + 1 < m := by omega
          have hmx : max m (t + 1) = m := by omega
          have hmn : min (f - 1) T = (f - 1) := by omega
          have HG := HFF.out
          rw [hmx, hmn] at HG
          clear hmx hmn
          by_cases hB : m ≤ (f - 1)
          · exact absurd hB (by omega)
          · rw [if_neg hB, List.nil_append] at HG
            have HN : Hid (pre ++ gapsFrom T (l.drop (k + 1)) m = gapsFrom T l F) := HG
            clear HG
            gi_wp2
            refine ⟨fun _ h => (by cases h), ?_⟩
            gi_wp2
            go_roundw
            case rel => exact ⟨k + 1, m, pre, by omega, by go_num, by go_num, HN.out, HV.out, KPV.out⟩
            case measure => simp [intOf]; omega
      · have hA2 : T < f - 1 := by omega
        by_cases hC : m ≤ t + 1
        · have hC2 : m ≤ t + 1 := by omega
          have hmx : max m (t + 1) = (t + 1) := by omega
          have hmn : min (f - 1) T = T := by omega
          have HG := HFF.out
          rw [hmx, hmn] at HG
          clear hmx hmn
          by_cases hB : m ≤ T
          · rw [if_pos hB] at HG
            have HN : Hid ((pre ++ [(m, T)]) ++ gapsFrom T (l.drop (k + 1)) (t + 1) = gapsFrom T l F) := by unfold Hid; rw [List.append_assoc]; exact HG
            have hlen : pre.length < (gapsFrom T l F).length := by rw [← HN.out]; simp <;> omega
            obtain ⟨fn, tmps, assign, body, hy, hRR⟩ := HY.out pre (m, T) _ HV.out hlen
            have HRR := hideP hRR
            dsimp only at hy
            clear hRR HG hlen
            gi_wp2
            refine ⟨fun _ => by omega, ?_⟩
            refine HRR.out.mono ?_
            rintro e W3 (⟨rfl, hJ3, hk3⟩ | ⟨rfl, hJx3⟩)
            · have hm2 : W3.cell? ⟨wr.heap.size, 2, none⟩ = some (.int .i64 t) := (World.cell?_of_block (a := ⟨wr.heap.size, 2, none⟩) (hk3.2.2 _ _ _ hnb.out)).trans q2
              have HJ3 := hideP hJ3
              have K3 := hideP (KPV.out.trans hk3)
              clear hk3 hJ3
              gi_wp2
              go_roundw
              case rel => exact ⟨k + 1, (t + 1), pre ++ [(m, T)], by omega, by go_num, by go_num, HN.out, HJ3.out, K3.out⟩
              case measure => simp [intOf]; omega
            · have HX3 := hideP hJx3
              clear hJx3
              gi_wp2
              refine bodyPost_ret (results_none rfl _ _ _) rfl ?_
              exact ⟨⟨_, rfl⟩, .inr ⟨_, trivial, HX3.out⟩⟩
          · rw [if_neg hB, List.nil_append] at HG
            have HN : Hid (pre ++ gapsFrom T (l.drop (k + 1)) (t + 1) = gapsFrom T l F) := HG
            clear HG
            gi_wp2
            refine ⟨fun _ h => (by cases h), ?_⟩
            gi_wp2
            go_roundw
            case rel => exact ⟨k + 1, (t + 1), pre, by omega, by go_num, by go_num, HN.out, HV.out, KPV.out⟩
            case measure => simp [intOf]; omega
        · have hC2 : t + 1 < m := by omega
          have hmx : max m (t + 1) = m := by omega
          have hmn : min (f - 1) T = T := by omega
          have HG := HFF.out
          rw [hmx, hmn] at HG
          clear hmx hmn
          by_cases hB : m ≤ T
          · exact absurd hB (by omega)
          · rw [if_neg hB, List.nil_append] at HG
            have HN : Hid (pre ++ gapsFrom T (l.drop (k + 1)) m = gapsFrom T l F) := HG
            clear HG
            gi_wp2
            refine ⟨fun _ h => (by cases h), ?_⟩
            gi_wp2
            go_roundw
            case rel => exact ⟨k + 1, m, pre, by omega, by go_num, by go_num, HN.out, HV.out, KPV.out⟩
            case measure => simp [intOf]; omega
    · have hdn : l.drop k = [] := List.drop_of_length_le (by omega)
      have HG := HF.out
      rw [hdn, gapsFrom] at HG
      clear hdn HF
      by_cases hB : m ≤ T
      · rw [if_pos hB] at HG
        have HN := hideP HG
        have hlen : pre.length < (gapsFrom T l F).length := by rw [← HN.out]; simp
        obtain ⟨fn, tmps, assign, body, hy, hRR⟩ := HY.out pre (m, T) wr HJs.out hlen
        have HRR := hideP hRR
        dsimp only at hy
        clear hRR HG hlen
        gi_wp2
        refine ⟨fun _ => by omega, ?_⟩
        refine HRR.out.mono ?_
        rintro e W3 (⟨rfl, hJ3, hk3⟩ | ⟨rfl, hJx3⟩)
        · have HJ3 := hideP hJ3
          clear hk3 hJ3
          gi_wp2
          go_end0
          exact ⟨⟨_, rfl⟩, .inl ⟨_, HN.out, HJ3.out⟩⟩
        · have HX3 := hideP hJx3
          clear hJx3
          gi_wp2
          go_end0
          exact ⟨⟨_, rfl⟩, .inr ⟨_, trivial, HX3.out⟩⟩
      · rw [if_neg hB, List.append_nil] at HG
        have HN := hideP HG
        clear HG
        gi_wp2
        go_end0
        first | exact ⟨⟨_, rfl⟩, .inl ⟨_, HN.out, HJs.out⟩⟩ | exact ⟨⟨_, rfl⟩, .inl (by rw [← HN.out]; exact HJs.out)⟩

set_option maxHeartbeats 1000000 in
theorem gapsOf_in (n : Nat) (v : Value) (F T : Int) (w : World) (hv : ∃ a k c, v = .slice a k c) :
    CallsIn Fence.wide n Tryz.prog 53 #[v, .int .i64 F, .int .i64 T] w fun e w' => e = .returned (.func (.func 83) #[] #[.pointer (some ⟨w.heap.size + 1, 0, none⟩), .pointer (some ⟨w.heap.size, 0, none⟩), .pointer (some ⟨w.heap.size + 2, 0, none⟩)]) ∧ w' = ((w.alloc (.cells #[v] 24)).alloc (.cells #[.int .i64 F] 3)).alloc (.cells #[.int .i64 T] 3) := by
  obtain ⟨a, k, c, rfl⟩ := hv
  refine callsIn_of_wp Tryz.func53 rfl trivial ?_ rfl
  simp only [Tryz.ntmps53, List.size_toArray, List.length_cons, List.length_nil, Nat.reduceAdd, Nat.reduceSub, Array.replicate_succ, Array.replicate_zero, List.push_toArray, List.append_toArray, List.nil_append, List.cons_append]
  gi_wp2
  go_ret
  exact ⟨rfl, rfl⟩

/-- What gapsOf hands back tells all runs, in their order, to whatever loop body keeps what it reads. -/
theorem gaps_stops (n : Nat) (hn : 3 ≤ n) (R : Nat) (ad : Option Addr) (cap : Nat) (l : List Rgn) (F T : Int) (hok : reignsOk l = true) (w : World) (hR : R + 4 ≤ w.heap.size) (hr : ∀ k, k < l.length → ∃ g, ad = some ⟨g, 0, none⟩ ∧ g < R ∧ RAt w g k (rgA l k))
    (hc1 : w.cell? ⟨R + 2, 0, none⟩ = some (.int .i64 F)) (hc2 : w.cell? ⟨R + 1, 0, none⟩ = some (.slice ad l.length cap)) (hc3 : w.cell? ⟨R + 3, 0, none⟩ = some (.int .i64 T)) :
    SeqStopsK Fence.wide n Tryz.prog 83 #[.pointer (some ⟨R + 2, 0, none⟩), .pointer (some ⟨R + 1, 0, none⟩), .pointer (some ⟨R + 3, 0, none⟩)] (fun x : Int × Int => #[Value.agg #[.int .i64 x.1, .int .i64 x.2]]) (KpR R) (fun ys => ys = gapsFrom T l F) (fun _ => True) (gapsFrom T l F).length w := fun lp J Jx W hW hJ _ hY h0 =>
  gaps1_in n hn lp R ad cap l F T hok J Jx hY W hJ (Nat.le_trans hR hW.size) (fun k hk => by
      obtain ⟨g, e, hg, x⟩ := hr k hk
      exact ⟨g, e, hg, x.below hW (by omega)⟩)
    (Later.at hc1 ⟨W, hW⟩) (Later.at hc2 ⟨W, hW⟩) (Later.at hc3 ⟨W, hW⟩) h0
end Go.Proofs.YtcdcniniafejbaaGreatDoor.ctr
