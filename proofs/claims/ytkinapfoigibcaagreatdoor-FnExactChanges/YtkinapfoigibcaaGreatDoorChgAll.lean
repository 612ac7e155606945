/- Lists of ints in rows of their own ('MovRow': in a block that was not there in w; 'IntRow': anywhere), and the contracts of the laws' own helpers over lists of ints (eqIntS, sameInts, markIntS, heldIntS): two lists alike are told alike; marks are written into a list's own row, and found there again; nothing else turns. Contracts of the model's l01Cut and Words: each answers, in new memory, the plain list cut of the parts between a byte, at every text of at most 1048576 bytes; nothing that was there turns. Small laws on lists of texts that lie in a row of their own. Contracts of the laws' own helpers over lists of texts (eqStringS, markText, markStringS, heldStringS): two lists alike are told alike; marks are written into a list's own row, and found there again; nothing else turns. Contracts of the laws' markSegmentS and heldSegmentS: marks are written into a list's own row, and found there again; nothing else turns. Contract of the laws' markRegime: marks are written into the three lists' own rows; nothing else turns. Contracts of both Changes: in a row of its own, the first days of all segments but the first. -/
import Derived.Test.YtkinapfoigibcaaGreatDoorBlkKit
import Derived.Laws.AppendOwn
import Derived.Test.YtkinapfoigibcaaGreatDoorBase
import Derived.Handy
import Derived.Laws.OwnMore
import Derived.OwnWalk
import Derived.RangeFuncBox
import Derived.Maps.AppendAt
import Derived.BigQuiet
import Derived.Deep.QuietTactic
import Derived.Deep.RegionWith
import Derived.Lib.ItoaNum
import Derived.Laws.IdiomStrings
import Derived.Test.YtkinapfoigibcaaGreatDoorSrtImpl
import Derived.Test.YtkinapfoigibcaaGreatDoorRgmHelp
import Derived.Test.YtkinapfoigibcaaGreatDoorRokAll
import Derived.PlainAid
namespace Go.Proofs.YtkinapfoigibcaaGreatDoor.ctr
open Go.RowKit

def ints (l : List Int) : Array Value := (l.map (Value.int .i64)).toArray
theorem ints_at (l : List Int) (j : Nat) (h : j < l.length) : (ints l)[j]? = some (.int .i64 (l.getD j 0)) := by
  simp [ints, List.getD, h]
theorem ints_set (l : List Int) (k : Nat) (z : Int) : (ints l).setIfInBounds k (.int .i64 z) = ints (l.set k z) := by
  simp [ints, List.map_set]
theorem ints_size (l : List Int) : (ints l).size = l.length := by simp [ints]
theorem ints_app (l : List Int) (rs : Array Value) (j : Nat) (h : j < l.length) : (ints l ++ rs)[j]? = some (.int .i64 (l.getD j 0)) := by
  rw [Array.getElem?_append_left (by rw [ints_size]; exact h), ints_at l j h]
theorem ints_setA (l : List Int) (rs : Array Value) (k : Nat) (z : Int) (h : k < l.length) : (ints l ++ rs).setIfInBounds k (.int .i64 z) = ints (l.set k z) ++ rs := by
  rw [Array.setIfInBounds_append_left (by rw [ints_size]; exact h), ints_set]
/-- A slice value that holds just these numbers, in a row of its own that was not there in w. -/
def MovRow (w w' : World) (v : Value) (xs : List Int) : Prop := ∃ ad cap, v = .slice ad xs.length cap ∧ (xs = [] ∨ ∃ g t rs, ad = some ⟨g, 0, none⟩ ∧ w.heap.size ≤ g ∧ Blk w' g (ints xs ++ rs) t)
theorem movRow_nil {w w' : World} (ad : Option Addr) (cap : Nat) : MovRow w w' (.slice ad 0 cap) [] := ⟨ad, cap, rfl, .inl rfl⟩
theorem movRow_at {w w' : World} {xs : List Int} {g cap : Nat} {t : TypeId} (hg : w.heap.size ≤ g) (h : Blk w' g (ints xs) t) : MovRow w w' (.slice (some ⟨g, 0, none⟩) xs.length cap) xs := ⟨_, cap, rfl, .inr ⟨g, t, #[], rfl, hg, by simpa using h⟩⟩
theorem MovRow.below {w w' w'' : World} {v : Value} {xs : List Int} (h : MovRow w w' v xs) (hb : Below w'.heap.size w' w'') : MovRow w w'' v xs := by
  obtain ⟨ad, cap, rfl, h | ⟨g, t, zs, rfl, hg, hB⟩⟩ := h
  · exact ⟨ad, cap, rfl, .inl h⟩
  · exact ⟨_, cap, rfl, .inr ⟨g, t, zs, rfl, hg, hB.below hb hB.lt⟩⟩

/-- A slice value that holds just these numbers. -/
def IntRow (w : World) (v : Value) (xs : List Int) : Prop := ∃ ad cap, v = .slice ad xs.length cap ∧ ∀ j, j < xs.length → ∃ g, ad = some ⟨g, 0, none⟩ ∧ g < w.heap.size ∧ w.cell? ⟨g, j, none⟩ = some (.int .i64 (xs.getD j 0))
theorem MovRow.row {w w' : World} {v : Value} {xs : List Int} (h : MovRow w w' v xs) : IntRow w' v xs := by
  obtain ⟨ad, cap, rfl, h | ⟨g, t, zs, rfl, _, hb⟩⟩ := h
  · subst h
    exact ⟨ad, cap, rfl, fun j hj => by simp at hj⟩
  · exact ⟨_, cap, rfl, fun j hj => ⟨g, rfl, hb.lt, hb.cell j (ints_app xs zs j hj)⟩⟩
theorem IntRow.below {w w' : World} {v : Value} {xs : List Int} (h : IntRow w v xs) (hb : Below w.heap.size w w') : IntRow w' v xs := by
  obtain ⟨ad, cap, rfl, h⟩ := h
  exact ⟨ad, cap, rfl, fun j hj => by
    obtain ⟨g, e, hg, hc⟩ := h j hj
    exact ⟨g, e, Nat.lt_of_lt_of_le hg hb.size, (hb.cell (p := ⟨g, j, none⟩) hg).trans hc⟩⟩

set_option maxHeartbeats 1000000 in
theorem eqInts (v1 v2 : Value) (xs : List Int) (w : World) (hx : xs.length ≤ 2000000) (h1 : IntRow w v1 xs) (h2 : IntRow w v2 xs) :
    Calls Tryz.prog 27 #[v1, v2] w fun e w' => e = .returned (.bool true) ∧ Below w.heap.size w w' := by
  obtain ⟨a1, c1, rfl, H1⟩ := h1
  obtain ⟨a2, c2, rfl, H2⟩ := h2
  have K1 : Hid _ := H1
  have K2 : Hid _ := H2
  clear H1 H2
  go_enter Tryz.func27, Tryz.ntmps27
  go_wp2
  go_loopw [5] (fun i wr => ∃ k : Nat, k ≤ xs.length ∧ i = .int .i64 (k : Int) ∧ ∃ m, wr = w.drewN m) (fun i _ => xs.length - (intOf i).toNat)
  case atStart => exact ⟨0, Nat.zero_le _, rfl, 0, rfl⟩
  case round =>
    obtain ⟨k, hk, rfl, m, rfl⟩ := hrel
    by_cases hlt : k < xs.length
    · obtain ⟨g1, rfl, _, e1⟩ := K1.out k hlt
      obtain ⟨g2, rfl, _, e2⟩ := K2.out k hlt
      generalize xs.getD k 0 = x at e1 e2
      go_wp2
      go_quiet (fail)
      go_wp2
      exact ⟨⟨k + 1, by omega, by go_num, _, rfl⟩, by simp [intOf]; omega⟩
    · go_wp2
      go_ret
      exact ⟨rfl, Below_drewN (Below.refl _ _) m⟩

set_option maxHeartbeats 1000000 in
theorem sameInts (v1 v2 : Value) (xs : List Int) (w : World) (hx : xs.length ≤ 2000000) (h1 : IntRow w v1 xs) (h2 : IntRow w v2 xs) :
    Calls Tryz.prog 21 #[v1, v2] w fun e w' => e = .returned (.bool true) ∧ Below w.heap.size w w' := by
  obtain ⟨a1, c1, rfl, H1⟩ := h1
  obtain ⟨a2, c2, rfl, H2⟩ := h2
  have K1 : Hid _ := H1
  have K2 : Hid _ := H2
  clear H1 H2
  go_enter Tryz.func21, Tryz.ntmps21
  go_wp2
  go_loopw [5] (fun i wr => ∃ k : Nat, k ≤ xs.length ∧ i = .int .i64 (k : Int) ∧ ∃ m, wr = w.drewN m) (fun i _ => xs.length - (intOf i).toNat)
  case atStart => exact ⟨0, Nat.zero_le _, rfl, 0, rfl⟩
  case round =>
    obtain ⟨k, hk, rfl, m, rfl⟩ := hrel
    by_cases hlt : k < xs.length
    · obtain ⟨g1, rfl, _, e1⟩ := K1.out k hlt
      obtain ⟨g2, rfl, _, e2⟩ := K2.out k hlt
      generalize xs.getD k 0 = x at e1 e2
      go_wp2
      go_quiet (fail)
      go_wp2
      exact ⟨⟨k + 1, by omega, by go_num, _, rfl⟩, by simp [intOf]; omega⟩
    · go_wp2
      go_ret
      exact ⟨rfl, Below_drewN (Below.refl _ _) m⟩

/-- The marks k0, k0 + 1 .. -/
def marks (k0 n : Nat) : List Int := (List.range n).map fun j => ((k0 + j : Nat) : Int)
theorem marks_len (k0 n : Nat) : (marks k0 n).length = n := by simp [marks]
theorem marks_at (k0 n j : Nat) (h : j < n) : (marks k0 n).getD j 0 = ((k0 + j : Nat) : Int) := by simp [marks, List.getD, h]
/-- The first k marks, then the numbers of old. -/
def marked (xs : List Int) (k0 k : Nat) : List Int := marks k0 k ++ xs.drop k
theorem marked_len (xs : List Int) (k0 k : Nat) (h : k ≤ xs.length) : (marked xs k0 k).length = xs.length := by simp [marked, marks_len]; omega
theorem marked_all (xs : List Int) (k0 : Nat) : marked xs k0 xs.length = marks k0 xs.length := by simp [marked]
theorem marked_set (xs : List Int) (k0 k : Nat) (h : k < xs.length) : (marked xs k0 k).set k ((k0 + k : Nat) : Int) = marked xs k0 (k + 1) := by
  unfold marked marks
  rw [List.set_append_right _ _ (by simp), List.length_map, List.length_range, Nat.sub_self, List.range_succ, List.map_append, List.drop_eq_getElem_cons h, List.set_cons_zero, List.append_assoc]
  rfl

set_option maxHeartbeats 1000000 in
theorem markInts (g cap k0 : Nat) (xs : List Int) (zs : Array Value) (t : TypeId) (w W : World) (hn : xs.length ≤ 2000000) (hk1 : k0 ≤ 2000000) (hg : W.heap.size ≤ g) (hW : Below W.heap.size W w) (ho : Blk w g (ints xs ++ zs) t) :
    Calls Tryz.prog 29 #[.slice (some ⟨g, 0, none⟩) xs.length cap, .int .i64 (k0 : Int)] w fun e w' => e = .returned (.int .i64 ((k0 + xs.length : Nat) : Int)) ∧ w.grownBy w' (some g) ∧ Below W.heap.size W w' ∧ Blk w' g (ints (marks k0 xs.length) ++ zs) t := by
  have HO := hideP ho
  have HW := hideP hW
  clear ho hW
  go_enter Tryz.func29, Tryz.ntmps29
  go_wp2
  go_loopw [1, 5] (fun u i wr => ∃ k : Nat, k ≤ xs.length ∧ i = .int .i64 (k : Int) ∧ u = .int .i64 ((k0 + k : Nat) : Int) ∧ w.grownBy wr (some g) ∧ Below W.heap.size W wr ∧ Blk wr g (ints (marked xs k0 k) ++ zs) t) (fun _ i _ => xs.length - (intOf i).toNat)
  case atStart => exact ⟨0, Nat.zero_le _, rfl, rfl, ⟨rfl, rfl, rfl, Nat.le_refl _, fun _ _ _ => rfl⟩, HW.out, by simpa [marked, marks] using HO.out⟩
  case round =>
    obtain ⟨k, hk, rfl, rfl, hG, hB, hM⟩ := hrel
    have HG := hideP hG
    have HB := hideP hB
    have HM := hideP hM
    clear hG hM hB
    by_cases hlt : k < xs.length
    · have c0 := HM.out.cell k (ints_app (marked xs k0 k) zs k (by rw [marked_len _ _ _ hk]; exact hlt))
      have hlm : k < (marked xs k0 k).length := by rw [marked_len _ _ _ hk]; exact hlt
      have f0 := HM.out.thaw k
      have HS := hideP (marked_set xs k0 k hlt)
      have HL := hideP hlm
      clear hlm
      generalize (marked xs k0 k).getD k 0 = z at *
      go_wp2
      refine ⟨⟨k + 1, by omega, by go_num, by go_num, ?_, below_store HB.out _ hg, ?_⟩, by simp [intOf]; omega⟩
      · exact ⟨HG.out.os, HG.out.tape, HG.out.output, by simpa [World.setCell] using HG.out.size, fun j hj hr => (Below.heap_setCell wr _ _ j (fun e => hr (by rw [e]))).trans (HG.out.block j hj hr)⟩
      · have h := HM.out.set k (.int .i64 ((k0 + k : Nat) : Int))
        rw [ints_setA _ _ _ _ HL.out, HS.out] at h
        first | exact h | simpa using h
    · have hkn : k = xs.length := by omega
      subst hkn
      go_wp2
      go_ret
      exact ⟨rfl, HG.out, HB.out, by rw [← marked_all]; exact HM.out⟩
set_option maxHeartbeats 1000000 in
theorem markNone (a : Option Addr) (cap : Nat) (k0 : Nat) (w : World) : Calls Tryz.prog 29 #[.slice a 0 cap, .int .i64 (k0 : Int)] w fun e w' => e = .returned (.int .i64 (k0 : Int)) ∧ w' = w := by
  go_enter Tryz.func29, Tryz.ntmps29
  go_wp2
  go_loopw [1, 5] (fun u i wr => i = .int .i64 0 ∧ u = .int .i64 (k0 : Int) ∧ wr = w) (fun _ _ _ => 0)
  case atStart => exact ⟨rfl, rfl, rfl⟩
  case round =>
    obtain ⟨rfl, rfl, rfl⟩ := hrel
    go_wp2
    go_ret
    exact ⟨rfl, rfl⟩

set_option maxHeartbeats 1000000 in
theorem heldInts (v : Value) (k0 n : Nat) (w : World) (hn : n ≤ 2000000) (hk1 : k0 ≤ 2000000) (h1 : IntRow w v (marks k0 n)) :
    Calls Tryz.prog 30 #[v, .int .i64 (k0 : Int)] w fun e w' => e = .returned (.int .i64 ((k0 + n : Nat) : Int)) ∧ Below w.heap.size w w' := by
  obtain ⟨a1, c1, rfl, H1⟩ := h1
  rw [marks_len] at *
  have K1 : Hid _ := H1
  clear H1
  go_enter Tryz.func30, Tryz.ntmps30
  go_wp2
  go_loopw [1, 5] (fun u i wr => ∃ k : Nat, k ≤ n ∧ i = .int .i64 (k : Int) ∧ u = .int .i64 ((k0 + k : Nat) : Int) ∧ ∃ m, wr = w.drewN m) (fun _ i _ => n - (intOf i).toNat)
  case atStart => exact ⟨0, Nat.zero_le _, rfl, rfl, 0, rfl⟩
  case round =>
    obtain ⟨k, hk, rfl, rfl, m, rfl⟩ := hrel
    by_cases hlt : k < n
    · obtain ⟨g1, rfl, _, e1⟩ := K1.out k hlt
      rw [marks_at k0 n k hlt] at e1
      go_wp2
      exact ⟨⟨k + 1, by omega, by go_num, by go_num, _, rfl⟩, by simp [intOf]; omega⟩
    · have hkn : k = n := by omega
      subst hkn
      go_wp2
      go_ret
      exact ⟨rfl, Below_drewN (Below.refl _ _) m⟩
theorem markRow (W w : World) (v : Value) (xs : List Int) (hn : xs.length ≤ 2000000) (h : MovRow W w v xs) (hW : Below W.heap.size W w) :
    Calls Tryz.prog 29 #[v, .int .i64 1] w fun e w' => e = .returned (.int .i64 ((1 + xs.length : Nat) : Int)) ∧ Below W.heap.size W w' ∧ IntRow w' v (marks 1 xs.length) := by
  obtain ⟨ad, cap, rfl, h | ⟨g, t, zs, rfl, hg, hB⟩⟩ := h
  · subst h
    exact (markNone ad cap 1 w).mono fun e w' ⟨he, hw⟩ => ⟨he, by rw [hw]; exact hW, ⟨ad, cap, rfl, fun j hj => by simp [marks] at hj⟩⟩
  · refine (markInts g cap 1 xs zs t w W (by omega) (by omega) hg hW hB).mono ?_
    rintro e w' ⟨he, _, hb, hk⟩
    exact ⟨he, hb, ⟨_, cap, by rw [marks_len], fun j hj => ⟨g, rfl, hk.lt, hk.cell j (ints_app _ zs j hj)⟩⟩⟩
/-- A row of its own, made by append. -/
theorem own_ints {w W : World} {v : Value} {xs : List Int} {e : TypeId} (h : W.ownsRow w.heap.size e 1 v xs.length (xs.map (Value.int .i64))) : MovRow w W v xs := by
  rcases h.2 with ⟨hv, h0⟩ | ⟨g, cap, cur, hv, hb, hh, hcap, _, hsz, htake⟩
  · subst hv
    exact ⟨none, 0, by rw [h0], .inl (List.length_eq_zero_iff.1 h0)⟩
  · subst hv
    refine ⟨_, cap, rfl, .inr ⟨g, e, (cur.toList.drop xs.length).toArray, rfl, hb, ?_⟩⟩
    have e1 : cur = ints xs ++ (cur.toList.drop xs.length).toArray := by
      apply Array.toList_inj.1
      rw [Array.toList_append]
      show cur.toList = (xs.map (Value.int .i64)) ++ cur.toList.drop xs.length
      rw [← htake]
      simp
    unfold Blk
    rw [← e1]
    exact hh
theorem info_int : (Tryz.prog.info? 3).map (fun i => (i.zero, i.size, i.bytes)) = some (some (.int .i64 0), 1, 8) := by kernel_rfl
end Go.Proofs.YtkinapfoigibcaaGreatDoor.ctr

namespace Go.Proofs.YtkinapfoigibcaaGreatDoor.ctr
open Go.RowKit

def bAt (s : ByteArray) (k : Nat) : Int := ((s.data.toList.getD k 0).toNat : Int)
theorem bAt_eq (s : ByteArray) (k : Nat) (h : k < s.size) : (s[k].toNat : Int) = bAt s k := by
  have h' : k < s.data.toList.length := h
  unfold bAt
  rw [List.getD, List.getElem?_eq_getElem h']
  rfl
def startAt (s : ByteArray) (g : Int) : Nat → Nat
  | 0 => 0
  | k + 1 => if bAt s k = g then k + 1 else startAt s g k
def partsTo (s : ByteArray) (g : Int) : Nat → List ByteArray
  | 0 => []
  | k + 1 => if bAt s k = g then partsTo s g k ++ [s.extract (startAt s g k) k] else partsTo s g k
def cut (s : ByteArray) (g : Int) : List ByteArray := partsTo s g s.size ++ [s.extract (startAt s g s.size) s.size]
theorem start_le (s : ByteArray) (g : Int) : ∀ k, startAt s g k ≤ k
  | 0 => Nat.le_refl _
  | k + 1 => by
    have := start_le s g k
    unfold startAt
    split <;> omega
theorem parts_len (s : ByteArray) (g : Int) : ∀ k, (partsTo s g k).length ≤ k
  | 0 => Nat.le_refl _
  | k + 1 => by
    have := parts_len s g k
    unfold partsTo
    split
    · rw [List.length_append]; simp; omega
    · omega
theorem parts_hit (s : ByteArray) (g : Int) (k : Nat) (h : bAt s k = g) : partsTo s g (k + 1) = partsTo s g k ++ [s.extract (startAt s g k) k] ∧ startAt s g (k + 1) = k + 1 := by
  constructor
  · rw [partsTo, if_pos h]
  · rw [startAt, if_pos h]
theorem parts_miss (s : ByteArray) (g : Int) (k : Nat) (h : bAt s k ≠ g) : partsTo s g (k + 1) = partsTo s g k ∧ startAt s g (k + 1) = startAt s g k := by
  constructor
  · rw [partsTo, if_neg h]
  · rw [startAt, if_neg h]
theorem own_base {w : World} {base e size : Nat} {v : Value} {n : Nat} {xs : List Value} (h : w.ownsRow base e size v n xs) : ∀ k, v.ownBlock = some k → base ≤ k := by
  obtain ⟨_, h | ⟨g, cap, cur, rfl, hb, _⟩⟩ := h
  · obtain ⟨rfl, _⟩ := h
    intro k hk
    cases hk
  · intro k hk
    cases hk
    exact hb
theorem size_new' (W : World) (o : Obj) : (W.alloc o).heap.size = W.heap.size + 1 := by simp [World.alloc, -World.alloc_eq]
theorem own_empty (w : World) (e : TypeId) : (w.alloc (.cells #[] e)).ownsRow w.heap.size e 1 (.slice (some ⟨w.heap.size, 0, none⟩) 0 0) 0 [] :=
  ⟨rfl, .inr ⟨w.heap.size, 0, #[], rfl, Nat.le_refl _, by simp [World.alloc, -World.alloc_eq], Nat.le_refl _, Nat.zero_le _, rfl, rfl⟩⟩
theorem info_str : (Tryz.prog.info? 9).map (fun i => (i.zero, i.size, i.bytes)) = some (some (.string ⟨#[]⟩), 1, 16) := by kernel_rfl

end Go.Proofs.YtkinapfoigibcaaGreatDoor.ctr

namespace Go.Proofs.YtkinapfoigibcaaGreatDoor.ctr
open Go.RowKit

/-- The value is a slice whose elements are these texts. -/
def StrRow (W : World) (v : Value) (xs : List ByteArray) : Prop :=
  ∃ a cap, v = .slice a xs.length cap ∧ (xs = [] ∨ ∃ g, a = some ⟨g, 0, none⟩ ∧ ∀ j, j < xs.length → W.cell? ⟨g, j, none⟩ = some (.string (xs.getD j ⟨#[]⟩)))
theorem StrRow.at {W : World} {v : Value} {xs : List ByteArray} (h : StrRow W v xs) : ∃ a cap, v = .slice a xs.length cap ∧ ∀ k, k < xs.length → ∃ g, a = some ⟨g, 0, none⟩ ∧ W.cell? ⟨g, k, none⟩ = some (.string (xs.getD k ⟨#[]⟩)) := by
  obtain ⟨a, cap, hv, hc⟩ := h
  refine ⟨a, cap, hv, fun k hk => ?_⟩
  rcases hc with rfl | ⟨g, ha, hc⟩
  · simp at hk
  · exact ⟨g, ha, hc k hk⟩

/-- A list's own row that can be written. -/
def OwnRow (W : World) (g n : Nat) : Prop := ∀ j, j < n → (∃ u, W.cell? ⟨g, j, none⟩ = some u) ∧ W.frozen? ⟨g, j, none⟩ = false
theorem mset_size (w : World) (p : Addr) (v : Value) : (w.setCell p v).heap.size = w.heap.size := by simp [World.setCell]
/-- The row g holds these texts. -/
def StrAt (W : World) (g : Nat) (xs : List ByteArray) : Prop := ∀ j, j < xs.length → W.cell? ⟨g, j, none⟩ = some (.string (xs.getD j ⟨#[]⟩))
theorem StrAt.row {W : World} {g cap : Nat} {xs : List ByteArray} (h : StrAt W g xs) : StrRow W (.slice (some ⟨g, 0, none⟩) xs.length cap) xs := ⟨_, _, rfl, .inr ⟨g, rfl, h⟩⟩
theorem StrAt.below {W W' : World} {g : Nat} {xs : List ByteArray} (h : StrAt W g xs) {B : Nat} (hb : Below B W W') (hg : g < B) : StrAt W' g xs := fun j hj => (hb.cell (p := ⟨g, j, none⟩) hg).trans (h j hj)
theorem StrAt.grown {W W' : World} {g r : Nat} {xs : List ByteArray} (h : StrAt W g xs) (hb : W.grownBy W' (some r)) (hg : g < W.heap.size) (hr : g ≠ r) : StrAt W' g xs := fun j hj =>
  (World.cell?_of_block (hb.block g hg (by intro e; exact hr (Option.some.inj e)))).trans (h j hj)
theorem own_row {W : World} {base : Nat} {v : Value} {xs : List ByteArray} (h : W.ownsRow base 9 1 v xs.length (xs.map Value.string)) (hx : xs ≠ []) :
    ∃ g cap, v = .slice (some ⟨g, 0, none⟩) xs.length cap ∧ base ≤ g ∧ g < W.heap.size ∧ StrAt W g xs ∧ OwnRow W g xs.length := by
  rcases h.2 with ⟨_, h0⟩ | ⟨g, cap, cur, hv, hb, hh, hcap, _, hsz, htake⟩
  · exact absurd (List.length_eq_zero_iff.1 h0) hx
  · subst hv
    have hlt : g < W.heap.size := (Array.getElem?_eq_some_iff.1 hh).1
    have hcell : ∀ j, j < xs.length → W.cell? ⟨g, j, none⟩ = some (.string (xs.getD j ⟨#[]⟩)) := fun j hj => by
      have := h.cellAt j (by omega)
      rw [this]
      simp [List.getD, hj]
    refine ⟨g, cap, rfl, hb, hlt, hcell, fun j hj => ⟨⟨_, hcell j hj⟩, ?_⟩⟩
    simp [World.frozen?, hh]
theorem cut_ne (s : ByteArray) (g : Int) : cut s g ≠ [] := by unfold cut; simp
end Go.Proofs.YtkinapfoigibcaaGreatDoor.ctr

namespace Go.Proofs.YtkinapfoigibcaaGreatDoor.ctr
open Go.RowKit

/-- The digits that are left of a mark's number. -/
def mleft (m : Nat) : List UInt8 := if m = 0 then [] else Lib.decDigits m
theorem mleft_step (m : Nat) (h : m ≠ 0) : mleft m = mleft (m / 10) ++ [UInt8.ofNat (48 + m % 10)] := by
  unfold mleft
  rw [if_neg h, Lib.decDigits]
  by_cases h0 : m < 10
  · rw [dif_pos h0, if_pos (by omega), Nat.mod_eq_of_lt h0]
    rfl
  · rw [dif_neg h0, if_neg (by omega)]
theorem mdec_len : ∀ (k u : Nat), u < 10 ^ (k + 1) → (Lib.decDigits u).length ≤ k + 1
  | 0, u, h => by rw [Lib.decDigits, dif_pos (by simpa using h)]; simp
  | k + 1, u, h => by
    rw [Lib.decDigits]
    by_cases h0 : u < 10
    · rw [dif_pos h0]; simp
    · rw [dif_neg h0, List.length_append]
      have := mdec_len k (u / 10) (by rw [Nat.pow_succ] at h; omega)
      simp
      omega
theorem mleft_len (n : Nat) (h : n < 1000000000) : (mleft n).length ≤ 9 := by
  unfold mleft
  split
  · simp
  · exact mdec_len 8 n (by have hp : (10 : Nat) ^ (8 + 1) = 1000000000 := by decide
                           rw [hp]; exact h)
/-- The mark of a number. -/
def mk (k : Nat) : ByteArray := ⟨(109 :: mleft k).toArray⟩
theorem conv1 (W : World) (c : Int) (h0 : 0 ≤ c) (h1 : c < 256) : (convert 22 9 (.slice (some ⟨W.heap.size, 0, none⟩) 1 1)).run Tryz.prog (W.alloc (.cells #[.int .u8 c] 5)) = .ok (.string ⟨#[UInt8.ofNat c.toNat]⟩) (W.alloc (.cells #[.int .u8 c] 5)) := by
  refine run_convert_bytes_back _ 22 9 5 ⟨W.heap.size, 0, none⟩ 1 [UInt8.ofNat c.toNat] Tryz.underlying22 Tryz.underlying5 Tryz.underlying9 (fun j hj => ?_)
  have hj0 : j = 0 := by simpa using hj
  subst hj0
  have ha : (⟨W.heap.size, 0, none⟩ : Addr).add 0 = ⟨W.heap.size, 0, none⟩ := by unfold Addr.add; split <;> simp_all
  have hc : (W.alloc (.cells #[.int .u8 c] 5)).cell? ⟨W.heap.size, 0, none⟩ = some (.int .u8 c) := by simp [World.alloc, World.cell?, -World.alloc_eq]
  rw [ha, hc]
  simp
  omega

set_option maxHeartbeats 1000000 in
theorem markText (n : Nat) (w : World) (hn : 0 < n) (hb : n < 1000000000) :
    Calls Tryz.prog 85 #[.int .i64 (n : Int)] w fun e w' => e = .returned (.string (mk n)) ∧ Below w.heap.size w w' := by
  have hl9 := mleft_len n hb
  have HL9 : Hid _ := hl9
  clear hl9
  go_enter Tryz.func85, Tryz.ntmps85
  go_wp2
  go_loopw [0, 3] (fun t o wr => ∃ (m : Nat) (out : List UInt8), m < 1000000000 ∧ t = .int .i64 (m : Int) ∧ o = .string ⟨out.toArray⟩ ∧ out.length ≤ 9 ∧ Hid (mleft m ++ out = mleft n) ∧ Below w.heap.size w wr) (fun t _ _ => (intOf t).toNat)
  case atStart => exact ⟨n, [], hb, rfl, rfl, by simp, by unfold Hid; simp, Below.refl _ _⟩
  case round =>
    obtain ⟨m, out, hm, rfl, rfl, ho, HO, hB⟩ := hrel
    by_cases hz : m = 0
    · subst hz
      go_wp2
      go_ret
      refine ⟨ret_str ?_, hB⟩
      unfold mk
      rw [← HO.out]
      apply WideShapes.bytes_inj
      simp [mleft]
    · have hmp : 0 < (m : Int) := by omega
      have hcv := fun W : World => conv1 W (48 + (m : Int) % 10) (by omega) (by omega)
      have hx : mleft (m / 10) ++ ((48 + UInt8.ofNat (m % 10)) :: out) = mleft n := by
        rw [← HO.out, mleft_step m hz, UInt8.ofNat_add]
        simp
      have hol : ((48 + UInt8.ofNat (m % 10)) :: out).length ≤ 9 := by
        have h := HL9.out
        rw [← hx, List.length_append] at h
        omega
      have HX : Hid _ := hx
      have HOL : Hid _ := hol
      clear hx hol
      go_wp2
      refine ⟨⟨m / 10, (48 + UInt8.ofNat (m % 10)) :: out, by omega, by simp, ?_, HOL.out, HX.out, hB.alloc hB.size _⟩, by simp [intOf]; omega⟩
      apply congrArg Value.string
      apply WideShapes.bytes_inj
      simp

theorem mgrown_trans {W W1 W2 : World} {r : Option Nat} (h : W.grownBy W1 r) (k : W1.grownBy W2 r) : W.grownBy W2 r :=
  ⟨k.os.trans h.os, k.tape.trans h.tape, k.output.trans h.output, Nat.le_trans h.size k.size, fun j hj hr => (k.block j (Nat.lt_of_lt_of_le hj h.size) hr).trans (h.block j hj hr)⟩
theorem mgrown_set (W : World) (B o : Nat) (v : Value) : W.grownBy (W.setCell ⟨B, o, none⟩ v) (some B) :=
  ⟨rfl, rfl, rfl, by rw [mset_size]; exact Nat.le_refl _, fun k _ hk => Below.heap_setCell W _ _ k (by intro e; apply hk; rw [e])⟩
theorem own_set {W : World} {g n : Nat} (h : OwnRow W g n) (k : Nat) (hk : k < n) (v : Value) : OwnRow (W.setCell ⟨g, k, none⟩ v) g n := fun j hj => by
  obtain ⟨⟨u, hu⟩, hf⟩ := h j hj
  refine ⟨?_, by rw [World.frozen?_setCell]; exact hf⟩
  by_cases e : j = k
  · subst e
    exact ⟨v, World.cell?_setCell_same W _ _ hu⟩
  · exact ⟨u, by rw [World.cell?_setCell_other W _ _ _ (by intro h; injection h with _ h2; exact e h2.symm)]; exact hu⟩
theorem mark_set {W : World} {g k k0 : Nat} {u : Value} (h : ∀ j, j < k → W.cell? ⟨g, j, none⟩ = some (.string (mk (k0 + j)))) (hu : W.cell? ⟨g, k, none⟩ = some u) :
    ∀ j, j < k + 1 → (W.setCell ⟨g, k, none⟩ (.string (mk (k0 + k)))).cell? ⟨g, j, none⟩ = some (.string (mk (k0 + j))) := fun j hj => by
  by_cases e : j = k
  · subst e
    exact World.cell?_setCell_same W _ _ hu
  · rw [World.cell?_setCell_other W _ _ _ (by intro h; injection h with _ h2; exact e h2.symm)]
    exact h j (by omega)

end Go.Proofs.YtkinapfoigibcaaGreatDoor.ctr

namespace Go.Proofs.YtkinapfoigibcaaGreatDoor.ctr
open Go.RowKit

/-- m cells of one's own; the first k hold their marks. -/
def OwnC (w : World) (g m : Nat) : Prop := ∀ j, j < m → (∃ u, w.cell? ⟨g, j, none⟩ = some u) ∧ w.frozen? ⟨g, j, none⟩ = false
def MarkC (w : World) (g m : Nat) : Prop := ∀ j, j < m → w.cell? ⟨g, j, none⟩ = some (.int .i64 ((1 + j : Nat) : Int))
theorem ownC_of {W : World} {g m : Nat} {cs : Array Value} {t : TypeId} (h : Blk W g cs t) (hs : m ≤ cs.size) : OwnC W g m := fun j hj => ⟨⟨cs[j]'(by omega), h.cell j (by simp)⟩, h.thaw j⟩
theorem PRow.own {w : World} {g cap : Nat} {T : TypeId} {L : List Seg} (h : PRow segK T w g cap L) : OwnC w g (L.length * 5) := by
  obtain ⟨cur, hB, hs, h1, _⟩ := h
  have : L.length * 5 ≤ cap * 5 := Nat.mul_le_mul_right _ h1
  exact ownC_of hB (by rw [hs]; exact this)
theorem ownC_set {W : World} {g n : Nat} (h : OwnC W g n) (k : Nat) (v : Value) : OwnC (W.setCell ⟨g, k, none⟩ v) g n := fun j hj => by
  obtain ⟨⟨u, hu⟩, hf⟩ := h j hj
  refine ⟨?_, by rw [World.frozen?_setCell]; exact hf⟩
  by_cases e : j = k
  · subst e
    exact ⟨v, World.cell?_setCell_same W _ _ hu⟩
  · exact ⟨u, by rw [World.cell?_setCell_other W _ _ _ (by intro h; injection h with _ h2; exact e h2.symm)]; exact hu⟩
theorem markC_set {W : World} {g n k : Nat} (h : MarkC W g k) (ho : OwnC W g n) (hk : k < n) : MarkC (W.setCell ⟨g, k, none⟩ (.int .i64 ((1 + k : Nat) : Int))) g (k + 1) := fun j hj => by
  obtain ⟨⟨u, hu⟩, _⟩ := ho k hk
  by_cases e : j = k
  · subst e
    exact World.cell?_setCell_same W _ _ hu
  · rw [World.cell?_setCell_other W _ _ _ (by intro h; injection h with _ h2; exact e h2.symm)]
    exact h j (by omega)
theorem grown_set (W : World) (B o : Nat) (v : Value) : W.grownBy (W.setCell ⟨B, o, none⟩ v) (some B) :=
  ⟨rfl, rfl, rfl, by rw [World.size_setCell]; exact Nat.le_refl _, fun k _ hk => Below.heap_setCell W _ _ k (by intro e; apply hk; rw [e])⟩
structure MSt (w : World) (g n k : Nat) (wr : World) : Prop where
  own : OwnC wr g (n * 5)
  mark : MarkC wr g k
  grown : w.grownBy wr (some g)
theorem MSt.put {w wr : World} {g n k : Nat} (h : MSt w g n k wr) (hk : k < n * 5) : MSt w g n (k + 1) (wr.setCell ⟨g, k, none⟩ (.int .i64 ((1 + k : Nat) : Int))) :=
  ⟨ownC_set h.own _ _, markC_set h.mark h.own hk, grown_two h.grown (grown_set _ _ _ _)⟩
theorem MSt.five {w wr : World} {g n k : Nat} (h : MSt w g n (k * 5) wr) (hk : k < n) : MSt w g n ((k + 1) * 5) (((((wr.setCell ⟨g, k * 5, none⟩ (.int .i64 ((k : Int) * 5 + 1))).setCell ⟨g, k * 5 + 1, none⟩ (.int .i64 ((k : Int) * 5 + 1 + 1))).setCell ⟨g, k * 5 + 2, none⟩ (.int .i64 ((k : Int) * 5 + 1 + 1 + 1))).setCell ⟨g, k * 5 + 3, none⟩ (.int .i64 ((k : Int) * 5 + 1 + 1 + 1 + 1))).setCell ⟨g, k * 5 + 4, none⟩ (.int .i64 ((k : Int) * 5 + 1 + 1 + 1 + 1 + 1))) := by
  have e : ∀ j : Nat, j < 5 → ((1 + (k * 5 + j) : Nat) : Int) = (k : Int) * 5 + 1 + (j : Int) := fun j _ => by omega
  have h5 := ((((h.put (by omega)).put (by omega)).put (by omega)).put (by omega)).put (by omega)
  rw [show (k + 1) * 5 = k * 5 + 1 + 1 + 1 + 1 + 1 by omega]
  have a0 : ((1 + (k * 5) : Nat) : Int) = (k : Int) * 5 + 1 := by omega
  have a1 : ((1 + (k * 5 + 1) : Nat) : Int) = (k : Int) * 5 + 1 + 1 := by omega
  have a2 : ((1 + (k * 5 + 1 + 1) : Nat) : Int) = (k : Int) * 5 + 1 + 1 + 1 := by omega
  have a3 : ((1 + (k * 5 + 1 + 1 + 1) : Nat) : Int) = (k : Int) * 5 + 1 + 1 + 1 + 1 := by omega
  have a4 : ((1 + (k * 5 + 1 + 1 + 1 + 1) : Nat) : Int) = (k : Int) * 5 + 1 + 1 + 1 + 1 + 1 := by omega
  rw [a0, a1, a2, a3, a4] at h5
  exact h5
set_option maxHeartbeats 2000000 in
theorem markSegs (g cap n : Nat) (w : World) (hn : n ≤ 1048576) (ho : OwnC w g (n * 5)) :
    Calls Tryz.prog 64 #[.slice (some ⟨g, 0, none⟩) n cap, .int .i64 1] w fun e w' => e = .returned (.int .i64 ((n : Int) * 5 + 1)) ∧ MSt w g n (n * 5) w' := by
  have S0 : Hid (MSt w g n 0 w) := ⟨ho, fun j hj => by omega, ⟨rfl, rfl, rfl, Nat.le_refl _, fun _ _ _ => rfl⟩⟩
  clear ho
  go_enter Tryz.func64, Tryz.ntmps64
  go_wp2
  go_loopw [1, 5] (fun t i wr => ∃ k : Nat, k ≤ n ∧ i = .int .i64 (k : Int) ∧ t = .int .i64 ((k : Int) * 5 + 1) ∧ MSt w g n (k * 5) wr) (fun _ i _ => n - (intOf i).toNat)
  case atStart => exact ⟨0, Nat.zero_le _, rfl, rfl, S0.out⟩
  case round =>
    obtain ⟨k, hk, rfl, rfl, hM⟩ := hrel
    have HM := hideP hM
    clear hM S0
    by_cases hlt : k < n
    · obtain ⟨⟨u0, h0⟩, f0⟩ := HM.out.own (k * 5) (by omega)
      obtain ⟨⟨u1, h1⟩, f1⟩ := HM.out.own (k * 5 + 1) (by omega)
      obtain ⟨⟨u2, h2⟩, f2⟩ := HM.out.own (k * 5 + 2) (by omega)
      obtain ⟨⟨u3, h3⟩, f3⟩ := HM.out.own (k * 5 + 3) (by omega)
      obtain ⟨⟨u4, h4⟩, f4⟩ := HM.out.own (k * 5 + 4) (by omega)
      have HN := hideP (HM.out.five hlt)
      go_wp2
      exact ⟨⟨k + 1, by omega, by go_num, by apply congrArg (Value.int .i64); omega, HN.out⟩, by simp [intOf]; omega⟩
    · obtain rfl : k = n := by omega
      go_wp2
      go_ret
      exact ⟨rfl, HM.out⟩
end Go.Proofs.YtkinapfoigibcaaGreatDoor.ctr

namespace Go.Proofs.YtkinapfoigibcaaGreatDoor.ctr
open Go.RowKit

/-- Nothing but the blocks of S turns. -/
structure Kp (S : Nat → Prop) (w w' : World) : Prop where
  os : w'.os = w.os
  tape : w'.tape = w.tape
  output : w'.output = w.output
  size : w.heap.size ≤ w'.heap.size
  block : ∀ k, k < w.heap.size → ¬ S k → w'.heap[k]? = w.heap[k]?
theorem Kp.refl (S : Nat → Prop) (w : World) : Kp S w w := ⟨rfl, rfl, rfl, Nat.le_refl _, fun _ _ _ => rfl⟩
theorem Kp.later {S : Nat → Prop} {a b c : World} (h : Kp S a b) (k : Below b.heap.size b c) : Kp S a c :=
  ⟨k.os.trans h.os, k.tape.trans h.tape, k.output.trans h.output, Nat.le_trans h.size k.size, fun i hi hs => (k.block i (Nat.lt_of_lt_of_le hi h.size)).trans (h.block i hi hs)⟩
theorem Kp.grown {S : Nat → Prop} {a b c : World} {g : Nat} (h : Kp S a b) (k : b.grownBy c (some g)) (hg : S g) : Kp S a c :=
  ⟨k.os.trans h.os, k.tape.trans h.tape, k.output.trans h.output, Nat.le_trans h.size k.size, fun i hi hs => (k.block i (Nat.lt_of_lt_of_le hi h.size) (fun e => hs (by cases e; exact hg))).trans (h.block i hi hs)⟩
theorem Kp.below {S : Nat → Prop} {a b w : World} {B : Nat} (h : Kp S a b) (hb : Below B w a) (hB : B ≤ a.heap.size) (hS : ∀ k, S k → B ≤ k) : Below B w b :=
  hb.trans ⟨h.os, h.tape, h.output, h.size, fun k hk => h.block k (by omega) (fun hs => by have := hS k hs; omega)⟩
theorem Kp.blk {S : Nat → Prop} {a b : World} {g : Nat} {cs : Array Value} {t : TypeId} (h : Kp S a b) (hB : Blk a g cs t) (hS : ¬ S g) : Blk b g cs t := (h.block g hB.lt hS).trans hB
theorem Kp.mov {S : Nat → Prop} {W a b : World} {v : Value} {xs : List Int} (h : Kp S a b) (hm : MovRow W a v xs) (hS : ∀ k, S k → k < W.heap.size) : MovRow W b v xs := by
  obtain ⟨ad, cap, rfl, hm | ⟨g, t, zs, rfl, hg, hB⟩⟩ := hm
  · exact ⟨ad, cap, rfl, .inl hm⟩
  · exact ⟨_, cap, rfl, .inr ⟨g, t, zs, rfl, hg, h.blk hB (fun hs => by have := hS g hs; omega)⟩⟩
theorem MovRow.mono {w w0 w' : World} {v : Value} {xs : List Int} (h : MovRow w w' v xs) (hb : w0.heap.size ≤ w.heap.size) : MovRow w0 w' v xs := by
  obtain ⟨ad, cap, rfl, h | ⟨g, t, zs, rfl, hg, hB⟩⟩ := h
  · exact ⟨ad, cap, rfl, .inl h⟩
  · exact ⟨_, cap, rfl, .inr ⟨g, t, zs, rfl, Nat.le_trans hb hg, hB⟩⟩
theorem ownC_below {w w' : World} {g m : Nat} (h : OwnC w g m) (hb : Below w.heap.size w w') (hg : g < w.heap.size) : OwnC w' g m := fun j hj => by
  obtain ⟨⟨u, hu⟩, hf⟩ := h j hj
  exact ⟨⟨u, (hb.cell (p := ⟨g, j, none⟩) hg).trans hu⟩, (hb.frozen (p := ⟨g, j, none⟩) hg).trans hf⟩
theorem ownC_other {w w' : World} {g g' m : Nat} (h : OwnC w g m) (hb : w.grownBy w' (some g')) (hg : g < w.heap.size) (hn : g ≠ g') : OwnC w' g m := fun j hj => by
  obtain ⟨⟨u, hu⟩, hf⟩ := h j hj
  have e := hb.block g hg (fun e => hn (by cases e; rfl))
  exact ⟨⟨u, (World.cell?_of_block (a := ⟨g, j, none⟩) e).trans hu⟩, (World.frozen?_of_block (a := ⟨g, j, none⟩) e).trans hf⟩

set_option maxHeartbeats 2000000 in
theorem markPats (g cap n z : Nat) (w : World) (hn : n ≤ 1048576) (hz : z ≤ 10000000) (ho : OwnC w g (n * 3)) :
    Calls Tryz.prog 65 #[.slice (some ⟨g, 0, none⟩) n cap, .int .i64 (z : Int)] w fun e w' => e = .returned (.int .i64 ((z + n * 3 : Nat) : Int)) ∧ w.grownBy w' (some g) ∧ OwnC w' g (n * 3) := by
  have HO := hideP ho
  clear ho
  go_enter Tryz.func65, Tryz.ntmps65
  go_wp2
  go_loopw [1, 5] (fun t i wr => ∃ k : Nat, k ≤ n ∧ i = .int .i64 (k : Int) ∧ t = .int .i64 ((z + k * 3 : Nat) : Int) ∧ w.grownBy wr (some g) ∧ OwnC wr g (n * 3)) (fun _ i _ => n - (intOf i).toNat)
  case atStart => exact ⟨0, Nat.zero_le _, rfl, rfl, ⟨rfl, rfl, rfl, Nat.le_refl _, fun _ _ _ => rfl⟩, HO.out⟩
  case round =>
    obtain ⟨k, hk, rfl, rfl, hG, hOw⟩ := hrel
    have HG := hideP hG
    have HW := hideP hOw
    clear hG hOw
    by_cases hlt : k < n
    · obtain ⟨⟨u0, h0⟩, f0⟩ := HW.out (k * 3) (by omega)
      obtain ⟨⟨u1, h1⟩, f1⟩ := HW.out (k * 3 + 1) (by omega)
      obtain ⟨⟨u2, h2⟩, f2⟩ := HW.out (k * 3 + 2) (by omega)
      go_wp2
      exact ⟨⟨k + 1, by omega, by go_num, by apply congrArg (Value.int .i64); omega, grown_two HG.out (grown_two (grown_two (grown_set _ _ _ _) (grown_set _ _ _ _)) (grown_set _ _ _ _)), ownC_set (ownC_set (ownC_set HW.out _ _) _ _) _ _⟩, by simp [intOf]; omega⟩
    · have hkn : k = n := by omega
      subst hkn
      go_wp2
      go_ret
      exact ⟨rfl, HG.out, HW.out⟩
set_option maxHeartbeats 2000000 in
theorem markRgnz (g cap n z : Nat) (w : World) (hn : n ≤ 1048576) (hz0 : 0 < z) (hz : z ≤ 20000000) (hg : g < w.heap.size) (ho : OwnC w g (n * 3)) :
    Calls Tryz.prog 66 #[.slice (some ⟨g, 0, none⟩) n cap, .int .i64 (z : Int)] w fun e w' => e = .returned (.int .i64 ((z + n * 3 : Nat) : Int)) ∧ w.grownBy w' (some g) := by
  have HO := hideP ho
  clear ho
  go_enter Tryz.func66, Tryz.ntmps66
  go_wp2
  go_loopw [1, 5] (fun t i wr => ∃ k : Nat, k ≤ n ∧ i = .int .i64 (k : Int) ∧ t = .int .i64 ((z + k * 3 : Nat) : Int) ∧ w.grownBy wr (some g) ∧ OwnC wr g (n * 3)) (fun _ i _ => n - (intOf i).toNat)
  case atStart => exact ⟨0, Nat.zero_le _, rfl, rfl, ⟨rfl, rfl, rfl, Nat.le_refl _, fun _ _ _ => rfl⟩, HO.out⟩
  case round =>
    obtain ⟨k, hk, rfl, rfl, hG, hOw⟩ := hrel
    have HG := hideP hG
    have HW := hideP hOw
    clear hG hOw
    by_cases hlt : k < n
    · go_wp2_with fail
      rw [show ((z : Int) + (k : Int) * 3) = ((z + k * 3 : Nat) : Int) from by omega]
      refine (markText (z + k * 3) _ (by omega) (by omega)).mono ?_
      rintro e w2 ⟨rfl, hb2⟩
      have hgw : g < wr.heap.size := Nat.lt_of_lt_of_le hg HG.out.size
      have hO2 := ownC_below HW.out hb2 hgw
      have HO2 := hideP hO2
      obtain ⟨⟨u0, h0⟩, f0⟩ := hO2 (k * 3) (by omega)
      obtain ⟨⟨u1, h1⟩, f1⟩ := hO2 (k * 3 + 1) (by omega)
      obtain ⟨⟨u2, h2⟩, f2⟩ := hO2 (k * 3 + 2) (by omega)
      have HG2 : Hid (w.grownBy w2 (some g)) := grown_two HG.out ⟨hb2.os, hb2.tape, hb2.output, hb2.size, fun j hj _ => hb2.block j hj⟩
      clear hO2 hb2
      go_wp2
      exact ⟨⟨k + 1, by omega, by go_num, by apply congrArg (Value.int .i64); omega, grown_two HG2.out (grown_two (grown_two (grown_set _ _ _ _) (grown_set _ _ _ _)) (grown_set _ _ _ _)), ownC_set (ownC_set (ownC_set HO2.out _ _) _ _) _ _⟩, by simp [intOf]; omega⟩
    · have hkn : k = n := by omega
      subst hkn
      go_wp2
      go_ret
      exact ⟨rfl, HG.out⟩

theorem ownC_any {w w' : World} {g g' m m' : Nat} (h : OwnC w g m) (hb : w.grownBy w' (some g')) (hg : g < w.heap.size) (ho : OwnC w' g' m') (he : g = g' → m ≤ m') : OwnC w' g m := by
  by_cases e : g = g'
  · have := he e
    subst e
    exact fun j hj => ho j (by omega)
  · exact ownC_other h hb hg e
set_option maxHeartbeats 2000000 in
theorem markRegime0 (nm : ByteArray) (f t ru : Int) (s1 s3 s5 n1 n2 n3 : Nat) (w : World) (hn1 : n1 ≤ 1048576) (hn2 : n2 ≤ 1048576) (hn3 : n3 ≤ 1048576) (b1 : s1 < w.heap.size) (b3 : s3 < w.heap.size) (b5 : s5 < w.heap.size) (o1 : OwnC w s1 (n1 * 5)) (o3 : OwnC w s3 (n2 * 3)) (o5 : OwnC w s5 (n3 * 3)) (e31 : s3 = s1 → n2 * 3 ≤ n1 * 5) (e51 : s5 = s1 → n3 * 3 ≤ n1 * 5) (e53 : s5 = s3 → n3 * 3 ≤ n2 * 3) :
    Calls Tryz.prog 28 #[.agg #[.string nm, .int .i64 f, .int .i64 t, .slice (some ⟨s1, 0, none⟩) n1 n1, .slice (some ⟨s3, 0, none⟩) n2 n2, .slice (some ⟨s5, 0, none⟩) n3 n3, .int .i64 ru], .int .i64 1] w fun e w' => ∃ z : Nat, e = .returned (.int .i64 (z : Int)) ∧ Kp (fun k => k = s1 ∨ k = s3 ∨ k = s5) w w' := by
  obtain ⟨W0, hW0, d0, d1, d2, d3, d4, d5, d6, hBl⟩ := seven_box w (.string nm) (.int .i64 f) (.int .i64 t) (.slice (some ⟨s1, 0, none⟩) n1 n1) (.slice (some ⟨s3, 0, none⟩) n2 n2) (.slice (some ⟨s5, 0, none⟩) n3 n3) (.int .i64 ru) 28
  have hb0 := hBl ⟨W0, Below.refl _ _⟩
  have hz0 : w.heap.size < W0.heap.size := by rw [hW0]; simp
  have hs0 := hb0.size
  have c4 : W0.cell? ⟨w.heap.size, 4, none⟩ = some (.slice (some ⟨s3, 0, none⟩) n2 n2) := d4 ⟨W0, Below.refl _ _⟩
  have c5 : W0.cell? ⟨w.heap.size, 5, none⟩ = some (.slice (some ⟨s5, 0, none⟩) n3 n3) := d5 ⟨W0, Below.refl _ _⟩
  have K1 := hideP (markSegs s1 n1 n1 W0 hn1 (ownC_below o1 hb0 b1))
  have O3 := hideP (ownC_below o3 hb0 b3)
  have O5 := hideP (ownC_below o5 hb0 b5)
  have P0 : Hid (Kp (fun k => k = s1 ∨ k = s3 ∨ k = s5) w W0) := (Kp.refl _ w).later hb0
  have HW0 := hideP hW0
  have HC4 := hideP c4
  have HC5 := hideP c5
  clear hW0 d0 d1 d2 d3 d4 d5 d6 hBl hb0 o1 o3 o5 c4 c5
  go_enter Tryz.func28, Tryz.ntmps28
  go_wp2_with fail
  rw [← HW0.out]
  refine K1.out.mono ?_
  rintro e w1 ⟨rfl, hM⟩
  have G1 := hideP hM.grown
  have P1 := hideP (P0.out.grown G1.out (.inl rfl))
  have c4 : w1.cell? ⟨w.heap.size, 4, none⟩ = some (.slice (some ⟨s3, 0, none⟩) n2 n2) := (World.cell?_of_block (a := ⟨w.heap.size, 4, none⟩) (G1.out.block w.heap.size hz0 (fun e => by cases e; omega))).trans HC4.out
  have HC5' : Hid (w1.cell? ⟨w.heap.size, 5, none⟩ = some (.slice (some ⟨s5, 0, none⟩) n3 n3)) := (World.cell?_of_block (a := ⟨w.heap.size, 5, none⟩) (G1.out.block w.heap.size hz0 (fun e => by cases e; omega))).trans HC5.out
  have K3 := hideP (markPats s3 n2 n2 (n1 * 5 + 1) w1 hn2 (by omega) (ownC_any O3.out G1.out (by omega) hM.own e31))
  have O5' := hideP (ownC_any O5.out G1.out (by omega) hM.own e51)
  have hs1 := G1.out.size
  clear hM
  go_wp2_with fail
  rw [show ((n1 : Int) * 5 + 1) = ((n1 * 5 + 1 : Nat) : Int) from by omega]
  refine K3.out.mono ?_
  rintro e w2 ⟨rfl, g2, g4⟩
  have G2 := hideP g2
  have P2 := hideP (P1.out.grown G2.out (.inr (.inl rfl)))
  have c5 : w2.cell? ⟨w.heap.size, 5, none⟩ = some (.slice (some ⟨s5, 0, none⟩) n3 n3) := (World.cell?_of_block (a := ⟨w.heap.size, 5, none⟩) (G2.out.block w.heap.size (by omega) (fun e => by cases e; omega))).trans HC5'.out
  have hs2 := G2.out.size
  have K5 := hideP (markRgnz s5 n3 n3 (n1 * 5 + 1 + n2 * 3) w2 hn3 (by omega) (by omega) (by omega) (ownC_any O5'.out G2.out (by omega) g4 e53))
  clear g2 g4 c4
  go_wp2_with fail
  first | refine K5.out.mono ?_ | (rw [show ((n1 : Int) * 5 + 1 + (n2 : Int) * 3) = ((n1 * 5 + 1 + n2 * 3 : Nat) : Int) from by omega]; refine K5.out.mono ?_)
  rintro e w3 ⟨rfl, g3⟩
  have P3 := hideP (P2.out.grown g3 (.inr (.inr rfl)))
  clear g3
  go_wp2_with fail
  go_ret
  exact ⟨n1 * 5 + 1 + n2 * 3 + n3 * 3, rfl, P3.out⟩
theorem blk_size {w : World} {g : Nat} {cs cs' : Array Value} {t t' : TypeId} (h : Blk w g cs t) (h' : Blk w g cs' t') : cs.size = cs'.size := by
  have e := Option.some.inj (Eq.trans (Eq.symm h) h')
  injection e with e1
  rw [e1]
theorem markRegime (r : Rgm) (s1 s3 s5 : Nat) (t1 t3 t5 : TypeId) (w : World) (ho : GOk r) (k1 : Blk w s1 (iA segK r.segs) t1) (k3 : Blk w s3 (iA patK r.pats) t3) (k5 : Blk w s5 (rA r.rgns) t5) :
    Calls Tryz.prog 28 #[.agg #[.string r.name, .int .i64 r.fr, .int .i64 r.to, .slice (some ⟨s1, 0, none⟩) r.segs.length r.segs.length, .slice (some ⟨s3, 0, none⟩) r.pats.length r.pats.length, .slice (some ⟨s5, 0, none⟩) r.rgns.length r.rgns.length, .int .i64 r.rule], .int .i64 1] w fun e w' => ∃ z : Nat, e = .returned (.int .i64 (z : Int)) ∧ Kp (fun k => k = s1 ∨ k = s3 ∨ k = s5) w w' := by
  have z1 : (iA segK r.segs).size = r.segs.length * 5 := iA_size _
  have z3 : (iA patK r.pats).size = r.pats.length * 3 := iA_size _
  have z5 := rA_size r.rgns
  refine markRegime0 _ _ _ _ s1 s3 s5 _ _ _ w ho.2.1 ho.2.2.1 ?_ k1.lt k3.lt k5.lt (ownC_of k1 (by omega)) (ownC_of k3 (by omega)) (ownC_of k5 (by omega)) (fun e => ?_) (fun e => ?_) (fun e => ?_)
  · exact ho.2.2.2.1
  · subst e; have := blk_size k1 k3; omega
  · subst e; have := blk_size k1 k5; omega
  · subst e; have := blk_size k3 k5; omega
end Go.Proofs.YtkinapfoigibcaaGreatDoor.ctr

namespace Go.Proofs.YtkinapfoigibcaaGreatDoor.ctr
open Go.RowKit
set_option linter.unusedSimpArgs false

theorem ibase {w : World} {base e size : Nat} {v : Value} {n : Nat} {xs : List Value} (h : w.ownsRow base e size v n xs) : ∀ k, v.ownBlock = some k → base ≤ k := by
  intro k hk
  rcases h.2 with ⟨rfl, _⟩ | ⟨g, cap, cur, rfl, hb, _⟩
  · cases hk
  · have : k = g := by simpa [Value.ownBlock] using hk.symm
    omega
theorem inew (W : World) (o : Obj) : (W.alloc o).heap.size = W.heap.size + 1 := by simp [World.alloc, -World.alloc_eq]
theorem iown_empty (w : World) (e : TypeId) : (w.alloc (.cells #[] e)).ownsRow w.heap.size e 1 (.slice (some ⟨w.heap.size, 0, none⟩) 0 0) 0 [] :=
  ⟨rfl, .inr ⟨w.heap.size, 0, #[], rfl, Nat.le_refl _, by simp [World.alloc, -World.alloc_eq], Nat.le_refl _, Nat.zero_le _, rfl, rfl⟩⟩
theorem iown_later {w w' : World} {base e size : Nat} {v : Value} {n : Nat} {xs : List Value} (h : w.ownsRow base e size v n xs) (hb : Below w.heap.size w w') : w'.ownsRow base e size v n xs :=
  h.kept (row := none) ⟨hb.os, hb.tape, hb.output, hb.size, fun k hk _ => hb.block k hk⟩ (Classical.em _)
/-- The state of a loop that puts ints together: they lie in a row of their own. -/
structure ISt (w : World) (o : Value) (xs : List Int) (W : World) : Prop where
  row : W.ownsRow w.heap.size 3 1 o xs.length (xs.map (Value.int .i64))
  below : Below w.heap.size w W
theorem ISt.later {w : World} {o : Value} {xs : List Int} {W W' : World} (h : ISt w o xs W) (hb : Below W.heap.size W W') : ISt w o xs W' := ⟨iown_later h.row hb, h.below.trans (hb.mono h.below.size)⟩
theorem ISt.app {w : World} {o o' : Value} {xs : List Int} {W W' : World} {ob : Obj} (h : ISt w o xs W) (z : Int) (hr : W'.ownsRow w.heap.size 3 1 o' (xs.length + 1) (xs.map (Value.int .i64) ++ [.int .i64 z])) (hg : (W.alloc ob).grownBy W' o.ownBlock) : ISt w o' (xs ++ [z]) W' := by
  refine ⟨?_, (h.below.alloc h.below.size ob).grown hg (by have := h.below.size; rw [inew]; omega) (ibase h.row)⟩
  rw [List.length_append, List.map_append]
  exact hr
theorem ISt.nil (w : World) : ISt w (.slice none 0 0) [] w := ⟨World.ownsRow_nil _ _ _ _, Below.refl _ _⟩

theorem own_mono1 {w : World} {b b' e size : Nat} {v : Value} {n : Nat} {xs : List Value} (h : w.ownsRow b e size v n xs) (hb : b' ≤ b) : w.ownsRow b' e size v n xs := by
  obtain ⟨h1, h | ⟨g, cap, cur, hv, hg, hr⟩⟩ := h
  · exact ⟨h1, .inl h⟩
  · exact ⟨h1, .inr ⟨g, cap, cur, hv, Nat.le_trans hb hg, hr⟩⟩
theorem ISt.done {w w0 W : World} {o : Value} {xs : List Int} (h : ISt w o xs W) (hb : Below w0.heap.size w0 w) : MovRow w0 W o xs ∧ Below w0.heap.size w0 W :=
  ⟨own_ints (e := 3) (own_mono1 h.row hb.size), hb.trans (h.below.mono hb.size)⟩


def chTo (l : List Seg) (k : Nat) : List Int := ((l.drop 1).take k).map Seg.fr
theorem chTo_len (l : List Seg) (k : Nat) : (chTo l k).length ≤ k := by
  unfold chTo
  rw [List.length_map, List.length_take]
  omega
theorem chTo_next {l : List Seg} {k : Nat} (h : k + 1 < l.length) : chTo l (k + 1) = chTo l k ++ [(atK segK l (k + 1)).fr] := by
  unfold chTo
  rw [List.take_add_one, List.map_append, List.getElem?_drop, Nat.add_comm 1 k, List.getElem?_eq_getElem h, atK_eq h]
  rfl
noncomputable def changes (r : Rgm) : List Int := if regimeB r = true then chTo r.segs (r.segs.length - 1) else []
theorem changes_yes {r : Rgm} (h : regimeB r = true) : changes r = chTo r.segs (r.segs.length - 1) := by unfold changes; rw [if_pos h]
theorem changes_no {r : Rgm} (h : regimeB r = false) : changes r = [] := by unfold changes; rw [if_neg (by rw [h]; simp)]
theorem okg_len {r : Rgm} (h : regimeB r = true) : 1 ≤ r.segs.length ∧ r.segs.length ≤ 20 := by
  unfold regimeB segsB at h
  simp only [Bool.and_eq_true] at h
  have hb := h.2.2.2.1.1
  by_cases h1 : 1 ≤ r.segs.length
  · by_cases h2 : r.segs.length ≤ 20
    · exact ⟨h1, h2⟩
    · rw [inB_false (.inr (by omega))] at hb; cases hb
  · rw [inB_false (.inl (by omega))] at hb; cases hb
theorem changes_len (r : Rgm) : (changes r).length ≤ 20 := by
  cases h : regimeB r
  · rw [changes_no h]; simp
  · rw [changes_yes h]
    have := chTo_len r.segs (r.segs.length - 1)
    have := okg_len h
    omega

set_option maxRecDepth 100000 in
set_option maxHeartbeats 2000000 in
theorem implChanges (v : Value) (r : Rgm) (a : Addr) (w : World) (h : GRow w v r) (ht : r.to ≤ 9223372036854775807) (hE : ErrT w) (hT : Tab w) (hS : Sent w a) : Calls Tryz.prog 13 #[v] w fun e w' => ∃ o, e = .returned o ∧ MovRow w w' o (changes r) ∧ Below w.heap.size w w' := by
  obtain ⟨i0, hi, hz0, hz1, hz2⟩ := info_parts info_int
  have KR : Hid (∀ W, Below w.heap.size w W → Calls Tryz.prog 14 #[v] W fun e w' => e = .returned (.bool (regimeB r)) ∧ Below W.heap.size W w') := fun W hb => implRegimeOk v r a W (h.below hb) ht (hE.below hb) (hT.later hb) (hS.later hb)
  have C1 : Hid (regimeB r = true → changes r = chTo r.segs (r.segs.length - 1)) := changes_yes
  have C0 : Hid (regimeB r = false → changes r = []) := changes_no
  have CL : Hid (regimeB r = true → 1 ≤ r.segs.length ∧ r.segs.length ≤ 20) := okg_len
  generalize changes r = ch at *
  generalize regimeB r = ok at *
  obtain ⟨nm, f, t, l, ps, rs, ru⟩ := r
  dsimp only at *
  obtain ⟨v1, v2, v3, rfl, _, x1, x2, x3⟩ := h
  dsimp only at *
  obtain ⟨W0, hW0, d0, d1, d2, d3, d4, d5, d6, hBl⟩ := seven_box w (.string nm) (.int .i64 f) (.int .i64 t) v1 v2 v3 (.int .i64 ru) 28
  have hrow := x1.below (hBl ⟨W0, Below.refl _ _⟩)
  obtain ⟨a1, c1, rfl, _⟩ := x1
  obtain ⟨a2, c2, rfl, _⟩ := x2
  obtain ⟨a3, c3, rfl, _⟩ := x3
  obtain ⟨a, c, ev, hl, hm, HK0⟩ := hrow
  cases ev
  have HK := hideP HK0
  have HW0 := hideP hW0
  have HBl := hideP hBl
  unfold maxLen at hm
  clear HK0 hW0 hBl ht hE hT hS
  go_enter Tryz.func13, Tryz.ntmps13
  go_wp2_with fail
  rw [← HW0.out]
  refine (KR.out _ (HBl.out ⟨W0, Below.refl _ _⟩)).mono ?_
  rintro e w1 ⟨rfl, hb⟩
  obtain ⟨y1, rfl⟩ := Later.of hb
  clear hb KR
  cases ok
  · have HR := hideP (C0.out rfl)
    go_wp2
    go_ret
    exact ⟨_, rfl, by rw [HR.out]; exact movRow_nil _ _, HBl.out y1⟩
  have HR := hideP (C1.out rfl)
  obtain ⟨hl1, hl2⟩ := CL.out rfl
  obtain ⟨g, rfl, hg, _⟩ := HK.out 0 (by omega)
  have HS : Hid (ISt y1.w (.slice none 0 0) [] y1.w) := ISt.nil _
  clear C0 C1 CL
  by_cases hc : c1 = 1
  · subst hc
    have hl3 : l.length = 1 := by omega
    have HR0 : Hid (ch = []) := by unfold Hid; rw [HR.out, hl3]; rfl
    clear HR
    go_wp2_with fail
    go_loopw [3, 13] (fun o i wr => o = .slice none 0 0 ∧ i = .int .i64 0 ∧ wr = y1.w) (fun _ _ _ => 0)
    case atStart => exact ⟨rfl, rfl, rfl⟩
    case round =>
      obtain ⟨rfl, rfl, rfl⟩ := hrel
      go_wp2
      go_ret
      exact ⟨_, rfl, by rw [HR0.out]; exact movRow_nil _ _, HBl.out y1⟩
  have hcb : (c1 == 1) = false := by simp [hc]
  have KC : Hid (∀ k, k + 1 < l.length → ∀ z : Later W0, z.w.cell? ⟨g, 5 + k * 5, none⟩ = some (.int .i64 (atK segK l (k + 1)).fr) ∧ z.w.cell? ⟨g, 5 + k * 5 + 1, none⟩ = some (.int .i64 (atK segK l (k + 1)).to) ∧ z.w.cell? ⟨g, 5 + k * 5 + 2, none⟩ = some (.int .i64 (atK segK l (k + 1)).cal) ∧ z.w.cell? ⟨g, 5 + k * 5 + 3, none⟩ = some (.int .i64 (atK segK l (k + 1)).sty) ∧ z.w.cell? ⟨g, 5 + k * 5 + 4, none⟩ = some (.int .i64 (atK segK l (k + 1)).off)) := fun k hk z => by
    obtain ⟨g', e', hg', x'⟩ := HK.out (k + 1) hk
    cases e'
    have h := (x'.below z.below hg').seg
    rw [show (k + 1) * 5 = 5 + k * 5 by omega] at h
    exact h
  go_wp2_with fail
  go_loopw [3, 13] (fun o i wr => ∃ k : Nat, k ≤ l.length - 1 ∧ i = .int .i64 (k : Int) ∧ ISt y1.w o (chTo l k) wr) (fun _ i _ => l.length - 1 - (intOf i).toNat)
  case atStart => exact ⟨0, Nat.zero_le _, rfl, HS.out⟩
  case round =>
    obtain ⟨k, hk, rfl, hS⟩ := hrel
    have S := hideP hS
    clear hS
    by_cases hlt : k < l.length - 1
    · have hln := chTo_len l k
      obtain ⟨e0, e1, e2, e3, e4⟩ := KC.out k (by omega) ⟨wr, y1.on S.out.below⟩
      have HN := hideP (chTo_next (l := l) (k := k) (by omega))
      dsimp only at e0 e1 e2 e3 e4
      generalize chTo l k = xs at *
      generalize atK segK l (k + 1) = s at *
      have S2 := hideP (S.out.later (W' := wr.alloc (.cells #[.int .i64 s.fr, .int .i64 s.to, .int .i64 s.cal, .int .i64 s.sty, .int .i64 s.off] 42)) ((Below.refl _ _).alloc (Nat.le_refl _) _))
      have hsz := S.out.below.size
      have HCN : Hid (∀ j u, [Value.int .i64 s.fr][j]? = some u → ((wr.alloc (.cells #[.int .i64 s.fr, .int .i64 s.to, .int .i64 s.cal, .int .i64 s.sty, .int .i64 s.off] 42)).alloc (.cells #[.int .i64 s.fr] 3)).cell? ((⟨wr.heap.size + 1, 0, none⟩ : Addr).add j) = some u) := by
        unfold Hid
        have h := cell_one_new (wr.alloc (.cells #[.int .i64 s.fr, .int .i64 s.to, .int .i64 s.cal, .int .i64 s.sty, .int .i64 s.off] 42)) (.int .i64 s.fr) 3
        rw [inew] at h
        exact h
      go_wp2_with (at_builtin; refine wpList_append_own _ rfl _ _ 35 rfl y1.w.heap.size 3 i0 (.int .i64 0) 1 8 Tryz.underlying35 hi hz0 hz1 hz2 rfl (by decide) _ _ _ rfl (S2.out.row.alloc _) ⟨wr.heap.size + 1, 0, none⟩ 1 1 [.int .i64 s.fr] rfl rfl HCN.out (by simp [Value.oneCell']) (by unfold maxLen; omega) (by omega) (by rw [inew, inew]; omega) ?_; intro v' w9 hown' hgrow _)
      refine ⟨⟨k + 1, by omega, by go_num, ?_⟩, by simp [intOf]; omega⟩
      rw [HN.out]
      exact S2.out.app _ hown' hgrow
    · have hkn : k = l.length - 1 := by omega
      subst hkn
      go_wp2
      go_ret
      exact ⟨_, rfl, by rw [HR.out]; exact S.out.done (HBl.out y1)⟩

set_option maxRecDepth 100000 in
set_option maxHeartbeats 2000000 in
theorem specChanges (v : Value) (r : Rgm) (w : World) (h : GRow w v r) (hf : -9223372036854775808 ≤ r.fr) (ht : r.to ≤ 9223372036854775807) : Calls Tryz.prog 22 #[v] w fun e w' => ∃ o, e = .returned o ∧ MovRow w w' o (changes r) ∧ Below w.heap.size w w' := by
  obtain ⟨i0, hi, hz0, hz1, hz2⟩ := info_parts info_int
  have KR : Hid (∀ W, Below w.heap.size w W → Calls Tryz.prog 15 #[v] W fun e w' => e = .returned (.bool (regimeB r)) ∧ Below W.heap.size W w') := fun W hb => specRegimeOk v r W (h.below hb) hf ht
  have C1 : Hid (regimeB r = true → changes r = chTo r.segs (r.segs.length - 1)) := changes_yes
  have C0 : Hid (regimeB r = false → changes r = []) := changes_no
  have CL : Hid (regimeB r = true → 1 ≤ r.segs.length ∧ r.segs.length ≤ 20) := okg_len
  generalize changes r = ch at *
  generalize regimeB r = ok at *
  obtain ⟨nm, f, t, l, ps, rs, ru⟩ := r
  dsimp only at *
  obtain ⟨v1, v2, v3, rfl, _, x1, x2, x3⟩ := h
  dsimp only at *
  obtain ⟨W0, hW0, d0, d1, d2, d3, d4, d5, d6, hBl⟩ := seven_box w (.string nm) (.int .i64 f) (.int .i64 t) v1 v2 v3 (.int .i64 ru) 28
  have hrow := x1.below (hBl ⟨W0, Below.refl _ _⟩)
  obtain ⟨a1, c1, rfl, _⟩ := x1
  obtain ⟨a2, c2, rfl, _⟩ := x2
  obtain ⟨a3, c3, rfl, _⟩ := x3
  obtain ⟨a, c, ev, hl, hm, HK0⟩ := hrow
  cases ev
  have HK := hideP HK0
  have HW0 := hideP hW0
  have HBl := hideP hBl
  unfold maxLen at hm
  clear HK0 hW0 hBl hf ht
  go_enter Tryz.func22, Tryz.ntmps22
  obtain ⟨W1, hW1⟩ : ∃ W1, W1 = W0.alloc (.cells #[] 3) := ⟨_, rfl⟩
  have hst : ISt W0 (.slice (some ⟨W0.heap.size, 0, none⟩) 0 0) [] W1 := by
    rw [hW1]
    exact ⟨iown_empty W0 _, (Below.refl _ _).alloc (Nat.le_refl _) _⟩
  have HS := hideP hst
  have HW1 := hideP hW1
  have hs0 : W0.heap.size = w.heap.size + 1 := by rw [HW0.out, inew]
  clear hW1 hst
  rw [hs0] at HS
  go_wp2_with fail
  rw [← HW0.out, ← HW1.out]
  clear hs0
  go_loopw [3, 4] (fun o i wr => ∃ k : Nat, k ≤ l.length ∧ i = .int .i64 ((k : Int) + 1) ∧ Hid (k = 0 ∨ (ok = true ∧ k + 1 ≤ l.length)) ∧ ISt W0 o (chTo l k) wr) (fun _ i _ => l.length + 1 - (intOf i).toNat)
  case atStart => exact ⟨0, Nat.zero_le _, rfl, .inl rfl, HS.out⟩
  case round =>
    obtain ⟨k, hk, rfl, HJ, hS⟩ := hrel
    have S := hideP hS
    clear hS
    have D0 := d0 ⟨wr, S.out.below⟩
    have D1 := d1 ⟨wr, S.out.below⟩
    have D2 := d2 ⟨wr, S.out.below⟩
    have D3 := d3 ⟨wr, S.out.below⟩
    have D4 := d4 ⟨wr, S.out.below⟩
    have D5 := d5 ⟨wr, S.out.below⟩
    have D6 := d6 ⟨wr, S.out.below⟩
    dsimp only at D0 D1 D2 D3 D4 D5 D6
    by_cases hlt : (k : Int) + 1 < (l.length : Int)
    · have KD := hideP (KR.out wr (HBl.out ⟨wr, S.out.below⟩))
      go_wp2_with fail
      refine KD.out.mono ?_
      rintro e w2 ⟨rfl, hb⟩
      have S2 := hideP (S.out.later hb)
      clear hb KD D0 D1 D2 D3 D4 D5 D6
      cases ok
      · have HR := hideP (C0.out rfl)
        have hk0 : k = 0 := by rcases HJ.out with h | ⟨h, _⟩; exact h; cases h
        subst hk0
        go_wp2
        go_ret
        exact ⟨_, rfl, by rw [HR.out]; exact S2.out.done (HBl.out ⟨W0, Below.refl _ _⟩)⟩
      have D3 := d3 ⟨w2, S2.out.below⟩
      obtain ⟨g, rfl, hg, x⟩ := HK.out (k + 1) (by omega)
      have e0 := ((x.below S2.out.below hg).seg).1
      have hln := chTo_len l k
      have HN := hideP (chTo_next (l := l) (k := k) (by omega))
      dsimp only at D3
      obtain ⟨hl1, hl2⟩ := CL.out rfl
      clear x C0 C1 CL KR HJ
      generalize chTo l k = xs at *
      generalize (atK segK l (k + 1)).fr = z at *
      have hsz := S2.out.below.size
      go_wp2_with (at_builtin; refine wpList_append_own _ rfl _ _ 35 rfl W0.heap.size 3 i0 (.int .i64 0) 1 8 Tryz.underlying35 hi hz0 hz1 hz2 rfl (by decide) _ _ _ rfl (S2.out.row.alloc _) ⟨w2.heap.size, 0, none⟩ 1 1 [.int .i64 z] rfl rfl (cell_one_new _ _ _) (by simp [Value.oneCell']) (by unfold maxLen; omega) (by omega) (by rw [inew]; omega) ?_; intro v' w9 hown' hgrow _)
      refine ⟨⟨k + 1, by omega, by go_num, .inr ⟨trivial, by omega⟩, ?_⟩, by simp [intOf]; omega⟩
      rw [HN.out]
      exact S2.out.app _ hown' hgrow
    · have HR : Hid (ch = chTo l k) := by
        unfold Hid
        cases ok
        · have hk0 : k = 0 := by rcases HJ.out with h | ⟨h, _⟩; exact h; cases h
          subst hk0
          exact C0.out rfl
        · have := CL.out rfl
          have e : k = l.length - 1 := by rcases HJ.out with h | ⟨_, h⟩ <;> omega
          rw [e]
          exact C1.out rfl
      clear C0 C1 CL KR HJ
      go_wp2
      go_ret
      exact ⟨_, rfl, by rw [HR.out]; exact S.out.done (HBl.out ⟨W0, Below.refl _ _⟩)⟩
end Go.Proofs.YtkinapfoigibcaaGreatDoor.ctr
