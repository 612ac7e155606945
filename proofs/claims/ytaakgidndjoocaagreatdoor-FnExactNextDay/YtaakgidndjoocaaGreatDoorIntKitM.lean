/- Lists of ints in rows of their own ('MovRow': in a block that was not there in w; 'IntRow': anywhere), and the contracts of the laws' own helpers over lists of ints (eqIntS, sameInts, markIntS, heldIntS): two lists alike are told alike; marks are written into a list's own row, and found there again; nothing else turns. -/
import Derived.Test.YtaakgidndjoocaaGreatDoorBlkKitM
import Derived.Laws.AppendOwn
namespace Go.Proofs.YtaakgidndjoocaaGreatDoor.ctr
open Go.RowKit

def ints (l : List Int) : Array Value := (l.map (Value.int .i64)).toArray
theorem ints_at (l : List Int) (j : Nat) (h : j < l.length) : (ints l)[j]? = some (.int .i64 (l.getD j 0)) := by
  simp [ints, List.getD, h]
theorem ints_set (l : List Int) (k : Nat) (z : Int) : (ints l).setIfInBounds k (.int .i64 z) = ints (l.set k z) := by
  simp [ints, List.map_set]
theorem ints_size (l : List Int) : (ints l).size = l.length := by simp [ints]
theorem ints_app (l : List Int) (rs : Array Value) (j : Nat) (h : j < l.length) : (ints l ++ rs)[j]? = some (.int .i64 (l.getD j 0)) := by
  rw [Array.getElem?_append_left (by rw [ints_size]; exact h), ints_at l j h]
theorem ints_setA (l : List Int) (rs : Array Value) (k : Nat) (z : Int) (h : k < l.length) : (ints l ++ rs).setIfInBounds k (.int .i64 z) = ints (l.set k z) ++ rs := by
  rw [Array.setIfInBounds_append_left (by rw [ints_size]; exact h), ints_set]
/-- A slice value that holds just these numbers, in a row of its own that was not there in w. -/
def MovRow (w w' : World) (v : Value) (xs : List Int) : Prop := ∃ ad cap, v = .slice ad xs.length cap ∧ (xs = [] ∨ ∃ g t rs, ad = some ⟨g, 0, none⟩ ∧ w.heap.size ≤ g ∧ Blk w' g (ints xs ++ rs) t)
theorem movRow_nil {w w' : World} (ad : Option Addr) (cap : Nat) : MovRow w w' (.slice ad 0 cap) [] := ⟨ad, cap, rfl, .inl rfl⟩
theorem movRow_at {w w' : World} {xs : List Int} {g cap : Nat} {t : TypeId} (hg : w.heap.size ≤ g) (h : Blk w' g (ints xs) t) : MovRow w w' (.slice (some ⟨g, 0, none⟩) xs.length cap) xs := ⟨_, cap, rfl, .inr ⟨g, t, #[], rfl, hg, by simpa using h⟩⟩
theorem MovRow.below {w w' w'' : World} {v : Value} {xs : List Int} (h : MovRow w w' v xs) (hb : Below w'.heap.size w' w'') : MovRow w w'' v xs := by
  obtain ⟨ad, cap, rfl, h | ⟨g, t, zs, rfl, hg, hB⟩⟩ := h
  · exact ⟨ad, cap, rfl, .inl h⟩
  · exact ⟨_, cap, rfl, .inr ⟨g, t, zs, rfl, hg, hB.below hb hB.lt⟩⟩

/-- A slice value that holds just these numbers. -/
def IntRow (w : World) (v : Value) (xs : List Int) : Prop := ∃ ad cap, v = .slice ad xs.length cap ∧ ∀ j, j < xs.length → ∃ g, ad = some ⟨g, 0, none⟩ ∧ g < w.heap.size ∧ w.cell? ⟨g, j, none⟩ = some (.int .i64 (xs.getD j 0))
theorem MovRow.row {w w' : World} {v : Value} {xs : List Int} (h : MovRow w w' v xs) : IntRow w' v xs := by
  obtain ⟨ad, cap, rfl, h | ⟨g, t, zs, rfl, _, hb⟩⟩ := h
  · subst h
    exact ⟨ad, cap, rfl, fun j hj => by simp at hj⟩
  · exact ⟨_, cap, rfl, fun j hj => ⟨g, rfl, hb.lt, hb.cell j (ints_app xs zs j hj)⟩⟩
theorem IntRow.below {w w' : World} {v : Value} {xs : List Int} (h : IntRow w v xs) (hb : Below w.heap.size w w') : IntRow w' v xs := by
  obtain ⟨ad, cap, rfl, h⟩ := h
  exact ⟨ad, cap, rfl, fun j hj => by
    obtain ⟨g, e, hg, hc⟩ := h j hj
    exact ⟨g, e, Nat.lt_of_lt_of_le hg hb.size, (hb.cell (p := ⟨g, j, none⟩) hg).trans hc⟩⟩

set_option maxHeartbeats 1000000 in
theorem eqInts (v1 v2 : Value) (xs : List Int) (w : World) (hx : xs.length ≤ 2000000) (h1 : IntRow w v1 xs) (h2 : IntRow w v2 xs) :
    Calls Tryz.prog 20 #[v1, v2] w fun e w' => e = .returned (.bool true) ∧ Below w.heap.size w w' := by
  obtain ⟨a1, c1, rfl, H1⟩ := h1
  obtain ⟨a2, c2, rfl, H2⟩ := h2
  have K1 : Hid _ := H1
  have K2 : Hid _ := H2
  clear H1 H2
  go_enter Tryz.func20, Tryz.ntmps20
  go_wp2
  go_loopw [5] (fun i wr => ∃ k : Nat, k ≤ xs.length ∧ i = .int .i64 (k : Int) ∧ ∃ m, wr = w.drewN m) (fun i _ => xs.length - (intOf i).toNat)
  case atStart => exact ⟨0, Nat.zero_le _, rfl, 0, rfl⟩
  case round =>
    obtain ⟨k, hk, rfl, m, rfl⟩ := hrel
    by_cases hlt : k < xs.length
    · obtain ⟨g1, rfl, _, e1⟩ := K1.out k hlt
      obtain ⟨g2, rfl, _, e2⟩ := K2.out k hlt
      generalize xs.getD k 0 = x at e1 e2
      go_wp2
      go_quiet (fail)
      go_wp2
      exact ⟨⟨k + 1, by omega, by go_num, _, rfl⟩, by simp [intOf]; omega⟩
    · go_wp2
      go_ret
      exact ⟨rfl, Below_drewN (Below.refl _ _) m⟩

/-- The marks k0, k0 + 1 .. -/
def marks (k0 n : Nat) : List Int := (List.range n).map fun j => ((k0 + j : Nat) : Int)
theorem marks_len (k0 n : Nat) : (marks k0 n).length = n := by simp [marks]
theorem marks_at (k0 n j : Nat) (h : j < n) : (marks k0 n).getD j 0 = ((k0 + j : Nat) : Int) := by simp [marks, List.getD, h]
/-- The first k marks, then the numbers of old. -/
def marked (xs : List Int) (k0 k : Nat) : List Int := marks k0 k ++ xs.drop k
theorem marked_len (xs : List Int) (k0 k : Nat) (h : k ≤ xs.length) : (marked xs k0 k).length = xs.length := by simp [marked, marks_len]; omega
theorem marked_all (xs : List Int) (k0 : Nat) : marked xs k0 xs.length = marks k0 xs.length := by simp [marked]
theorem marked_set (xs : List Int) (k0 k : Nat) (h : k < xs.length) : (marked xs k0 k).set k ((k0 + k : Nat) : Int) = marked xs k0 (k + 1) := by
  unfold marked marks
  rw [List.set_append_right _ _ (by simp), List.length_map, List.length_range, Nat.sub_self, List.range_succ, List.map_append, List.drop_eq_getElem_cons h, List.set_cons_zero, List.append_assoc]
  rfl

set_option maxHeartbeats 1000000 in
theorem markInts (g cap k0 : Nat) (xs : List Int) (zs : Array Value) (t : TypeId) (w W : World) (hn : xs.length ≤ 2000000) (hk1 : k0 ≤ 2000000) (hg : W.heap.size ≤ g) (hW : Below W.heap.size W w) (ho : Blk w g (ints xs ++ zs) t) :
    Calls Tryz.prog 22 #[.slice (some ⟨g, 0, none⟩) xs.length cap, .int .i64 (k0 : Int)] w fun e w' => e = .returned (.int .i64 ((k0 + xs.length : Nat) : Int)) ∧ w.grownBy w' (some g) ∧ Below W.heap.size W w' ∧ Blk w' g (ints (marks k0 xs.length) ++ zs) t := by
  have HO := hideP ho
  have HW := hideP hW
  clear ho hW
  go_enter Tryz.func22, Tryz.ntmps22
  go_wp2
  go_loopw [1, 5] (fun u i wr => ∃ k : Nat, k ≤ xs.length ∧ i = .int .i64 (k : Int) ∧ u = .int .i64 ((k0 + k : Nat) : Int) ∧ w.grownBy wr (some g) ∧ Below W.heap.size W wr ∧ Blk wr g (ints (marked xs k0 k) ++ zs) t) (fun _ i _ => xs.length - (intOf i).toNat)
  case atStart => exact ⟨0, Nat.zero_le _, rfl, rfl, ⟨rfl, rfl, rfl, Nat.le_refl _, fun _ _ _ => rfl⟩, HW.out, by simpa [marked, marks] using HO.out⟩
  case round =>
    obtain ⟨k, hk, rfl, rfl, hG, hB, hM⟩ := hrel
    have HG := hideP hG
    have HB := hideP hB
    have HM := hideP hM
    clear hG hM hB
    by_cases hlt : k < xs.length
    · have c0 := HM.out.cell k (ints_app (marked xs k0 k) zs k (by rw [marked_len _ _ _ hk]; exact hlt))
      have hlm : k < (marked xs k0 k).length := by rw [marked_len _ _ _ hk]; exact hlt
      have f0 := HM.out.thaw k
      have HS := hideP (marked_set xs k0 k hlt)
      have HL := hideP hlm
      clear hlm
      generalize (marked xs k0 k).getD k 0 = z at *
      go_wp2
      refine ⟨⟨k + 1, by omega, by go_num, by go_num, ?_, below_store HB.out _ hg, ?_⟩, by simp [intOf]; omega⟩
      · exact ⟨HG.out.os, HG.out.tape, HG.out.output, by simpa [World.setCell] using HG.out.size, fun j hj hr => (Below.heap_setCell wr _ _ j (fun e => hr (by rw [e]))).trans (HG.out.block j hj hr)⟩
      · have h := HM.out.set k (.int .i64 ((k0 + k : Nat) : Int))
        rw [ints_setA _ _ _ _ HL.out, HS.out] at h
        first | exact h | simpa using h
    · have hkn : k = xs.length := by omega
      subst hkn
      go_wp2
      go_ret
      exact ⟨rfl, HG.out, HB.out, by rw [← marked_all]; exact HM.out⟩
set_option maxHeartbeats 1000000 in
theorem markNone (a : Option Addr) (cap : Nat) (k0 : Nat) (w : World) : Calls Tryz.prog 22 #[.slice a 0 cap, .int .i64 (k0 : Int)] w fun e w' => e = .returned (.int .i64 (k0 : Int)) ∧ w' = w := by
  go_enter Tryz.func22, Tryz.ntmps22
  go_wp2
  go_loopw [1, 5] (fun u i wr => i = .int .i64 0 ∧ u = .int .i64 (k0 : Int) ∧ wr = w) (fun _ _ _ => 0)
  case atStart => exact ⟨rfl, rfl, rfl⟩
  case round =>
    obtain ⟨rfl, rfl, rfl⟩ := hrel
    go_wp2
    go_ret
    exact ⟨rfl, rfl⟩

set_option maxHeartbeats 1000000 in
theorem heldInts (v : Value) (k0 n : Nat) (w : World) (hn : n ≤ 2000000) (hk1 : k0 ≤ 2000000) (h1 : IntRow w v (marks k0 n)) :
    Calls Tryz.prog 23 #[v, .int .i64 (k0 : Int)] w fun e w' => e = .returned (.int .i64 ((k0 + n : Nat) : Int)) ∧ Below w.heap.size w w' := by
  obtain ⟨a1, c1, rfl, H1⟩ := h1
  rw [marks_len] at *
  have K1 : Hid _ := H1
  clear H1
  go_enter Tryz.func23, Tryz.ntmps23
  go_wp2
  go_loopw [1, 5] (fun u i wr => ∃ k : Nat, k ≤ n ∧ i = .int .i64 (k : Int) ∧ u = .int .i64 ((k0 + k : Nat) : Int) ∧ ∃ m, wr = w.drewN m) (fun _ i _ => n - (intOf i).toNat)
  case atStart => exact ⟨0, Nat.zero_le _, rfl, rfl, 0, rfl⟩
  case round =>
    obtain ⟨k, hk, rfl, rfl, m, rfl⟩ := hrel
    by_cases hlt : k < n
    · obtain ⟨g1, rfl, _, e1⟩ := K1.out k hlt
      rw [marks_at k0 n k hlt] at e1
      go_wp2
      exact ⟨⟨k + 1, by omega, by go_num, by go_num, _, rfl⟩, by simp [intOf]; omega⟩
    · have hkn : k = n := by omega
      subst hkn
      go_wp2
      go_ret
      exact ⟨rfl, Below_drewN (Below.refl _ _) m⟩
theorem markRow (W w : World) (v : Value) (xs : List Int) (hn : xs.length ≤ 2000000) (h : MovRow W w v xs) (hW : Below W.heap.size W w) :
    Calls Tryz.prog 22 #[v, .int .i64 1] w fun e w' => e = .returned (.int .i64 ((1 + xs.length : Nat) : Int)) ∧ Below W.heap.size W w' ∧ IntRow w' v (marks 1 xs.length) := by
  obtain ⟨ad, cap, rfl, h | ⟨g, t, zs, rfl, hg, hB⟩⟩ := h
  · subst h
    exact (markNone ad cap 1 w).mono fun e w' ⟨he, hw⟩ => ⟨he, by rw [hw]; exact hW, ⟨ad, cap, rfl, fun j hj => by simp [marks] at hj⟩⟩
  · refine (markInts g cap 1 xs zs t w W (by omega) (by omega) hg hW hB).mono ?_
    rintro e w' ⟨he, _, hb, hk⟩
    exact ⟨he, hb, ⟨_, cap, by rw [marks_len], fun j hj => ⟨g, rfl, hk.lt, hk.cell j (ints_app _ zs j hj)⟩⟩⟩
/-- A row of its own, made by append. -/
theorem own_ints {w W : World} {v : Value} {xs : List Int} {e : TypeId} (h : W.ownsRow w.heap.size e 1 v xs.length (xs.map (Value.int .i64))) : MovRow w W v xs := by
  rcases h.2 with ⟨hv, h0⟩ | ⟨g, cap, cur, hv, hb, hh, hcap, _, hsz, htake⟩
  · subst hv
    exact ⟨none, 0, by rw [h0], .inl (List.length_eq_zero_iff.1 h0)⟩
  · subst hv
    refine ⟨_, cap, rfl, .inr ⟨g, e, (cur.toList.drop xs.length).toArray, rfl, hb, ?_⟩⟩
    have e1 : cur = ints xs ++ (cur.toList.drop xs.length).toArray := by
      apply Array.toList_inj.1
      rw [Array.toList_append]
      show cur.toList = (xs.map (Value.int .i64)) ++ cur.toList.drop xs.length
      rw [← htake]
      simp
    unfold Blk
    rw [← e1]
    exact hh
theorem info_int : (Tryz.prog.info? 3).map (fun i => (i.zero, i.size, i.bytes)) = some (some (.int .i64 0), 1, 8) := by kernel_rfl
end Go.Proofs.YtaakgidndjoocaaGreatDoor.ctr
