/- Lists of pairs of ints in rows of their own ('PMov': in a block that was not there in w; 'PRow': anywhere), and the contracts of the laws' own helpers over them (eqIntA2, eqIntA2S, markIntA2S, heldIntA2S): two lists alike are told alike; marks are written into a list's own row, and found there again; nothing else turns. -/
import Derived.Test.YtcdcniniafejbaaDoorIntKit
import Derived.Deep.RegionWith
namespace Go.Proofs.YtcdcniniafejbaaDoor.ctr
open Go.RowKit

def flat : List (Int × Int) → List Int
  | [] => []
  | p :: l => p.1 :: p.2 :: flat l
theorem flat_len : ∀ l : List (Int × Int), (flat l).length = l.length * 2
  | [] => rfl
  | p :: l => by simp [flat, flat_len l]; omega
theorem flat_app : ∀ l m : List (Int × Int), flat (l ++ m) = flat l ++ flat m
  | [], m => rfl
  | p :: l, m => by simp [flat, flat_app l m]
theorem flat_at0 : ∀ (l : List (Int × Int)) (k : Nat), k < l.length → (flat l).getD (k * 2) 0 = (l.getD k (0, 0)).1
  | [], k, h => by simp at h
  | p :: l, 0, _ => rfl
  | p :: l, k + 1, h => by
    have := flat_at0 l k (by simpa using h)
    rw [show (k + 1) * 2 = k * 2 + 2 by omega]
    simpa [flat] using this
theorem flat_at1 : ∀ (l : List (Int × Int)) (k : Nat), k < l.length → (flat l).getD (k * 2 + 1) 0 = (l.getD k (0, 0)).2
  | [], k, h => by simp at h
  | p :: l, 0, _ => rfl
  | p :: l, k + 1, h => by
    have := flat_at1 l k (by simpa using h)
    rw [show (k + 1) * 2 + 1 = k * 2 + 1 + 2 by omega]
    simpa [flat] using this
def PMov (w w' : World) (v : Value) (xs : List (Int × Int)) : Prop := ∃ ad cap, v = .slice ad xs.length cap ∧ (xs = [] ∨ ∃ g t rs, ad = some ⟨g, 0, none⟩ ∧ w.heap.size ≤ g ∧ Blk w' g (ints (flat xs) ++ rs) t)
theorem pmov_nil {w w' : World} (ad : Option Addr) (cap : Nat) : PMov w w' (.slice ad 0 cap) [] := ⟨ad, cap, rfl, .inl rfl⟩
theorem PMov.below {w w' w'' : World} {v : Value} {xs : List (Int × Int)} (h : PMov w w' v xs) (hb : Below w'.heap.size w' w'') : PMov w w'' v xs := by
  obtain ⟨ad, cap, rfl, h | ⟨g, t, zs, rfl, hg, hB⟩⟩ := h
  · exact ⟨ad, cap, rfl, .inl h⟩
  · exact ⟨_, cap, rfl, .inr ⟨g, t, zs, rfl, hg, hB.below hb hB.lt⟩⟩
/-- Another block than one that was there already is turned. -/
theorem PMov.grown {w w' w'' : World} {v : Value} {xs : List (Int × Int)} {r : Nat} (h : PMov w w' v xs) (hb : w'.grownBy w'' (some r)) (hr : r < w.heap.size) : PMov w w'' v xs := by
  obtain ⟨ad, cap, rfl, h | ⟨g, t, zs, rfl, hg, hB⟩⟩ := h
  · exact ⟨ad, cap, rfl, .inl h⟩
  · exact ⟨_, cap, rfl, .inr ⟨g, t, zs, rfl, hg, (hb.block g hB.lt (by simp; omega)).trans hB⟩⟩
def PRow (w : World) (v : Value) (xs : List (Int × Int)) : Prop := ∃ ad cap, v = .slice ad xs.length cap ∧ ∀ j, j < xs.length * 2 → ∃ g, ad = some ⟨g, 0, none⟩ ∧ g < w.heap.size ∧ w.cell? ⟨g, j, none⟩ = some (.int .i64 ((flat xs).getD j 0))
theorem PMov.row {w w' : World} {v : Value} {xs : List (Int × Int)} (h : PMov w w' v xs) : PRow w' v xs := by
  obtain ⟨ad, cap, rfl, h | ⟨g, t, zs, rfl, _, hb⟩⟩ := h
  · subst h
    exact ⟨ad, cap, rfl, fun j hj => by simp at hj⟩
  · exact ⟨_, cap, rfl, fun j hj => ⟨g, rfl, hb.lt, hb.cell j (ints_app (flat xs) zs j (by rw [flat_len]; exact hj))⟩⟩
theorem PRow.below {w w' : World} {v : Value} {xs : List (Int × Int)} (h : PRow w v xs) (hb : Below w.heap.size w w') : PRow w' v xs := by
  obtain ⟨ad, cap, rfl, h⟩ := h
  exact ⟨ad, cap, rfl, fun j hj => by
    obtain ⟨g, e, hg, hc⟩ := h j hj
    exact ⟨g, e, Nat.lt_of_lt_of_le hg hb.size, (hb.cell (p := ⟨g, j, none⟩) hg).trans hc⟩⟩
/-- A row of its own, made by append. -/
theorem own_pairs {w W : World} {v : Value} {xs : List (Int × Int)} {e : TypeId} (h : W.ownsRow w.heap.size e 2 v xs.length ((flat xs).map (Value.int .i64))) : PMov w W v xs := by
  rcases h.2 with ⟨hv, h0⟩ | ⟨g, cap, cur, hv, hb, hh, hcap, _, hsz, htake⟩
  · subst hv
    exact ⟨none, 0, by rw [h0], .inl (List.length_eq_zero_iff.1 h0)⟩
  · subst hv
    refine ⟨_, cap, rfl, .inr ⟨g, e, (cur.toList.drop (xs.length * 2)).toArray, rfl, hb, ?_⟩⟩
    have e1 : cur = ints (flat xs) ++ (cur.toList.drop (xs.length * 2)).toArray := by
      apply Array.toList_inj.1
      rw [Array.toList_append]
      show cur.toList = ((flat xs).map (Value.int .i64)) ++ cur.toList.drop (xs.length * 2)
      rw [← htake]
      simp
    unfold Blk
    rw [← e1]
    exact hh

set_option maxHeartbeats 1000000 in
theorem eqPair (a b : Int) (w : World) : Calls Tryd.prog 54 #[.agg #[.int .i64 a, .int .i64 b], .agg #[.int .i64 a, .int .i64 b]] w fun e w' => e = .returned (.bool true) ∧ Below w.heap.size w w' := by
  obtain ⟨W0, hW0⟩ : ∃ W0, W0 = (w.alloc (.cells #[.int .i64 a, .int .i64 b] 77)).alloc (.cells #[.int .i64 a, .int .i64 b] 77) := ⟨_, rfl⟩
  have A1 : Blk W0 w.heap.size #[.int .i64 a, .int .i64 b] 77 := by rw [hW0]; exact (Blk.new w _ _).alloc _
  have A2 : Blk W0 (w.heap.size + 1) #[.int .i64 a, .int .i64 b] 77 := by
    have := Blk.new (w.alloc (.cells #[.int .i64 a, .int .i64 b] 77)) #[.int .i64 a, .int .i64 b] 77
    rw [World.size_alloc] at this
    rw [hW0]
    exact this
  have HB : Hid (Below w.heap.size w W0) := by
    unfold Hid
    rw [hW0]
    exact ((Below.refl _ _).alloc (Nat.le_refl _) _).alloc (by rw [World.size_alloc]; omega) _
  have a0 : ∀ x : Later W0, x.w.cell? ⟨w.heap.size, 0, none⟩ = some (.int .i64 a) := fun x => (A1.later x).cell 0 rfl
  have a1 : ∀ x : Later W0, x.w.cell? ⟨w.heap.size, 1, none⟩ = some (.int .i64 b) := fun x => (A1.later x).cell 1 rfl
  have b0 : ∀ x : Later W0, x.w.cell? ⟨w.heap.size + 1, 0, none⟩ = some (.int .i64 a) := fun x => (A2.later x).cell 0 rfl
  have b1 : ∀ x : Later W0, x.w.cell? ⟨w.heap.size + 1, 1, none⟩ = some (.int .i64 b) := fun x => (A2.later x).cell 1 rfl
  have HW0 := hideP hW0
  clear hW0 A1 A2
  go_enter Tryd.func54, Tryd.ntmps54
  go_wp2_with fail
  rw [← HW0.out]
  go_loopw [5] (fun i wr => ∃ k : Nat, k ≤ 2 ∧ i = .int .i64 (k : Int) ∧ Below W0.heap.size W0 wr) (fun i _ => 2 - (intOf i).toNat)
  case atStart => exact ⟨0, Nat.zero_le _, rfl, Below.refl _ _⟩
  case round =>
    obtain ⟨k, hk, rfl, hB⟩ := hrel
    have HC := hideP hB
    clear hB
    rcases (show k = 0 ∨ k = 1 ∨ k = 2 by omega) with rfl | rfl | rfl
    · go_wp2_with fail
      refine wp_region_later (W := W0) HC.out (by kernel_rfl) (by kernel_rfl) ?_
      repeat (go_big_quiet_step (fail))
      refine wpQuiet_nil ?_
      intro _ hw'
      obtain ⟨y, rfl⟩ := hw'
      go_wp2
      exact ⟨⟨1, by omega, by go_num, y.below⟩, by simp [intOf]⟩
    · go_wp2_with fail
      refine wp_region_later (W := W0) HC.out (by kernel_rfl) (by kernel_rfl) ?_
      repeat (go_big_quiet_step (fail))
      refine wpQuiet_nil ?_
      intro _ hw'
      obtain ⟨y, rfl⟩ := hw'
      go_wp2
      exact ⟨⟨2, by omega, by go_num, y.below⟩, by simp [intOf]⟩
    · go_wp2
      go_ret
      exact ⟨rfl, HB.out.trans (HC.out.mono HB.out.size)⟩

set_option maxHeartbeats 1000000 in
theorem eqPairs (v1 v2 : Value) (xs : List (Int × Int)) (w : World) (hx : xs.length ≤ 2000000) (h1 : PRow w v1 xs) (h2 : PRow w v2 xs) :
    Calls Tryd.prog 27 #[v1, v2] w fun e w' => e = .returned (.bool true) ∧ Below w.heap.size w w' := by
  obtain ⟨a1, c1, rfl, H1⟩ := h1
  obtain ⟨a2, c2, rfl, H2⟩ := h2
  have K1 := hideP H1
  have K2 := hideP H2
  clear H1 H2
  go_enter Tryd.func27, Tryd.ntmps27
  go_wp2
  go_loopw [5] (fun i wr => ∃ k : Nat, k ≤ xs.length ∧ i = .int .i64 (k : Int) ∧ Below w.heap.size w wr) (fun i _ => xs.length - (intOf i).toNat)
  case atStart => exact ⟨0, Nat.zero_le _, rfl, Below.refl _ _⟩
  case round =>
    obtain ⟨k, hk, rfl, hB⟩ := hrel
    have HB := hideP hB
    clear hB
    by_cases hlt : k < xs.length
    · obtain ⟨g1, rfl, hg1, e1⟩ := K1.out (k * 2) (by omega)
      obtain ⟨_, f, _, e2⟩ := K1.out (k * 2 + 1) (by omega)
      cases f
      obtain ⟨g2, rfl, hg2, e3⟩ := K2.out (k * 2) (by omega)
      obtain ⟨_, f, _, e4⟩ := K2.out (k * 2 + 1) (by omega)
      cases f
      have a0 : ∀ x : Later w, x.w.cell? ⟨g1, k * 2, none⟩ = _ := fun x => Later.at e1 x
      have a1 : ∀ x : Later w, x.w.cell? ⟨g1, k * 2 + 1, none⟩ = _ := fun x => Later.at e2 x
      have b0 : ∀ x : Later w, x.w.cell? ⟨g2, k * 2, none⟩ = _ := fun x => Later.at e3 x
      have b1 : ∀ x : Later w, x.w.cell? ⟨g2, k * 2 + 1, none⟩ = _ := fun x => Later.at e4 x
      clear e1 e2 e3 e4
      generalize (flat xs).getD (k * 2) 0 = p at *
      generalize (flat xs).getD (k * 2 + 1) 0 = q at *
      have KE : ∀ x : Later w, Calls Tryd.prog 54 #[.agg #[.int .i64 p, .int .i64 q], .agg #[.int .i64 p, .int .i64 q]] x.w fun e w' => e = .returned (.bool true) ∧ Below x.w.heap.size x.w w' := fun x => eqPair p q x.w
      go_wp2_with fail
      refine wp_region_later (W := w) HB.out (by kernel_rfl) (by kernel_rfl) ?_
      repeat (go_big_quiet_step (first | (go_at_call 54; exact calls_later (KE _)) | fail))
      refine wpQuiet_nil ?_
      intro _ hw'
      obtain ⟨y, rfl⟩ := hw'
      go_wp2
      exact ⟨⟨k + 1, by omega, by go_num, y.below⟩, by simp [intOf]; omega⟩
    · go_wp2
      go_ret
      exact ⟨rfl, HB.out⟩

set_option maxHeartbeats 2000000 in
theorem markPairs (g cap k0 : Nat) (xs : List (Int × Int)) (zs : Array Value) (t : TypeId) (w W : World) (hn : xs.length ≤ 1000000) (hk1 : k0 ≤ 1000000) (hg : W.heap.size ≤ g) (hW : Below W.heap.size W w) (ho : Blk w g (ints (flat xs) ++ zs) t) :
    Calls Tryd.prog 29 #[.slice (some ⟨g, 0, none⟩) xs.length cap, .int .i64 (k0 : Int)] w fun e w' => e = .returned (.int .i64 ((k0 + xs.length * 2 : Nat) : Int)) ∧ Below W.heap.size W w' ∧ Blk w' g (ints (marks k0 (xs.length * 2)) ++ zs) t := by
  have HO := hideP ho
  have HW := hideP hW
  have hfl := flat_len xs
  have HL := hideP hfl
  clear ho hW hfl
  go_enter Tryd.func29, Tryd.ntmps29
  go_wp2
  go_loopw [1, 5] (fun u i wr => ∃ k : Nat, k ≤ xs.length ∧ i = .int .i64 (k : Int) ∧ u = .int .i64 ((k0 + k * 2 : Nat) : Int) ∧ Below W.heap.size W wr ∧ Blk wr g (ints (marked (flat xs) k0 (k * 2)) ++ zs) t) (fun _ i _ => xs.length - (intOf i).toNat)
  case atStart => exact ⟨0, Nat.zero_le _, rfl, rfl, HW.out, by simpa [marked, marks] using HO.out⟩
  case round =>
    obtain ⟨k, hk, rfl, rfl, hB, hM⟩ := hrel
    have HB := hideP hB
    have HM := hideP hM
    clear hM hB
    by_cases hlt : k < xs.length
    · go_wp2
      go_loopw [1, 6] (fun u i wr => ∃ j : Nat, j ≤ 2 ∧ i = .int .i64 (j : Int) ∧ u = .int .i64 ((k0 + k * 2 + j : Nat) : Int) ∧ Below W.heap.size W wr ∧ Blk wr g (ints (marked (flat xs) k0 (k * 2 + j)) ++ zs) t) (fun _ i _ => 2 - (intOf i).toNat)
      case atStart => exact ⟨0, Nat.zero_le _, rfl, by go_num, HB.out, HM.out⟩
      case round =>
        obtain ⟨j, hj, rfl, rfl, hB, hM⟩ := hrel
        have HB2 := hideP hB
        have HM2 := hideP hM
        clear hM hB HM HB
        by_cases hj2 : j < 2
        · have hq : k * 2 + j < (flat xs).length := by rw [HL.out]; omega
          have hlm : k * 2 + j < (marked (flat xs) k0 (k * 2 + j)).length := by rw [marked_len _ _ _ (by omega)]; exact hq
          have c0 := HM2.out.cell (k * 2 + j) (ints_app (marked (flat xs) k0 (k * 2 + j)) zs (k * 2 + j) hlm)
          have f0 := HM2.out.thaw (k * 2 + j)
          have HS := hideP (marked_set (flat xs) k0 (k * 2 + j) hq)
          have HLm := hideP hlm
          clear hlm hq
          generalize (marked (flat xs) k0 (k * 2 + j)).getD (k * 2 + j) 0 = z at *
          go_wp2
          refine ⟨⟨j + 1, by omega, by go_num, by go_num, below_store HB2.out _ hg, ?_⟩, by simp [intOf]; omega⟩
          have h := HM2.out.set (k * 2 + j) (.int .i64 ((k0 + (k * 2 + j) : Nat) : Int))
          rw [ints_setA _ _ _ _ HLm.out, HS.out, show ((k0 + (k * 2 + j) : Nat) : Int) = (k0 : Int) + (k : Int) * 2 + (j : Int) by omega] at h
          first | exact h | simpa [Nat.add_assoc] using h
        · obtain rfl : j = 2 := by omega
          go_wp2
          exact ⟨⟨k + 1, by omega, by go_num, by apply congrArg (Value.int .i64); omega, HB2.out, by rw [show (k + 1) * 2 = k * 2 + 2 by omega]; exact HM2.out⟩, by simp [intOf]; omega⟩
    · have hkn : k = xs.length := by omega
      subst hkn
      have HMM : Hid (Blk wr g (ints (marks k0 (xs.length * 2)) ++ zs) t) := by
        unfold Hid
        have h := HM.out
        rw [← HL.out, marked_all, HL.out] at h
        exact h
      go_wp2
      go_ret
      exact ⟨rfl, HB.out, HMM.out⟩

set_option maxHeartbeats 1000000 in
theorem markPairNone (a : Option Addr) (cap : Nat) (k0 : Nat) (w : World) : Calls Tryd.prog 29 #[.slice a 0 cap, .int .i64 (k0 : Int)] w fun e w' => e = .returned (.int .i64 (k0 : Int)) ∧ w' = w := by
  go_enter Tryd.func29, Tryd.ntmps29
  go_wp2
  go_loopw [1, 5] (fun u i wr => i = .int .i64 0 ∧ u = .int .i64 (k0 : Int) ∧ wr = w) (fun _ _ _ => 0)
  case atStart => exact ⟨rfl, rfl, rfl⟩
  case round =>
    obtain ⟨rfl, rfl, rfl⟩ := hrel
    go_wp2
    go_ret
    exact ⟨rfl, rfl⟩

/-- A row of marks. -/
def PMark (w : World) (v : Value) (k0 n : Nat) : Prop := ∃ ad cap, v = .slice ad n cap ∧ ∀ j, j < n * 2 → ∃ g, ad = some ⟨g, 0, none⟩ ∧ g < w.heap.size ∧ w.cell? ⟨g, j, none⟩ = some (.int .i64 ((k0 + j : Nat) : Int))
theorem PMark.below {w w' : World} {v : Value} {k0 n : Nat} (h : PMark w v k0 n) (hb : Below w.heap.size w w') : PMark w' v k0 n := by
  obtain ⟨ad, cap, rfl, h⟩ := h
  exact ⟨ad, cap, rfl, fun j hj => by
    obtain ⟨g, e, hg, hc⟩ := h j hj
    exact ⟨g, e, Nat.lt_of_lt_of_le hg hb.size, (hb.cell (p := ⟨g, j, none⟩) hg).trans hc⟩⟩
theorem markPairRow (W w : World) (v : Value) (xs : List (Int × Int)) (hn : xs.length ≤ 1000000) (h : PMov W w v xs) (hW : Below W.heap.size W w) :
    Calls Tryd.prog 29 #[v, .int .i64 1] w fun e w' => e = .returned (.int .i64 ((1 + xs.length * 2 : Nat) : Int)) ∧ Below W.heap.size W w' ∧ PMark w' v 1 xs.length := by
  obtain ⟨ad, cap, rfl, h | ⟨g, t, zs, rfl, hg, hB⟩⟩ := h
  · subst h
    exact (markPairNone ad cap 1 w).mono fun e w' ⟨he, hw⟩ => ⟨he, by rw [hw]; exact hW, ⟨ad, cap, rfl, fun j hj => by simp at hj⟩⟩
  · refine (markPairs g cap 1 xs zs t w W hn (by omega) hg hW hB).mono ?_
    rintro e w' ⟨he, hb, hk⟩
    refine ⟨he, hb, ⟨_, cap, rfl, fun j hj => ⟨g, rfl, hk.lt, ?_⟩⟩⟩
    have := hk.cell j (ints_app _ zs j (by rw [marks_len]; exact hj))
    rw [marks_at _ _ _ hj] at this
    exact this

set_option maxHeartbeats 2000000 in
theorem heldPairs (v : Value) (k0 n : Nat) (w : World) (hn : n ≤ 1000000) (hk1 : k0 ≤ 1000000) (h1 : PMark w v k0 n) :
    Calls Tryd.prog 30 #[v, .int .i64 (k0 : Int)] w fun e w' => e = .returned (.int .i64 ((k0 + n * 2 : Nat) : Int)) ∧ w' = w := by
  obtain ⟨a1, c1, rfl, H1⟩ := h1
  have K1 := hideP H1
  clear H1
  go_enter Tryd.func30, Tryd.ntmps30
  go_wp2
  go_loopw [1, 5] (fun u i wr => ∃ k : Nat, k ≤ n ∧ i = .int .i64 (k : Int) ∧ u = .int .i64 ((k0 + k * 2 : Nat) : Int) ∧ wr = w) (fun _ i _ => n - (intOf i).toNat)
  case atStart => exact ⟨0, Nat.zero_le _, rfl, rfl, rfl⟩
  case round =>
    obtain ⟨k, hk, rfl, rfl, rfl⟩ := hrel
    by_cases hlt : k < n
    · go_wp2
      go_loopw [1, 6] (fun u i wq => ∃ j : Nat, j ≤ 2 ∧ i = .int .i64 (j : Int) ∧ u = .int .i64 ((k0 + k * 2 + j : Nat) : Int) ∧ wr = wq) (fun _ i _ => 2 - (intOf i).toNat)
      case atStart => exact ⟨0, Nat.zero_le _, rfl, by go_num, rfl⟩
      case round =>
        obtain ⟨j, hj, rfl, rfl, rfl⟩ := hrel
        by_cases hj2 : j < 2
        · obtain ⟨g1, rfl, _, e1⟩ := K1.out (k * 2 + j) (by omega)
          have e2 := e1
          rw [show ((k0 + (k * 2 + j) : Nat) : Int) = (k0 : Int) + (k : Int) * 2 + (j : Int) by omega] at e2
          clear e1
          go_wp2
          exact ⟨⟨j + 1, by omega, by go_num, by go_num, by first | rfl | trivial⟩, by simp [intOf]; omega⟩
        · obtain rfl : j = 2 := by omega
          go_wp2
          exact ⟨⟨k + 1, by omega, by go_num, by apply congrArg (Value.int .i64); omega, by first | rfl | trivial⟩, by simp [intOf]; omega⟩
    · have hkn : k = n := by omega
      subst hkn
      go_wp2
      go_ret
      exact ⟨rfl, rfl⟩
end Go.Proofs.YtcdcniniafejbaaDoor.ctr
