/- The days of a segment that are of a year, in the model (specSpan); what marks the arrays of a regime; rows of strings. -/
import Derived.Test.YtjojgfdfbkmlkaaGreatDoorJnDbj
import Derived.Test.YtjojgfdfbkmlkaaGreatDoorJnDbh
import Derived.PlainAid
import Derived.Test.YtjojgfdfbkmlkaaGreatDoorJnDbd
import Derived.Test.YtjojgfdfbkmlkaaGreatDoorJnDah
import Derived.Laws.AppendOwn
import Derived.Handy
import Derived.BigQuiet
import Derived.Deep.QuietTactic
import Derived.Deep.RegionWith
import Derived.Lib.ItoaNum
import Derived.Laws.IdiomStrings
namespace Go.Proofs.YtjojgfdfbkmlkaaGreatDoor.ctr
open Go.RowKit
set_option maxHeartbeats 4000000 in
theorem specSpan (s : Seg) (y : Int) (w : World) (hs : segOkB s = true) (y1 : 1 ≤ y) (y2 : y ≤ 3000) : Calls Tryz.prog 79 #[segV s, .int .i64 y] w fun e w' => e = .returned (.tuple #[.int .i64 (spanF s y), .int .i64 (spanT s y)]) ∧ Below w.heap.size w w' := by
  obtain ⟨n1, n2, n3, n4, n7, n5, n6⟩ := segOk_nums hs
  have hst : styleP s.sty := of_decide_eq_true n7
  have KY : ∀ W, Calls Tryz.prog 136 #[.int .i64 s.cal, .int .i64 y] W fun e w' => e = .returned (.bool true) ∧ w' = W := fun W => by
    have q := specYearOk s.cal y W
    rw [yearB_true ⟨n4, y1, y2⟩] at q
    exact q
  have bA := start_bound (y := y) n4 hst y1 (by omega)
  have bB := start_bound (y := y + 1) n4 hst (by omega) (by omega)
  obtain ⟨W0, hW0, hC, hBl⟩ := box_any w #[.int .i64 s.fr, .int .i64 s.to, .int .i64 s.cal, .int .i64 s.sty, .int .i64 s.off] 92
  have K1 : ∀ x : Later W0, Calls Tryz.prog 137 #[.int .i64 s.cal, .int .i64 s.sty, .int .i64 y] x.w fun e w' => e = .returned (.int .i64 (start s.cal s.sty y)) ∧ Below x.w.heap.size x.w w' := fun x => specStart s.cal s.sty y x.w n4 hst y1 (by omega)
  have K2 : ∀ x : Later W0, Calls Tryz.prog 137 #[.int .i64 s.cal, .int .i64 s.sty, .int .i64 (y + 1)] x.w fun e w' => e = .returned (.int .i64 (start s.cal s.sty (y + 1))) ∧ Below x.w.heap.size x.w w' := fun x => specStart s.cal s.sty (y + 1) x.w n4 hst (by omega) (by omega)
  obtain ⟨F, hF⟩ : ∃ F, F = spanF s y := ⟨_, rfl⟩
  obtain ⟨E, hE⟩ : ∃ E, E = spanT s y := ⟨_, rfl⟩
  rw [← hF, ← hE]
  unfold spanF at hF
  unfold spanT at hE
  generalize start s.cal s.sty y = A at *
  generalize start s.cal s.sty (y + 1) = B at *
  have c0 : ∀ x : Later W0, x.w.cell? ⟨w.heap.size, 0, none⟩ = some (.int .i64 s.fr) := fun x => (hC x).cell 0 rfl
  have c1 : ∀ x : Later W0, x.w.cell? ⟨w.heap.size, 1, none⟩ = some (.int .i64 s.to) := fun x => (hC x).cell 1 rfl
  have c2 : ∀ x : Later W0, x.w.cell? ⟨w.heap.size, 2, none⟩ = some (.int .i64 s.cal) := fun x => (hC x).cell 2 rfl
  have c3 : ∀ x : Later W0, x.w.cell? ⟨w.heap.size, 3, none⟩ = some (.int .i64 s.sty) := fun x => (hC x).cell 3 rfl
  have c4 : ∀ x : Later W0, x.w.cell? ⟨w.heap.size, 4, none⟩ = some (.int .i64 s.off) := fun x => (hC x).cell 4 rfl
  have HW0 := hideP hW0
  have HBl := hideP hBl
  clear hW0 hC hBl hs hst n7 n4
  by_cases hA : A - s.off < s.fr
  · by_cases hB : s.to < B - 1 - s.off
    · obtain rfl : F = s.fr := by rw [hF]; omega
      obtain rfl : E = s.to := by rw [hE]; omega
      clear hF hE
      go_enter Tryz.func79, Tryz.ntmps79
      go_wp2_with fail
      rw [← HW0.out]
      refine (KY _).mono ?_
      rintro e w1 ⟨rfl, hw1⟩
      rw [hw1]
      clear hw1 w1
      go_wp2_with fail
      refine wp_region_later (W := W0) (Below.refl _ _) (by kernel_rfl) (by kernel_rfl) ?_
      repeat (go_big_quiet_step (first | (go_at_call 137; exact calls_later (K1 _)) | fail))
      refine wpQuiet_nil ?_
      intro _ hw'
      obtain ⟨x1, rfl⟩ := hw'
      clear K1
      go_wp2_with fail
      refine wp_region_later (W := W0) x1.below (by kernel_rfl) (by kernel_rfl) ?_
      repeat (go_big_quiet_step (first | (go_at_call 137; exact calls_later (K2 _)) | fail))
      refine wpQuiet_nil ?_
      intro _ hw'
      obtain ⟨x2, rfl⟩ := hw'
      clear K2
      go_wp2
      go_returns
      exact ⟨rfl, HBl.out x2⟩
    · obtain rfl : F = s.fr := by rw [hF]; omega
      obtain rfl : E = B - 1 - s.off := by rw [hE]; omega
      clear hF hE
      go_enter Tryz.func79, Tryz.ntmps79
      go_wp2_with fail
      rw [← HW0.out]
      refine (KY _).mono ?_
      rintro e w1 ⟨rfl, hw1⟩
      rw [hw1]
      clear hw1 w1
      go_wp2_with fail
      refine wp_region_later (W := W0) (Below.refl _ _) (by kernel_rfl) (by kernel_rfl) ?_
      repeat (go_big_quiet_step (first | (go_at_call 137; exact calls_later (K1 _)) | fail))
      refine wpQuiet_nil ?_
      intro _ hw'
      obtain ⟨x1, rfl⟩ := hw'
      clear K1
      go_wp2_with fail
      refine wp_region_later (W := W0) x1.below (by kernel_rfl) (by kernel_rfl) ?_
      repeat (go_big_quiet_step (first | (go_at_call 137; exact calls_later (K2 _)) | fail))
      refine wpQuiet_nil ?_
      intro _ hw'
      obtain ⟨x2, rfl⟩ := hw'
      clear K2
      go_wp2
      go_returns
      exact ⟨rfl, HBl.out x2⟩
  · by_cases hB : s.to < B - 1 - s.off
    · obtain rfl : F = A - s.off := by rw [hF]; omega
      obtain rfl : E = s.to := by rw [hE]; omega
      clear hF hE
      go_enter Tryz.func79, Tryz.ntmps79
      go_wp2_with fail
      rw [← HW0.out]
      refine (KY _).mono ?_
      rintro e w1 ⟨rfl, hw1⟩
      rw [hw1]
      clear hw1 w1
      go_wp2_with fail
      refine wp_region_later (W := W0) (Below.refl _ _) (by kernel_rfl) (by kernel_rfl) ?_
      repeat (go_big_quiet_step (first | (go_at_call 137; exact calls_later (K1 _)) | fail))
      refine wpQuiet_nil ?_
      intro _ hw'
      obtain ⟨x1, rfl⟩ := hw'
      clear K1
      go_wp2_with fail
      refine wp_region_later (W := W0) x1.below (by kernel_rfl) (by kernel_rfl) ?_
      repeat (go_big_quiet_step (first | (go_at_call 137; exact calls_later (K2 _)) | fail))
      refine wpQuiet_nil ?_
      intro _ hw'
      obtain ⟨x2, rfl⟩ := hw'
      clear K2
      go_wp2
      go_returns
      exact ⟨rfl, HBl.out x2⟩
    · obtain rfl : F = A - s.off := by rw [hF]; omega
      obtain rfl : E = B - 1 - s.off := by rw [hE]; omega
      clear hF hE
      go_enter Tryz.func79, Tryz.ntmps79
      go_wp2_with fail
      rw [← HW0.out]
      refine (KY _).mono ?_
      rintro e w1 ⟨rfl, hw1⟩
      rw [hw1]
      clear hw1 w1
      go_wp2_with fail
      refine wp_region_later (W := W0) (Below.refl _ _) (by kernel_rfl) (by kernel_rfl) ?_
      repeat (go_big_quiet_step (first | (go_at_call 137; exact calls_later (K1 _)) | fail))
      refine wpQuiet_nil ?_
      intro _ hw'
      obtain ⟨x1, rfl⟩ := hw'
      clear K1
      go_wp2_with fail
      refine wp_region_later (W := W0) x1.below (by kernel_rfl) (by kernel_rfl) ?_
      repeat (go_big_quiet_step (first | (go_at_call 137; exact calls_later (K2 _)) | fail))
      refine wpQuiet_nil ?_
      intro _ hw'
      obtain ⟨x2, rfl⟩ := hw'
      clear K2
      go_wp2
      go_returns
      exact ⟨rfl, HBl.out x2⟩
end Go.Proofs.YtjojgfdfbkmlkaaGreatDoor.ctr
namespace Go.Proofs.YtjojgfdfbkmlkaaGreatDoor.ctr
open Go.RowKit
def OwnC (w : World) (g m : Nat) : Prop := ∀ j, j < m → (∃ u, w.cell? ⟨g, j, none⟩ = some u) ∧ w.frozen? ⟨g, j, none⟩ = false
def MarkC (w : World) (g m : Nat) : Prop := ∀ j, j < m → w.cell? ⟨g, j, none⟩ = some (.int .i64 ((1 + j : Nat) : Int))
theorem ownC_of {W : World} {g m : Nat} {cs : Array Value} {t : TypeId} (h : Blk W g cs t) (hs : m ≤ cs.size) : OwnC W g m := fun j hj => ⟨⟨cs[j]'(by omega), h.cell j (by simp)⟩, h.thaw j⟩
theorem PRow.own {w : World} {g cap : Nat} {T : TypeId} {L : List Seg} (h : PRow segK T w g cap L) : OwnC w g (L.length * 5) := by
  obtain ⟨cur, hB, hs, h1, _⟩ := h
  have : L.length * 5 ≤ cap * 5 := Nat.mul_le_mul_right _ h1
  exact ownC_of hB (by rw [hs]; exact this)
theorem ownC_set {W : World} {g n : Nat} (h : OwnC W g n) (k : Nat) (v : Value) : OwnC (W.setCell ⟨g, k, none⟩ v) g n := fun j hj => by
  obtain ⟨⟨u, hu⟩, hf⟩ := h j hj
  refine ⟨?_, by rw [World.frozen?_setCell]; exact hf⟩
  by_cases e : j = k
  · subst e
    exact ⟨v, World.cell?_setCell_same W _ _ hu⟩
  · exact ⟨u, by rw [World.cell?_setCell_other W _ _ _ (by intro h; injection h with _ h2; exact e h2.symm)]; exact hu⟩
theorem markC_set {W : World} {g n k : Nat} (h : MarkC W g k) (ho : OwnC W g n) (hk : k < n) : MarkC (W.setCell ⟨g, k, none⟩ (.int .i64 ((1 + k : Nat) : Int))) g (k + 1) := fun j hj => by
  obtain ⟨⟨u, hu⟩, _⟩ := ho k hk
  by_cases e : j = k
  · subst e
    exact World.cell?_setCell_same W _ _ hu
  · rw [World.cell?_setCell_other W _ _ _ (by intro h; injection h with _ h2; exact e h2.symm)]
    exact h j (by omega)
theorem grown_set (W : World) (B o : Nat) (v : Value) : W.grownBy (W.setCell ⟨B, o, none⟩ v) (some B) :=
  ⟨rfl, rfl, rfl, by rw [World.size_setCell]; exact Nat.le_refl _, fun k _ hk => Below.heap_setCell W _ _ k (by intro e; apply hk; rw [e])⟩
structure MSt (w : World) (g n k : Nat) (wr : World) : Prop where
  own : OwnC wr g (n * 5)
  mark : MarkC wr g k
  grown : w.grownBy wr (some g)
theorem MSt.put {w wr : World} {g n k : Nat} (h : MSt w g n k wr) (hk : k < n * 5) : MSt w g n (k + 1) (wr.setCell ⟨g, k, none⟩ (.int .i64 ((1 + k : Nat) : Int))) :=
  ⟨ownC_set h.own _ _, markC_set h.mark h.own hk, grown_two h.grown (grown_set _ _ _ _)⟩
theorem MSt.five {w wr : World} {g n k : Nat} (h : MSt w g n (k * 5) wr) (hk : k < n) : MSt w g n ((k + 1) * 5) (((((wr.setCell ⟨g, k * 5, none⟩ (.int .i64 ((k : Int) * 5 + 1))).setCell ⟨g, k * 5 + 1, none⟩ (.int .i64 ((k : Int) * 5 + 1 + 1))).setCell ⟨g, k * 5 + 2, none⟩ (.int .i64 ((k : Int) * 5 + 1 + 1 + 1))).setCell ⟨g, k * 5 + 3, none⟩ (.int .i64 ((k : Int) * 5 + 1 + 1 + 1 + 1))).setCell ⟨g, k * 5 + 4, none⟩ (.int .i64 ((k : Int) * 5 + 1 + 1 + 1 + 1 + 1))) := by
  have e : ∀ j : Nat, j < 5 → ((1 + (k * 5 + j) : Nat) : Int) = (k : Int) * 5 + 1 + (j : Int) := fun j _ => by omega
  have h5 := ((((h.put (by omega)).put (by omega)).put (by omega)).put (by omega)).put (by omega)
  rw [show (k + 1) * 5 = k * 5 + 1 + 1 + 1 + 1 + 1 by omega]
  have a0 : ((1 + (k * 5) : Nat) : Int) = (k : Int) * 5 + 1 := by omega
  have a1 : ((1 + (k * 5 + 1) : Nat) : Int) = (k : Int) * 5 + 1 + 1 := by omega
  have a2 : ((1 + (k * 5 + 1 + 1) : Nat) : Int) = (k : Int) * 5 + 1 + 1 + 1 := by omega
  have a3 : ((1 + (k * 5 + 1 + 1 + 1) : Nat) : Int) = (k : Int) * 5 + 1 + 1 + 1 + 1 := by omega
  have a4 : ((1 + (k * 5 + 1 + 1 + 1 + 1) : Nat) : Int) = (k : Int) * 5 + 1 + 1 + 1 + 1 + 1 := by omega
  rw [a0, a1, a2, a3, a4] at h5
  exact h5
set_option maxHeartbeats 2000000 in
theorem markSegs (g cap n : Nat) (w : World) (hn : n ≤ 1048576) (ho : OwnC w g (n * 5)) :
    Calls Tryz.prog 76 #[.slice (some ⟨g, 0, none⟩) n cap, .int .i64 1] w fun e w' => e = .returned (.int .i64 ((n : Int) * 5 + 1)) ∧ MSt w g n (n * 5) w' := by
  have S0 : Hid (MSt w g n 0 w) := ⟨ho, fun j hj => by omega, ⟨rfl, rfl, rfl, Nat.le_refl _, fun _ _ _ => rfl⟩⟩
  clear ho
  go_enter Tryz.func76, Tryz.ntmps76
  go_wp2
  go_loopw [1, 5] (fun t i wr => ∃ k : Nat, k ≤ n ∧ i = .int .i64 (k : Int) ∧ t = .int .i64 ((k : Int) * 5 + 1) ∧ MSt w g n (k * 5) wr) (fun _ i _ => n - (intOf i).toNat)
  case atStart => exact ⟨0, Nat.zero_le _, rfl, rfl, S0.out⟩
  case round =>
    obtain ⟨k, hk, rfl, rfl, hM⟩ := hrel
    have HM := hideP hM
    clear hM S0
    by_cases hlt : k < n
    · obtain ⟨⟨u0, h0⟩, f0⟩ := HM.out.own (k * 5) (by omega)
      obtain ⟨⟨u1, h1⟩, f1⟩ := HM.out.own (k * 5 + 1) (by omega)
      obtain ⟨⟨u2, h2⟩, f2⟩ := HM.out.own (k * 5 + 2) (by omega)
      obtain ⟨⟨u3, h3⟩, f3⟩ := HM.out.own (k * 5 + 3) (by omega)
      obtain ⟨⟨u4, h4⟩, f4⟩ := HM.out.own (k * 5 + 4) (by omega)
      have HN := hideP (HM.out.five hlt)
      go_wp2
      exact ⟨⟨k + 1, by omega, by go_num, by apply congrArg (Value.int .i64); omega, HN.out⟩, by simp [intOf]; omega⟩
    · obtain rfl : k = n := by omega
      go_wp2
      go_ret
      exact ⟨rfl, HM.out⟩
end Go.Proofs.YtjojgfdfbkmlkaaGreatDoor.ctr
namespace Go.Proofs.YtjojgfdfbkmlkaaGreatDoor.ctr
open Go.RowKit
def StrRow (W : World) (v : Value) (xs : List ByteArray) : Prop :=
  ∃ a cap, v = .slice a xs.length cap ∧ (xs = [] ∨ ∃ g, a = some ⟨g, 0, none⟩ ∧ ∀ j, j < xs.length → W.cell? ⟨g, j, none⟩ = some (.string (xs.getD j ⟨#[]⟩)))
theorem StrRow.at {W : World} {v : Value} {xs : List ByteArray} (h : StrRow W v xs) : ∃ a cap, v = .slice a xs.length cap ∧ ∀ k, k < xs.length → ∃ g, a = some ⟨g, 0, none⟩ ∧ W.cell? ⟨g, k, none⟩ = some (.string (xs.getD k ⟨#[]⟩)) := by
  obtain ⟨a, cap, hv, hc⟩ := h
  refine ⟨a, cap, hv, fun k hk => ?_⟩
  rcases hc with rfl | ⟨g, ha, hc⟩
  · simp at hk
  · exact ⟨g, ha, hc k hk⟩
def StrAt (W : World) (g : Nat) (xs : List ByteArray) : Prop := ∀ j, j < xs.length → W.cell? ⟨g, j, none⟩ = some (.string (xs.getD j ⟨#[]⟩))
theorem StrAt.row {W : World} {g cap : Nat} {xs : List ByteArray} (h : StrAt W g xs) : StrRow W (.slice (some ⟨g, 0, none⟩) xs.length cap) xs := ⟨_, _, rfl, .inr ⟨g, rfl, h⟩⟩
theorem StrAt.below {W W' : World} {g : Nat} {xs : List ByteArray} (h : StrAt W g xs) {B : Nat} (hb : Below B W W') (hg : g < B) : StrAt W' g xs := fun j hj => (hb.cell (p := ⟨g, j, none⟩) hg).trans (h j hj)
theorem StrAt.grown {W W' : World} {g r : Nat} {xs : List ByteArray} (h : StrAt W g xs) (hb : W.grownBy W' (some r)) (hg : g < W.heap.size) (hr : g ≠ r) : StrAt W' g xs := fun j hj =>
  (World.cell?_of_block (hb.block g hg (by intro e; exact hr (Option.some.inj e)))).trans (h j hj)
end Go.Proofs.YtjojgfdfbkmlkaaGreatDoor.ctr
namespace Go.Proofs.YtjojgfdfbkmlkaaGreatDoor.ctr
open Go.RowKit
def mleft (m : Nat) : List UInt8 := if m = 0 then [] else Lib.decDigits m
theorem mleft_step (m : Nat) (h : m ≠ 0) : mleft m = mleft (m / 10) ++ [UInt8.ofNat (48 + m % 10)] := by
  unfold mleft
  rw [if_neg h, Lib.decDigits]
  by_cases h0 : m < 10
  · rw [dif_pos h0, if_pos (by omega), Nat.mod_eq_of_lt h0]
    rfl
  · rw [dif_neg h0, if_neg (by omega)]
theorem mdec_len : ∀ (k u : Nat), u < 10 ^ (k + 1) → (Lib.decDigits u).length ≤ k + 1
  | 0, u, h => by rw [Lib.decDigits, dif_pos (by simpa using h)]; simp
  | k + 1, u, h => by
    rw [Lib.decDigits]
    by_cases h0 : u < 10
    · rw [dif_pos h0]; simp
    · rw [dif_neg h0, List.length_append]
      have := mdec_len k (u / 10) (by rw [Nat.pow_succ] at h; omega)
      simp
      omega
theorem mleft_len (n : Nat) (h : n < 1000000000) : (mleft n).length ≤ 9 := by
  unfold mleft
  split
  · simp
  · exact mdec_len 8 n (by have hp : (10 : Nat) ^ (8 + 1) = 1000000000 := by decide
                           rw [hp]; exact h)
def mk (k : Nat) : ByteArray := ⟨(109 :: mleft k).toArray⟩
theorem conv1 (W : World) (c : Int) (h0 : 0 ≤ c) (h1 : c < 256) : (convert 197 9 (.slice (some ⟨W.heap.size, 0, none⟩) 1 1)).run Tryz.prog (W.alloc (.cells #[.int .u8 c] 5)) = .ok (.string ⟨#[UInt8.ofNat c.toNat]⟩) (W.alloc (.cells #[.int .u8 c] 5)) := by
  refine run_convert_bytes_back _ 197 9 5 ⟨W.heap.size, 0, none⟩ 1 [UInt8.ofNat c.toNat] Tryz.underlying197 Tryz.underlying5 Tryz.underlying9 (fun j hj => ?_)
  have hj0 : j = 0 := by simpa using hj
  subst hj0
  have ha : (⟨W.heap.size, 0, none⟩ : Addr).add 0 = ⟨W.heap.size, 0, none⟩ := by unfold Addr.add; split <;> simp_all
  have hc : (W.alloc (.cells #[.int .u8 c] 5)).cell? ⟨W.heap.size, 0, none⟩ = some (.int .u8 c) := by simp [World.alloc, World.cell?, -World.alloc_eq]
  rw [ha, hc]
  simp
  omega
set_option maxHeartbeats 1000000 in
theorem markText (n : Nat) (w : World) (hn : 0 < n) (hb : n < 1000000000) :
    Calls Tryz.prog 101 #[.int .i64 (n : Int)] w fun e w' => e = .returned (.string (mk n)) ∧ Below w.heap.size w w' := by
  have hl9 := mleft_len n hb
  have HL9 : Hid _ := hl9
  clear hl9
  go_enter Tryz.func101, Tryz.ntmps101
  go_wp2
  go_loopw [0, 3] (fun t o wr => ∃ (m : Nat) (out : List UInt8), m < 1000000000 ∧ t = .int .i64 (m : Int) ∧ o = .string ⟨out.toArray⟩ ∧ out.length ≤ 9 ∧ Hid (mleft m ++ out = mleft n) ∧ Below w.heap.size w wr) (fun t _ _ => (intOf t).toNat)
  case atStart => exact ⟨n, [], hb, rfl, rfl, by simp, by unfold Hid; simp, Below.refl _ _⟩
  case round =>
    obtain ⟨m, out, hm, rfl, rfl, ho, HO, hB⟩ := hrel
    by_cases hz : m = 0
    · subst hz
      go_wp2
      go_ret
      refine ⟨ret_str ?_, hB⟩
      unfold mk
      rw [← HO.out]
      apply WideShapes.bytes_inj
      simp [mleft]
    · have hmp : 0 < (m : Int) := by omega
      have hcv := fun W : World => conv1 W (48 + (m : Int) % 10) (by omega) (by omega)
      have hx : mleft (m / 10) ++ ((48 + UInt8.ofNat (m % 10)) :: out) = mleft n := by
        rw [← HO.out, mleft_step m hz, UInt8.ofNat_add]
        simp
      have hol : ((48 + UInt8.ofNat (m % 10)) :: out).length ≤ 9 := by
        have h := HL9.out
        rw [← hx, List.length_append] at h
        omega
      have HX : Hid _ := hx
      have HOL : Hid _ := hol
      clear hx hol
      go_wp2
      refine ⟨⟨m / 10, (48 + UInt8.ofNat (m % 10)) :: out, by omega, by simp, ?_, HOL.out, HX.out, hB.alloc hB.size _⟩, by simp [intOf]; omega⟩
      apply congrArg Value.string
      apply WideShapes.bytes_inj
      simp
end Go.Proofs.YtjojgfdfbkmlkaaGreatDoor.ctr
