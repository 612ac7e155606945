/- Contract of the model's Gaps: it answers, in a row of its own, the runs of days in no reign; nothing that was there turns. -/
import Derived.Test.YtcdcniniafejbaaDoorRgnGapP
import Derived.Test.YtcdcniniafejbaaDoorRgnOkS
import Derived.Test.YtcdcniniafejbaaDoorRgnPair
import Derived.Test.YtcdcniniafejbaaDoorStySol
import Derived.PlainAid
namespace Go.Proofs.YtcdcniniafejbaaDoor.ctr
open Go.RowKit

theorem info_pair : (Tryd.prog.info? 77).map (fun i => (i.zero, i.size, i.bytes)) = some (some (.agg #[.int .i64 0, .int .i64 0]), 2, 16) := by kernel_rfl
/-- The state of a loop that puts pairs together: they lie in a row of their own. -/
structure PSt2 (w : World) (o : Value) (xs : List (Int × Int)) (W : World) : Prop where
  row : W.ownsRow w.heap.size 77 2 o xs.length ((flat xs).map (Value.int .i64))
  below : Below w.heap.size w W
theorem PSt2.later {w : World} {o : Value} {xs : List (Int × Int)} {W W' : World} (h : PSt2 w o xs W) (hb : Below W.heap.size W W') : PSt2 w o xs W' := ⟨iown_later h.row hb, h.below.trans (hb.mono h.below.size)⟩
theorem PSt2.app {w : World} {o o' : Value} {xs : List (Int × Int)} {W W' : World} {ob : Obj} (h : PSt2 w o xs W) (p q : Int) (hr : W'.ownsRow w.heap.size 77 2 o' (xs.length + 1) ((flat xs).map (Value.int .i64) ++ [.int .i64 p, .int .i64 q])) (hg : (W.alloc ob).grownBy W' o.ownBlock) : PSt2 w o' (xs ++ [(p, q)]) W' := by
  refine ⟨?_, (h.below.alloc h.below.size ob).grown hg (by have := h.below.size; rw [inew]; omega) (ibase h.row)⟩
  rw [List.length_append, flat_app, List.map_append]
  exact hr
theorem PSt2.done {w w0 W : World} {o : Value} {xs : List (Int × Int)} (h : PSt2 w o xs W) (hb : Below w0.heap.size w0 w) : PMov w0 W o xs ∧ Below w0.heap.size w0 W := by
  refine ⟨own_pairs (e := 77) ?_, hb.trans (h.below.mono hb.size)⟩
  obtain ⟨h1, h | ⟨g, cap, cur, hv, hg, hr⟩⟩ := h.row
  · exact ⟨h1, .inl h⟩
  · exact ⟨h1, .inr ⟨g, cap, cur, hv, Nat.le_trans hb.size hg, hr⟩⟩
theorem pown_empty (w : World) : (w.alloc (.cells #[] 77)).ownsRow w.heap.size 77 2 (.slice (some ⟨w.heap.size, 0, none⟩) 0 0) 0 [] :=
  ⟨rfl, .inr ⟨w.heap.size, 0, #[], rfl, Nat.le_refl _, by simp [World.alloc, -World.alloc_eq], Nat.le_refl _, Nat.zero_le _, rfl, rfl⟩⟩
theorem cells_two (W : World) (a b : Value) (t : TypeId) {n : Nat} (hn : n = W.heap.size) : ∀ (j : Nat) (u : Value), [a, b][j]? = some u → (W.alloc (.cells #[a, b] t)).cell? ((⟨n, 0, none⟩ : Addr).add j) = some u := by
  intro j u h
  subst hn
  have ha : (⟨W.heap.size, 0, none⟩ : Addr).add j = ⟨W.heap.size, j, none⟩ := by unfold Addr.add; split <;> simp_all
  rw [ha]
  match j, h with
  | 0, h => simpa [World.alloc, World.cell?, -World.alloc_eq] using h
  | 1, h => simpa [World.alloc, World.cell?, -World.alloc_eq] using h
  | j + 2, h => simp at h

set_option maxRecDepth 100000 in
set_option maxHeartbeats 4000000 in
theorem specGaps (v : Value) (l : List Rgn) (F T : Int) (w : World) (h : RRow w v l) : Calls Tryd.prog 25 #[v, .int .i64 F, .int .i64 T] w fun e w' => ∃ o, e = .returned o ∧ PMov w w' o (gaps l F T) ∧ Below w.heap.size w w' := by
  obtain ⟨i0, hi, hz0, hz1, hz2⟩ := info_parts info_pair
  have HH := hideP h
  obtain ⟨a, c, rfl, hl, hm, hn, H⟩ := h
  have K := hideP H
  unfold maxLen at hm
  have S0 : Hid (PSt2 w (.slice (some ⟨w.heap.size, 0, none⟩) 0 0) [] (w.alloc (.cells #[] 77))) := ⟨pown_empty w, (Below.refl _ _).alloc (Nat.le_refl _) _⟩
  have KO : Calls Tryd.prog 10 #[.slice a l.length c] (w.alloc (.cells #[] 77)) fun e w' => e = .returned (.bool (reignsOk l)) ∧ Below (w.alloc (.cells #[] 77)).heap.size (w.alloc (.cells #[] 77)) w' := specReignsOk _ l _ (HH.out.below S0.out.below)
  clear H hn
  cases ho : reignsOk l
  · have HR : Hid (gaps l F T = []) := by unfold Hid gaps; rw [ho]; rfl
    rw [HR.out]
    rw [ho] at KO
    clear ho
    go_enter Tryd.func25, Tryd.ntmps25
    go_wp2_with fail
    refine KO.mono ?_
    rintro e w1 ⟨rfl, hb⟩
    have S1 := hideP (S0.out.later hb)
    clear hb
    go_wp2
    go_ret
    exact ⟨_, rfl, S1.out.done (Below.refl _ _)⟩
  have HR : Hid (gaps l F T = gapsFrom T l F) := by unfold Hid gaps; rw [ho]; rfl
  have HOK := hideP ho
  have hl30 := ok_len ho
  rw [HR.out]
  rw [ho] at KO
  clear ho
  go_enter Tryd.func25, Tryd.ntmps25
  go_wp2_with fail
  refine KO.mono ?_
  rintro e w1 ⟨rfl, hb⟩
  have S1 := hideP (S0.out.later hb)
  clear hb KO S0
  go_wp2
  go_loopw [7, 8, 9] (fun o n i wr => ∃ (k : Nat) (m : Int) (xs : List (Int × Int)), k ≤ l.length ∧ i = .int .i64 (k : Int) ∧ n = .int .i64 m ∧ xs.length ≤ k ∧ Hid (xs ++ gapsFrom T (l.drop k) m = gapsFrom T l F) ∧ PSt2 w o xs wr) (fun _ _ i _ => l.length - (intOf i).toNat)
  case atStart => exact ⟨0, F, [], Nat.zero_le _, rfl, rfl, Nat.le_refl _, rfl, S1.out⟩
  case round =>
    obtain ⟨k, m, xs, hk, rfl, rfl, hx, HF, hS⟩ := hrel
    have S := hideP hS
    clear hS S1
    by_cases hlt : k < l.length
    · obtain ⟨g, rfl, hg, x⟩ := K.out k hlt
      obtain ⟨a0, a1, a2⟩ := x.below S.out.below hg
      obtain ⟨_, hft, hbf, hbt, _, _⟩ := ok_rgn HOK.out hlt
      have b1 := both_bound hbf
      have b2 := both_bound hbt
      have HD := hideP (drop_rg hlt)
      have HF2 := HF.out
      rw [HD.out] at HF2
      have J1 := hideP (fun (h : (rgA l k).to < m) => (show xs ++ gapsFrom T (l.drop (k + 1)) m = gapsFrom T l F by rw [← HF2, gap_skip hft h]))
      have J2 := hideP (fun (h : T < (rgA l k).fr) => (show xs ++ (if m ≤ T then [(m, T)] else []) = gapsFrom T l F by rw [← HF2, gap_last hft h]))
      have J3 := hideP (fun (h1 : ¬ (rgA l k).to < m) (h2 : ¬ T < (rgA l k).fr) (h3 : m < (rgA l k).fr) => (show (xs ++ [(m, (rgA l k).fr - 1)]) ++ gapsFrom T (l.drop (k + 1)) ((rgA l k).to + 1) = gapsFrom T l F by rw [← HF2, gap_hit h1 h2 h3, List.append_assoc]; rfl))
      have J4 := hideP (fun (h1 : ¬ (rgA l k).to < m) (h2 : ¬ T < (rgA l k).fr) (h3 : ¬ m < (rgA l k).fr) => (show xs ++ gapsFrom T (l.drop (k + 1)) ((rgA l k).to + 1) = gapsFrom T l F by rw [← HF2, gap_miss h1 h2 h3]))
      have K3 : Hid (∀ W, Below w.heap.size w W → W.cell? ⟨g, k * 3 + 2, none⟩ = some (.int .i64 (rgA l k).to)) := fun W hb => (x.below hb hg).2.2
      clear x HF2 HD HF hbf hbt
      generalize rgA l k = r at *
      obtain ⟨nm, f, t⟩ := r
      dsimp only at a0 a1 a2 b1 b2 hft J1 J2 J3 J4 K3
      by_cases c1 : t < m
      · have HN := hideP (J1.out c1)
        go_wp2
        exact ⟨⟨k + 1, m, xs, by omega, by go_num, rfl, by omega, HN.out, S.out⟩, by simp [intOf]; omega⟩
      · have d1 : decide (t < m) = false := decide_eq_false c1
        by_cases c2 : T < f
        · have d2 : decide (T < f) = true := decide_eq_true c2
          have HN := hideP (J2.out c2)
          by_cases c3 : m ≤ T
          · have d3 : decide (m ≤ T) = true := decide_eq_true c3
            rw [if_pos c3] at HN
            go_wp2_with (at_builtin; refine wpList_append_own _ rfl _ _ 43 rfl w.heap.size 77 i0 (.agg #[.int .i64 0, .int .i64 0]) 2 16 Tryd.underlying43 hi hz0 hz1 hz2 rfl (by decide) _ _ _ rfl (S.out.row.alloc _) ⟨wr.heap.size, 0, none⟩ 1 1 [.int .i64 m, .int .i64 T] rfl rfl (cells_two _ _ _ _ rfl) (by simp [Value.oneCell']) (by unfold maxLen; omega) (by omega) (by have := S.out.below.size; rw [inew]; omega) ?_; intro v' w9 hown' hgrow _)
            go_ret
            have S9 := S.out.app m T hown' hgrow
            rw [HN.out] at S9
            exact ⟨_, rfl, S9.done (Below.refl _ _)⟩
          · have d3 : decide (m ≤ T) = false := decide_eq_false c3
            rw [if_neg c3, List.append_nil] at HN
            go_wp2
            go_ret
            have S9 := S.out
            rw [HN.out] at S9
            exact ⟨_, rfl, S9.done (Below.refl _ _)⟩
        · have d2 : decide (T < f) = false := decide_eq_false c2
          by_cases c3 : m < f
          · have d3 : decide (m < f) = true := decide_eq_true c3
            have HN := hideP (J3.out c1 c2 c3)
            go_wp2_with (at_builtin; refine wpList_append_own _ rfl _ _ 43 rfl w.heap.size 77 i0 (.agg #[.int .i64 0, .int .i64 0]) 2 16 Tryd.underlying43 hi hz0 hz1 hz2 rfl (by decide) _ _ _ rfl (S.out.row.alloc _) ⟨wr.heap.size, 0, none⟩ 1 1 [.int .i64 m, .int .i64 (f - 1)] rfl rfl (cells_two _ _ _ _ rfl) (by simp [Value.oneCell']) (by unfold maxLen; omega) (by omega) (by have := S.out.below.size; rw [inew]; omega) ?_; intro v' w9 hown' hgrow _; have S9 := hideP (S.out.app m (f - 1) hown' hgrow); have q2 := K3.out w9 S9.out.below; clear hown' hgrow)
            exact ⟨⟨k + 1, t + 1, xs ++ [(m, f - 1)], by omega, by go_num, rfl, by simp; omega, HN.out, S9.out⟩, by simp [intOf]; omega⟩
          · have d3 : decide (m < f) = false := decide_eq_false c3
            have HN := hideP (J4.out c1 c2 c3)
            go_wp2
            exact ⟨⟨k + 1, t + 1, xs, by omega, by go_num, rfl, by omega, HN.out, S.out⟩, by simp [intOf]; omega⟩
    · have hdn : l.drop k = [] := List.drop_of_length_le (by omega)
      have HF2 := HF.out
      rw [hdn, gapsFrom] at HF2
      have HF3 := hideP HF2
      clear HF2 hdn
      by_cases c3 : m ≤ T
      · have d3 : decide (m ≤ T) = true := decide_eq_true c3
        rw [if_pos c3] at HF3
        go_wp2_with (at_builtin; refine wpList_append_own _ rfl _ _ 43 rfl w.heap.size 77 i0 (.agg #[.int .i64 0, .int .i64 0]) 2 16 Tryd.underlying43 hi hz0 hz1 hz2 rfl (by decide) _ _ _ rfl (S.out.row.alloc _) ⟨wr.heap.size, 0, none⟩ 1 1 [.int .i64 m, .int .i64 T] rfl rfl (cells_two _ _ _ _ rfl) (by simp [Value.oneCell']) (by unfold maxLen; omega) (by omega) (by have := S.out.below.size; rw [inew]; omega) ?_; intro v' w9 hown' hgrow _)
        go_ret
        have S9 := S.out.app m T hown' hgrow
        rw [HF3.out] at S9
        exact ⟨_, rfl, S9.done (Below.refl _ _)⟩
      · have d3 : decide (m ≤ T) = false := decide_eq_false c3
        rw [if_neg c3, List.append_nil] at HF3
        go_wp2
        go_ret
        have S9 := S.out
        rw [HF3.out] at S9
        exact ⟨_, rfl, S9.done (Below.refl _ _)⟩
end Go.Proofs.YtcdcniniafejbaaDoor.ctr
