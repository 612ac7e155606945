/- Contracts of both ReignDays: each answers, in a row of its own, the days of a reign whose year is told; nothing that was there turns. -/
import Derived.Test.YtcdcniniafejbaaDoorRgnYear2
import Derived.Test.YtcdcniniafejbaaDoorStySol
import Derived.PlainAid
namespace Go.Proofs.YtcdcniniafejbaaDoor.ctr
open Go.RowKit

/-- The days of the first j of a reign whose year is k. -/
noncomputable def rdTo (c s ru f t k : Int) : Nat → List Int
  | 0 => []
  | j + 1 => rdTo c s ru f t k j ++ (if reignYear c s ru f t (f + j) = k then [f + (j : Int)] else [])
noncomputable def reignDays (c s ru f t k : Int) : List Int := if 1 ≤ k ∧ endsB f t = true ∧ t - f < 4000 then rdTo c s ru f t k (t - f + 1).toNat else []
theorem rd_no {c s ru f t k : Int} (h : ¬ (1 ≤ k ∧ endsB f t = true ∧ t - f < 4000)) : reignDays c s ru f t k = [] := by unfold reignDays; rw [if_neg h]
theorem rd_yes {c s ru f t k : Int} (h : 1 ≤ k ∧ endsB f t = true ∧ t - f < 4000) : reignDays c s ru f t k = rdTo c s ru f t k (t - f + 1).toNat := by unfold reignDays; rw [if_pos h]
theorem rdTo_len (c s ru f t k : Int) : ∀ j : Nat, (rdTo c s ru f t k j).length ≤ j
  | 0 => Nat.le_refl _
  | j + 1 => by
    have := rdTo_len c s ru f t k j
    rw [rdTo, List.length_append]
    split <;> simp <;> omega
theorem rdTo_hit {c s ru f t k : Int} {j : Nat} (h : reignYear c s ru f t (f + j) = k) : rdTo c s ru f t k (j + 1) = rdTo c s ru f t k j ++ [f + (j : Int)] := by rw [rdTo, if_pos h]
theorem rdTo_miss {c s ru f t k : Int} {j : Nat} (h : ¬ reignYear c s ru f t (f + j) = k) : rdTo c s ru f t k (j + 1) = rdTo c s ru f t k j := by rw [rdTo, if_neg h, List.append_nil]
theorem rd_len (c s ru f t k : Int) : (reignDays c s ru f t k).length ≤ 4000 := by
  by_cases h : 1 ≤ k ∧ endsB f t = true ∧ t - f < 4000
  · rw [rd_yes h]
    have := rdTo_len c s ru f t k (t - f + 1).toNat
    omega
  · rw [rd_no h]; simp
theorem own_mono1 {w : World} {b b' e size : Nat} {v : Value} {n : Nat} {xs : List Value} (h : w.ownsRow b e size v n xs) (hb : b' ≤ b) : w.ownsRow b' e size v n xs := by
  obtain ⟨h1, h | ⟨g, cap, cur, hv, hg, hr⟩⟩ := h
  · exact ⟨h1, .inl h⟩
  · exact ⟨h1, .inr ⟨g, cap, cur, hv, Nat.le_trans hb hg, hr⟩⟩
theorem ISt.done {w w0 W : World} {o : Value} {xs : List Int} (h : ISt w o xs W) (hb : Below w0.heap.size w0 w) : MovRow w0 W o xs ∧ Below w0.heap.size w0 W :=
  ⟨own_ints (e := 3) (own_mono1 h.row hb.size), hb.trans (h.below.mono hb.size)⟩

set_option maxRecDepth 100000 in
set_option maxHeartbeats 4000000 in
theorem implReignDays (c s ru : Int) (nm : ByteArray) (f t k : Int) (w : World) (hT : Tab w) : Calls Tryd.prog 19 #[.int .i64 c, .int .i64 s, .int .i64 ru, .agg #[.string nm, .int .i64 f, .int .i64 t], .int .i64 k] w fun e w' => ∃ v, e = .returned v ∧ MovRow w w' v (reignDays c s ru f t k) ∧ Below w.heap.size w w' := by
  obtain ⟨i0, hi, hz0, hz1, hz2⟩ := info_parts info_int
  obtain ⟨W0, hW0, c0, c1, c2, hBl⟩ := rgn_box w nm f t 33
  have KE : ∀ x : Later W0, Calls Tryd.prog 47 #[.agg #[.string nm, .int .i64 f, .int .i64 t]] x.w fun e w' => e = .returned (.bool (endsB f t)) ∧ Below x.w.heap.size x.w w' := fun x => implEnds nm f t x.w (hT.later (hBl x))
  have KYh : Hid (∀ n (x : Later W0), Calls Tryd.prog 17 #[.int .i64 c, .int .i64 s, .int .i64 ru, .agg #[.string nm, .int .i64 f, .int .i64 t], .int .i64 n] x.w fun e w' => e = .returned (.int .i64 (reignYear c s ru f t n)) ∧ Below x.w.heap.size x.w w') := fun n x => implReignYear c s ru nm f t n x.w (hT.later (hBl x))
  have HW0 := hideP hW0
  have HB0 : Hid (Below w.heap.size w W0) := hBl ⟨W0, Below.refl _ _⟩
  have HBl := hideP hBl
  clear hW0 hBl hT
  by_cases hk : 1 ≤ k
  case neg =>
    rw [rd_no (fun h => hk h.1)]
    have hd : decide (k < 1) = true := decide_eq_true (by omega)
    go_enter Tryd.func19, Tryd.ntmps19
    go_wp2
    go_ret
    exact ⟨_, rfl, movRow_nil _ _, by have := HB0.out; rw [HW0.out] at this; exact this⟩
  have hd : decide (k < 1) = false := decide_eq_false (by omega)
  cases he : endsB f t
  · rw [rd_no (fun h => by rw [he] at h; cases h.2.1)]
    simp only [he] at KE
    clear he
    go_enter Tryd.func19, Tryd.ntmps19
    go_wp2_with fail
    rw [← HW0.out]
    refine (KE ⟨W0, Below.refl _ _⟩).mono ?_
    rintro e w1 ⟨rfl, hb⟩
    obtain ⟨x1, rfl⟩ := Later.of hb
    clear hb
    go_wp2
    go_ret
    exact ⟨_, rfl, movRow_nil _ _, HBl.out x1⟩
  have hfb := both_bound (n := f) (by unfold endsB at he; simp only [Bool.and_eq_true] at he; exact he.1)
  have htb := both_bound (n := t) (by unfold endsB at he; simp only [Bool.and_eq_true] at he; exact he.2)
  by_cases h4 : t - f < 4000
  case neg =>
    rw [rd_no (fun h => h4 h.2.2)]
    have hd4 : decide (4000 ≤ t - f) = true := decide_eq_true (by omega)
    simp only [he] at KE
    clear he
    go_enter Tryd.func19, Tryd.ntmps19
    go_wp2_with fail
    rw [← HW0.out]
    refine (KE ⟨W0, Below.refl _ _⟩).mono ?_
    rintro e w1 ⟨rfl, hb⟩
    obtain ⟨x1, rfl⟩ := Later.of hb
    clear hb
    go_wp2
    go_ret
    exact ⟨_, rfl, movRow_nil _ _, HBl.out x1⟩
  rw [rd_yes ⟨hk, he, h4⟩]
  have hd4 : decide (4000 ≤ t - f) = false := decide_eq_false (by omega)
  simp only [he] at KE
  clear he
  go_enter Tryd.func19, Tryd.ntmps19
  go_wp2_with fail
  rw [← HW0.out]
  refine (KE ⟨W0, Below.refl _ _⟩).mono ?_
  rintro e w1 ⟨rfl, hb⟩
  obtain ⟨x1, rfl⟩ := Later.of hb
  clear hb
  go_wp2_with fail
  have SS : Hid (ISt W0 (.slice none 0 0) [] x1.w) := (ISt.nil W0).later x1.below
  go_loopw [11, 12] (fun o i wr => ∃ j : Nat, j ≤ (t - f + 1).toNat ∧ i = .int .i64 (f + (j : Int)) ∧ ISt W0 o (rdTo c s ru f t k j) wr) (fun _ i _ => (t - intOf i + 1).toNat)
  case atStart => exact ⟨0, Nat.zero_le _, by simp, SS.out⟩
  case round =>
    obtain ⟨j, hj, rfl, hS⟩ := hrel
    have S := hideP hS
    clear hS SS
    have d0 := c0 ⟨wr, S.out.below⟩
    have d1 := c1 ⟨wr, S.out.below⟩
    have d2 := c2 ⟨wr, S.out.below⟩
    dsimp only at d0 d1 d2
    by_cases hlt : f + (j : Int) ≤ t
    · have hl := rdTo_len c s ru f t k j
      have KY := KYh.out (f + (j : Int)) ⟨wr, S.out.below⟩
      dsimp only at KY
      have H1 := hideP (rdTo_hit (c := c) (s := s) (ru := ru) (f := f) (t := t) (k := k) (j := j))
      have H0 := hideP (rdTo_miss (c := c) (s := s) (ru := ru) (f := f) (t := t) (k := k) (j := j))
      generalize reignYear c s ru f t (f + (j : Int)) = y at *
      generalize rdTo c s ru f t k j = xs at *
      go_wp2_with fail
      refine KY.mono ?_
      rintro e W2 ⟨rfl, hb⟩
      have S2 := hideP (S.out.later hb)
      clear hb d0 d1 d2
      by_cases hy : y = k
      · have HN := hideP (H1.out hy)
        subst hy
        go_wp2_with (at_builtin; refine wpList_append_own _ rfl _ _ 36 rfl W0.heap.size 3 i0 (.int .i64 0) 1 8 Tryd.underlying36 hi hz0 hz1 hz2 rfl (by decide) _ _ _ rfl (S2.out.row.alloc _) ⟨W2.heap.size, 0, none⟩ 1 1 [.int .i64 (f + (j : Int))] rfl rfl (cell_one_new _ _ _) (by simp [Value.oneCell']) (by unfold maxLen; omega) (by omega) (by have := S2.out.below.size; rw [inew]; omega) ?_; intro v' w9 hown' hgrow _)
        refine ⟨⟨j + 1, by omega, by apply congrArg (Value.int .i64); omega, ?_⟩, by simp [intOf]; omega⟩
        rw [HN.out]
        exact S2.out.app (f + (j : Int)) hown' hgrow
      · have HN := hideP (H0.out hy)
        have hy' : (y == k) = false := by simp [hy]
        go_wp2
        exact ⟨⟨j + 1, by omega, by apply congrArg (Value.int .i64); omega, by rw [HN.out]; exact S2.out⟩, by simp [intOf]; omega⟩
    · have hjn : j = (t - f + 1).toNat := by omega
      rw [hjn] at S
      go_wp2
      go_ret
      exact ⟨_, rfl, S.out.done HB0.out⟩

set_option maxRecDepth 100000 in
set_option maxHeartbeats 4000000 in
theorem specReignDays (c s ru : Int) (nm : ByteArray) (f t k : Int) (w : World) : Calls Tryd.prog 18 #[.int .i64 c, .int .i64 s, .int .i64 ru, .agg #[.string nm, .int .i64 f, .int .i64 t], .int .i64 k] w fun e w' => ∃ v, e = .returned v ∧ MovRow w w' v (reignDays c s ru f t k) ∧ Below w.heap.size w w' := by
  obtain ⟨i0, hi, hz0, hz1, hz2⟩ := info_parts info_int
  obtain ⟨W0, hW0, c0, c1, c2, hBl⟩ := rgn_box w nm f t 33
  have KF : ∀ x : Later W0, Calls Tryd.prog 34 #[.int .i64 f] x.w fun e w' => e = .returned (.bool (bothB f)) ∧ Below x.w.heap.size x.w w' := fun x => specDated f x.w
  have KU : ∀ x : Later W0, Calls Tryd.prog 34 #[.int .i64 t] x.w fun e w' => e = .returned (.bool (bothB t)) ∧ Below x.w.heap.size x.w w' := fun x => specDated t x.w
  have KYh : Hid (∀ n (x : Later W0), Calls Tryd.prog 15 #[.int .i64 c, .int .i64 s, .int .i64 ru, .agg #[.string nm, .int .i64 f, .int .i64 t], .int .i64 n] x.w fun e w' => e = .returned (.int .i64 (reignYear c s ru f t n)) ∧ Below x.w.heap.size x.w w') := fun n x => specReignYear c s ru nm f t n x.w
  have HW0 := hideP hW0
  have HB0 : Hid (Below w.heap.size w W0) := hBl ⟨W0, Below.refl _ _⟩
  have HBl := hideP hBl
  clear hW0 hBl
  have S0 : Hid (ISt W0 (.slice (some ⟨W0.heap.size, 0, none⟩) 0 0) [] (W0.alloc (.cells #[] 3))) := ⟨iown_empty W0 _, (Below.refl _ _).alloc (Nat.le_refl _) _⟩
  obtain ⟨xE, hxE⟩ : ∃ xE : Later W0, W0.alloc (.cells #[] 3) = xE.w := ⟨⟨_, S0.out.below⟩, rfl⟩
  have HxE := hideP hxE
  rw [hxE] at S0
  clear hxE
  have hsz : w.heap.size + 1 = W0.heap.size := by rw [HW0.out, World.size_alloc]
  have HSz := hideP hsz
  clear hsz
  by_cases hk : 1 ≤ k
  case neg =>
    rw [rd_no (fun h => hk h.1)]
    have hd : decide (k < 1) = true := decide_eq_true (by omega)
    have S0' : Hid (ISt W0 (.slice (some ⟨w.heap.size + 1, 0, none⟩) 0 0) [] ((w.alloc (.cells #[.string nm, .int .i64 f, .int .i64 t] 33)).alloc (.cells #[] 3))) := by
      have := S0.out
      rw [← HxE.out, ← HSz.out] at this
      rw [← HW0.out]
      exact this
    go_enter Tryd.func18, Tryd.ntmps18
    go_wp2
    go_ret
    exact ⟨_, rfl, S0'.out.done HB0.out⟩
  have hd : decide (k < 1) = false := decide_eq_false (by omega)
  cases hf : bothB f
  · rw [rd_no (fun h => by have := h.2.1; unfold endsB at this; rw [hf] at this; cases this)]
    simp only [hf] at KF
    clear hf
    go_enter Tryd.func18, Tryd.ntmps18
    go_wp2_with fail
    rw [← HW0.out, HxE.out]
    rw [HSz.out]
    refine (KF xE).mono ?_
    rintro e wq ⟨rfl, hb⟩
    have S1 := hideP (S0.out.later hb)
    obtain ⟨x1, rfl⟩ := xE.next hb
    clear hb
    go_wp2
    go_ret
    exact ⟨_, rfl, S1.out.done HB0.out⟩
  simp only [hf] at KF
  have hfb := both_bound hf
  cases ht : bothB t
  · rw [rd_no (fun h => by have := h.2.1; unfold endsB at this; rw [hf, ht] at this; cases this)]
    simp only [ht] at KU
    clear hf ht
    go_enter Tryd.func18, Tryd.ntmps18
    go_wp2_with fail
    rw [← HW0.out, HxE.out]
    rw [HSz.out]
    refine (KF xE).mono ?_
    rintro e wq ⟨rfl, hb⟩
    have S1 := hideP (S0.out.later hb)
    obtain ⟨x1, rfl⟩ := xE.next hb
    clear hb
    go_wp2_with fail
    refine (KU x1).mono ?_
    rintro e wq ⟨rfl, hb⟩
    have S2 := hideP (S1.out.later hb)
    obtain ⟨x2, rfl⟩ := x1.next hb
    clear hb
    go_wp2
    go_ret
    exact ⟨_, rfl, S2.out.done HB0.out⟩
  simp only [ht] at KU
  have htb := both_bound ht
  have he : endsB f t = true := by unfold endsB; rw [hf, ht]; rfl
  clear hf ht
  by_cases h4 : t - f < 4000
  case neg =>
    rw [rd_no (fun h => h4 h.2.2)]
    have hd4 : decide (4000 ≤ t - f) = true := decide_eq_true (by omega)
    clear he
    go_enter Tryd.func18, Tryd.ntmps18
    go_wp2_with fail
    rw [← HW0.out, HxE.out]
    rw [HSz.out]
    refine (KF xE).mono ?_
    rintro e wq ⟨rfl, hb⟩
    have S1 := hideP (S0.out.later hb)
    obtain ⟨x1, rfl⟩ := xE.next hb
    clear hb
    go_wp2_with fail
    refine (KU x1).mono ?_
    rintro e wq ⟨rfl, hb⟩
    have S2 := hideP (S1.out.later hb)
    obtain ⟨x2, rfl⟩ := x1.next hb
    clear hb
    go_wp2
    go_ret
    exact ⟨_, rfl, S2.out.done HB0.out⟩
  rw [rd_yes ⟨hk, he, h4⟩]
  have hd4 : decide (4000 ≤ t - f) = false := decide_eq_false (by omega)
  clear he
  go_enter Tryd.func18, Tryd.ntmps18
  go_wp2_with fail
  rw [← HW0.out, HxE.out]
  rw [HSz.out]
  refine (KF xE).mono ?_
  rintro e wq ⟨rfl, hb⟩
  have S1 := hideP (S0.out.later hb)
  obtain ⟨x1, rfl⟩ := xE.next hb
  clear hb
  go_wp2_with fail
  refine (KU x1).mono ?_
  rintro e wq ⟨rfl, hb⟩
  have S2 := hideP (S1.out.later hb)
  obtain ⟨x2, rfl⟩ := x1.next hb
  clear hb
  go_wp2_with fail
  have SS := S2
  go_loopw [11, 12] (fun o i wr => ∃ j : Nat, j ≤ (t - f + 1).toNat ∧ i = .int .i64 (f + (j : Int)) ∧ ISt W0 o (rdTo c s ru f t k j) wr) (fun _ i _ => (t - intOf i + 1).toNat)
  case atStart => exact ⟨0, Nat.zero_le _, by simp, SS.out⟩
  case round =>
    obtain ⟨j, hj, rfl, hS⟩ := hrel
    have S := hideP hS
    clear hS SS
    have d0 := c0 ⟨wr, S.out.below⟩
    have d1 := c1 ⟨wr, S.out.below⟩
    have d2 := c2 ⟨wr, S.out.below⟩
    dsimp only at d0 d1 d2
    by_cases hlt : f + (j : Int) ≤ t
    · have hl := rdTo_len c s ru f t k j
      have KY := KYh.out (f + (j : Int)) ⟨wr, S.out.below⟩
      dsimp only at KY
      have H1 := hideP (rdTo_hit (c := c) (s := s) (ru := ru) (f := f) (t := t) (k := k) (j := j))
      have H0 := hideP (rdTo_miss (c := c) (s := s) (ru := ru) (f := f) (t := t) (k := k) (j := j))
      generalize reignYear c s ru f t (f + (j : Int)) = y at *
      generalize rdTo c s ru f t k j = xs at *
      go_wp2_with fail
      refine KY.mono ?_
      rintro e W2 ⟨rfl, hb⟩
      have S2 := hideP (S.out.later hb)
      clear hb d0 d1 d2
      by_cases hy : y = k
      · have HN := hideP (H1.out hy)
        subst hy
        go_wp2_with (at_builtin; refine wpList_append_own _ rfl _ _ 36 rfl W0.heap.size 3 i0 (.int .i64 0) 1 8 Tryd.underlying36 hi hz0 hz1 hz2 rfl (by decide) _ _ _ rfl (S2.out.row.alloc _) ⟨W2.heap.size, 0, none⟩ 1 1 [.int .i64 (f + (j : Int))] rfl rfl (cell_one_new _ _ _) (by simp [Value.oneCell']) (by unfold maxLen; omega) (by omega) (by have := S2.out.below.size; rw [inew]; omega) ?_; intro v' w9 hown' hgrow _)
        refine ⟨⟨j + 1, by omega, by apply congrArg (Value.int .i64); omega, ?_⟩, by simp [intOf]; omega⟩
        rw [HN.out]
        exact S2.out.app (f + (j : Int)) hown' hgrow
      · have HN := hideP (H0.out hy)
        have hy' : (y == k) = false := by simp [hy]
        go_wp2
        exact ⟨⟨j + 1, by omega, by apply congrArg (Value.int .i64); omega, by rw [HN.out]; exact S2.out⟩, by simp [intOf]; omega⟩
    · have hjn : j = (t - f + 1).toNat := by omega
      rw [hjn] at S
      go_wp2
      go_ret
      exact ⟨_, rfl, S.out.done HB0.out⟩

end Go.Proofs.YtcdcniniafejbaaDoor.ctr
