/- Contracts of both EraDays: each answers, in a row of its own, the days whose number is told; nothing that was there turns. -/
import Derived.Test.YtifekkehbaegiaaGreatDoorEraYr
import Derived.Test.YtifekkehbaegiaaGreatDoorEraFind
import Derived.Test.YtifekkehbaegiaaGreatDoorStySol
import Derived.PlainAid
namespace Go.Proofs.YtifekkehbaegiaaGreatDoor.ctr
open Go.RowKit

theorem own_mono1 {w : World} {b b' e size : Nat} {v : Value} {n : Nat} {xs : List Value} (h : w.ownsRow b e size v n xs) (hb : b' ≤ b) : w.ownsRow b' e size v n xs := by
  obtain ⟨h1, h | ⟨g, cap, cur, hv, hg, hr⟩⟩ := h
  · exact ⟨h1, .inl h⟩
  · exact ⟨h1, .inr ⟨g, cap, cur, hv, Nat.le_trans hb hg, hr⟩⟩
theorem ISt.done {w w0 W : World} {o : Value} {xs : List Int} (h : ISt w o xs W) (hb : Below w0.heap.size w0 w) : MovRow w0 W o xs ∧ Below w0.heap.size w0 W :=
  ⟨own_ints (e := 3) (own_mono1 h.row hb.size), hb.trans (h.below.mono hb.size)⟩
theorem eraDays_all {c : Int} {s : ByteArray} {k f t : Int} (h : t - f < 800) : eraDays c s k f t = daysTo c s k f (t - f + 1).toNat := by
  by_cases hs : spanP f t
  · exact eraDays_in hs
  · rw [eraDays_out hs]
    unfold spanP at hs
    rw [show (t - f + 1).toNat = 0 by omega]
    rfl
theorem eraR_yr {c : Int} {s : ByteArray} {n : Int} : eraR c (eraOf s).name (eraOf s).st (eraOf s).add (eraOf s).cyc n = .tuple #[.int .i64 (yrOf c s n).1, .bool (yrOf c s n).2] := rfl
theorem eraOf_size (s : ByteArray) : (eraOf s).name.size ≤ 16 := by
  rcases find_cases s with h | ⟨k, hk, h, _⟩
  · rw [eraOf_no h]; decide
  · rw [eraOf_at h]; exact eraAt_size0 ⟨k, hk⟩

set_option maxRecDepth 100000 in
set_option maxHeartbeats 4000000 in
theorem specEraDays (c : Int) (s : ByteArray) (k f t : Int) (w : World) : Calls Tryz.prog 28 #[.int .i64 c, .string s, .int .i64 k, .int .i64 f, .int .i64 t] w fun e w' => ∃ v, e = .returned v ∧ MovRow w w' v (eraDays c s k f t) ∧ Below w.heap.size w w' := by
  obtain ⟨i0, hi, hz0, hz1, hz2⟩ := info_parts info_int
  have KF : ∀ W, Calls Tryz.prog 24 #[.string s] W fun e w' => e = .returned (.int .i64 (findEra s)) ∧ Below W.heap.size W w' := specFindEra s
  have K1 : ∀ W, Calls Tryz.prog 45 #[.int .i64 f, .int .i64 (-1000), .int .i64 1200000] W fun e w' => e = .returned (.bool (inB f (-1000) 1200000)) ∧ Below W.heap.size W w' := fun W => calls_below (l01In f (-1000) 1200000 W)
  have K2 : ∀ W, Calls Tryz.prog 45 #[.int .i64 t, .int .i64 (-1000), .int .i64 1200000] W fun e w' => e = .returned (.bool (inB t (-1000) 1200000)) ∧ Below W.heap.size W w' := fun W => calls_below (l01In t (-1000) 1200000 W)
  have S0 : Hid (ISt w (.slice (some ⟨w.heap.size, 0, none⟩) 0 0) [] (w.alloc (.cells #[] 3))) := ⟨iown_empty w _, (Below.refl _ _).alloc (Nat.le_refl _) _⟩
  rcases find_cases s with hf | ⟨q, hq, hf, hn⟩
  · rw [eraDays_no hf]
    rw [hf] at KF
    clear hf K1 K2
    go_enter Tryz.func28, Tryz.ntmps28
    go_wp2_with fail
    refine (KF _).mono ?_
    rintro e w1 ⟨rfl, hb⟩
    have S1 := hideP (S0.out.later hb)
    clear hb
    go_wp2
    go_ret
    exact ⟨_, rfl, S1.out.done (Below.refl _ _)⟩
  rw [hf] at KF
  clear hn
  by_cases hF : -1000 ≤ f ∧ f ≤ 1200000
  case neg =>
    simp only [inB_false (show f < -1000 ∨ 1200000 < f by omega)] at K1
    rw [eraDays_far (fun h => hF h.1)]
    clear hf K2 hF
    go_enter Tryz.func28, Tryz.ntmps28
    go_wp2_with fail
    refine (KF _).mono ?_
    rintro e w1 ⟨rfl, hb⟩
    have S1 := hideP (S0.out.later hb)
    clear hb
    go_wp2_with fail
    refine (K1 _).mono ?_
    rintro e w2 ⟨rfl, hb⟩
    have S2 := hideP (S1.out.later hb)
    clear hb
    go_wp2
    go_ret
    exact ⟨_, rfl, S2.out.done (Below.refl _ _)⟩
  simp only [inB_true hF.1 hF.2] at K1
  by_cases hG : -1000 ≤ t ∧ t ≤ 1200000
  case neg =>
    simp only [inB_false (show t < -1000 ∨ 1200000 < t by omega)] at K2
    rw [eraDays_far (fun h => hG h.2)]
    clear hf hF hG
    go_enter Tryz.func28, Tryz.ntmps28
    go_wp2_with fail
    refine (KF _).mono ?_
    rintro e w1 ⟨rfl, hb⟩
    have S1 := hideP (S0.out.later hb)
    clear hb
    go_wp2_with fail
    refine (K1 _).mono ?_
    rintro e w2 ⟨rfl, hb⟩
    have S2 := hideP (S1.out.later hb)
    clear hb
    go_wp2_with fail
    refine (K2 _).mono ?_
    rintro e w3 ⟨rfl, hb⟩
    have S3 := hideP (S2.out.later hb)
    clear hb
    go_wp2
    go_ret
    exact ⟨_, rfl, S3.out.done (Below.refl _ _)⟩
  simp only [inB_true hG.1 hG.2] at K2
  obtain ⟨f1, f2⟩ := hF
  obtain ⟨t1, t2⟩ := hG
  by_cases hD : t - f < 800
  case neg =>
    rw [eraDays_out (fun h => hD h.2)]
    have hd : decide (800 ≤ t - f) = true := decide_eq_true (by omega)
    clear hf
    go_enter Tryz.func28, Tryz.ntmps28
    go_wp2_with fail
    refine (KF _).mono ?_
    rintro e w1 ⟨rfl, hb⟩
    have S1 := hideP (S0.out.later hb)
    clear hb
    go_wp2_with fail
    refine (K1 _).mono ?_
    rintro e w2 ⟨rfl, hb⟩
    have S2 := hideP (S1.out.later hb)
    clear hb
    go_wp2_with fail
    refine (K2 _).mono ?_
    rintro e w3 ⟨rfl, hb⟩
    have S3 := hideP (S2.out.later hb)
    clear hb
    go_wp2
    go_ret
    exact ⟨_, rfl, S3.out.done (Below.refl _ _)⟩
  rw [eraDays_all hD]
  have KY : ∀ n W, Calls Tryz.prog 9 #[.int .i64 c, .agg #[.string (eraAt q).name, .int .i64 (eraAt q).st, .int .i64 (eraAt q).add, .int .i64 (eraAt q).cyc], .int .i64 n] W fun e w' => e = .returned (.tuple #[.int .i64 (yrOf c s n).1, .bool (yrOf c s n).2]) ∧ Below W.heap.size W w' := fun n W => by
    have h := specEraYear c (eraAt q).name (eraAt q).st (eraAt q).add (eraAt q).cyc n W (by have := eraAt_size0 ⟨q, hq⟩; unfold maxLen; dsimp only at this; omega)
    rw [← eraR_yr, eraOf_at hf]
    exact h
  have hd : decide (800 ≤ t - f) = false := decide_eq_false (by omega)
  have KYh := hideP KY
  clear hf KY
  go_enter Tryz.func28, Tryz.ntmps28
  go_wp2_with fail
  refine (KF _).mono ?_
  rintro e w1 ⟨rfl, hb⟩
  have S1 := hideP (S0.out.later hb)
  clear hb
  go_wp2_with fail
  refine (K1 _).mono ?_
  rintro e w2 ⟨rfl, hb⟩
  have S2 := hideP (S1.out.later hb)
  clear hb
  go_wp2_with fail
  refine (K2 _).mono ?_
  rintro e w3 ⟨rfl, hb⟩
  have S3 := hideP (S2.out.later hb)
  clear hb S0 S1 S2 KF K1 K2
  go_wp2_with fail
  go_loopw [11, 13] (fun o i wr => ∃ j : Nat, j ≤ (t - f + 1).toNat ∧ i = .int .i64 (f + (j : Int)) ∧ ISt w o (daysTo c s k f j) wr) (fun _ i _ => (t - intOf i + 1).toNat)
  case atStart => exact ⟨0, Nat.zero_le _, by simp, S3.out⟩
  case round =>
    obtain ⟨j, hj, rfl, hS⟩ := hrel
    have S := hideP hS
    clear hS S3
    by_cases hlt : f + (j : Int) ≤ t
    · have hl := daysTo_len c s k f j
      obtain ⟨y, b, hyr⟩ : ∃ y b, yrOf c s (f + (j : Int)) = (y, b) := ⟨_, _, rfl⟩
      have KY := KYh.out (f + (j : Int))
      rw [hyr] at KY
      have HH : Hid (hasB c s k (f + (j : Int)) = (b && decide (y = k))) := by unfold Hid hasB; rw [hyr]
      have H1 := hideP (daysTo_hit (c := c) (s := s) (k := k) (f := f) (j := j))
      have H0 := hideP (daysTo_miss (c := c) (s := s) (k := k) (f := f) (j := j))
      clear hyr
      generalize daysTo c s k f j = xs at *
      go_wp2_with fail
      refine (specEras _).mono ?_
      rintro e W1 ⟨v, rfl, hr, hb⟩
      obtain ⟨g, cap, rfl, hg, H⟩ := hr.row.at
      obtain ⟨d0, d1, d2, d3⟩ := H W1 (Below.refl _ _) q hq
      have S1 := hideP (S.out.later hb)
      clear hb hr H
      generalize eraAt q = er at *
      obtain ⟨nm, st, ad, cy⟩ := er
      dsimp only at d0 d1 d2 d3 KY
      go_wp2_with fail
      refine (KY _).mono ?_
      rintro e W2 ⟨rfl, hb⟩
      have S2 := hideP (S1.out.later hb)
      clear hb d0 d1 d2 d3
      cases b
      · have HN := hideP (H0.out (by rw [HH.out]; rfl))
        go_wp2
        exact ⟨⟨j + 1, by omega, by apply congrArg (Value.int .i64); omega, by rw [HN.out]; exact S2.out⟩, by simp [intOf]; omega⟩
      · by_cases hy : y = k
        · have HN := hideP (H1.out (by rw [HH.out, decide_eq_true hy]; rfl))
          subst hy
          go_wp2_with (at_builtin; refine wpList_append_own _ rfl _ _ 38 rfl w.heap.size 3 i0 (.int .i64 0) 1 8 Tryz.underlying38 hi hz0 hz1 hz2 rfl (by decide) _ _ _ rfl (S2.out.row.alloc _) ⟨W2.heap.size, 0, none⟩ 1 1 [.int .i64 (f + (j : Int))] rfl rfl (cell_one_new _ _ _) (by simp [Value.oneCell']) (by unfold maxLen; omega) (by omega) (by have := S2.out.below.size; rw [inew]; omega) ?_; intro v' w9 hown' hgrow _)
          refine ⟨⟨j + 1, by omega, by apply congrArg (Value.int .i64); omega, ?_⟩, by simp [intOf]; omega⟩
          rw [HN.out]
          exact S2.out.app (f + (j : Int)) hown' hgrow
        · have HN := hideP (H0.out (by rw [HH.out, decide_eq_false hy]; rfl))
          have hy' : (y == k) = false := by simp [hy]
          go_wp2
          exact ⟨⟨j + 1, by omega, by apply congrArg (Value.int .i64); omega, by rw [HN.out]; exact S2.out⟩, by simp [intOf]; omega⟩
    · have hjn : j = (t - f + 1).toNat := by omega
      rw [hjn] at S
      go_wp2
      go_ret
      exact ⟨_, rfl, S.out.done (Below.refl _ _)⟩

theorem u64_apart {f t : Int} (h : f ≤ t) (hf : -9223372036854775808 ≤ f) (ht : t ≤ 9223372036854775807) : IntKind.u64.wrap (IntKind.u64.wrap t - IntKind.u64.wrap f) = t - f := by
  have e : ∀ x : Int, IntKind.u64.wrap x = x % 18446744073709551616 := fun x => by simp [IntKind.wrap, IntKind.signed, IntKind.bits]
  rw [e, e, e]
  omega

theorem field0 (nm : ByteArray) (st ad cy x : Int) (W : World) : (Instr.field 71 (.agg #[.string nm, .int .i64 st, .int .i64 ad, .int .i64 cy, .int .i64 x]) 0).run Tryz.prog W = .ok (.agg #[.string nm, .int .i64 st, .int .i64 ad, .int .i64 cy]) W := by kernel_rfl
set_option maxRecDepth 100000 in
set_option maxHeartbeats 4000000 in
theorem implEraDays (c : Int) (s : ByteArray) (k f t : Int) (w : World) (hT : Tab w) (hf : -9223372036854775808 ≤ f) (ht : t ≤ 9223372036854775807) : Calls Tryz.prog 16 #[.int .i64 c, .string s, .int .i64 k, .int .i64 f, .int .i64 t] w fun e w' => ∃ v, e = .returned v ∧ MovRow w w' v (eraDays c s k f t) ∧ Below w.heap.size w w' := by
  obtain ⟨i0, hi, hz0, hz1, hz2⟩ := info_parts info_int
  by_cases h1 : f ≤ t
  case neg =>
    rw [eraDays_out (fun h => h1 h.1)]
    go_enter Tryz.func16, Tryz.ntmps16
    go_wp2
    go_ret
    exact ⟨_, rfl, movRow_nil _ _, Below.refl _ _⟩
  have hu := u64_apart h1 hf ht
  by_cases h2 : t - f < 800
  case neg =>
    rw [eraDays_out (fun h => h2 h.2)]
    go_enter Tryz.func16, Tryz.ntmps16
    go_wp2
    go_ret
    exact ⟨_, rfl, movRow_nil _ _, Below.refl _ _⟩
  rw [eraDays_all h2]
  have KY : ∀ n W, Tab W → Calls Tryz.prog 8 #[.int .i64 c, .agg #[.string (eraOf s).name, .int .i64 (eraOf s).st, .int .i64 (eraOf s).add, .int .i64 (eraOf s).cyc], .int .i64 n] W fun e w' => e = .returned (.tuple #[.int .i64 (yrOf c s n).1, .bool (yrOf c s n).2]) ∧ Below W.heap.size W w' := fun n W hTW => by
    rw [← eraR_yr]
    exact implEraYear c (eraOf s).name (eraOf s).st (eraOf s).add (eraOf s).cyc n W (by have := eraOf_size s; unfold maxLen; omega) hTW
  have KYh := hideP KY
  have HT := hideP hT
  clear KY hT
  go_enter Tryz.func16, Tryz.ntmps16
  go_wp2_with fail
  refine (implMap _).mono ?_
  rintro e W1 ⟨M, rfl, hM, hg, hb⟩
  have HB1 := hideP hb
  clear hb
  have hlook : (Instr.lookup 72 (.map (some M)) (.string s) false).run Tryz.prog W1 = .ok (placed (eraOf s) (findEra s).toNat) W1 := by
    rcases run_look W1 M hM s with ⟨hf, hr⟩ | ⟨q, hq, hf, hn, hr⟩
    · have := hr false
      rw [this, eraOf_no hf, hf]
      rfl
    · have := hr false
      rw [this, eraOf_at hf, hf]
      rfl
  clear hM
  unfold placed at hlook
  generalize (((findEra s).toNat : Nat) : Int) = at0 at *
  generalize eraOf s = er at *
  obtain ⟨nm, st, ad, cy⟩ := er
  dsimp only at hlook KYh
  have hfld := field0 nm st ad cy at0
  go_wp2_with fail
  obtain ⟨Wb, hWb⟩ : ∃ Wb, Wb = W1.alloc (.cells #[.string nm, .int .i64 st, .int .i64 ad, .int .i64 cy] 25) := ⟨_, rfl⟩
  have HE : Hid (∀ W, Below Wb.heap.size Wb W → Blk W W1.heap.size #[.string nm, .int .i64 st, .int .i64 ad, .int .i64 cy] 25) := fun W h => by
    rw [hWb] at h
    exact (Blk.new W1 _ _).below h (by rw [inew]; omega)
  have HBb : Hid (Below w.heap.size w Wb) := by unfold Hid; rw [hWb]; exact HB1.out.alloc HB1.out.size _
  rw [← hWb]
  clear hWb hlook hu
  go_loopw [12, 36] (fun o i wr => ∃ j : Nat, j ≤ (t - f + 1).toNat ∧ i = .int .i64 (j : Int) ∧ ISt Wb o (daysTo c s k f j) wr) (fun _ i _ => (t - f + 1).toNat - (intOf i).toNat)
  case atStart => exact ⟨0, Nat.zero_le _, rfl, ISt.nil Wb⟩
  case round =>
    obtain ⟨j, hj, rfl, hS⟩ := hrel
    have S := hideP hS
    clear hS
    by_cases hlt : (j : Int) < t - f + 1
    · have hl := daysTo_len c s k f j
      obtain ⟨y, b, hyr⟩ : ∃ y b, yrOf c s (f + (j : Int)) = (y, b) := ⟨_, _, rfl⟩
      have KY := KYh.out (f + (j : Int)) wr (HT.out.later (HBb.out.trans (S.out.below.mono HBb.out.size)))
      rw [hyr] at KY
      have HH : Hid (hasB c s k (f + (j : Int)) = (b && decide (y = k))) := by unfold Hid hasB; rw [hyr]
      have H1 := hideP (daysTo_hit (c := c) (s := s) (k := k) (f := f) (j := j))
      have H0 := hideP (daysTo_miss (c := c) (s := s) (k := k) (f := f) (j := j))
      have hE := HE.out wr S.out.below
      have d0 := hE.cell 0 rfl
      have d1 := hE.cell 1 rfl
      have d2 := hE.cell 2 rfl
      have d3 := hE.cell 3 rfl
      clear hyr hE
      generalize daysTo c s k f j = xs at *
      go_wp2_with fail
      refine KY.mono ?_
      rintro e W2 ⟨rfl, hb⟩
      have S2 := hideP (S.out.later hb)
      clear hb d0 d1 d2 d3
      cases b
      · have HN := hideP (H0.out (by rw [HH.out]; rfl))
        go_wp2
        exact ⟨⟨j + 1, by omega, by go_num, by rw [HN.out]; exact S2.out⟩, by simp [intOf]; omega⟩
      · by_cases hy : y = k
        · have HN := hideP (H1.out (by rw [HH.out, decide_eq_true hy]; rfl))
          subst hy
          go_wp2_with (at_builtin; refine wpList_append_own _ rfl _ _ 38 rfl Wb.heap.size 3 i0 (.int .i64 0) 1 8 Tryz.underlying38 hi hz0 hz1 hz2 rfl (by decide) _ _ _ rfl (S2.out.row.alloc _) ⟨W2.heap.size, 0, none⟩ 1 1 [.int .i64 (f + (j : Int))] rfl rfl (cell_one_new _ _ _) (by simp [Value.oneCell']) (by unfold maxLen; omega) (by omega) (by have := S2.out.below.size; rw [inew]; omega) ?_; intro v' w9 hown' hgrow _)
          refine ⟨⟨j + 1, by omega, by go_num, ?_⟩, by simp [intOf]; omega⟩
          rw [HN.out]
          exact S2.out.app (f + (j : Int)) hown' hgrow
        · have HN := hideP (H0.out (by rw [HH.out, decide_eq_false hy]; rfl))
          have hy' : (y == k) = false := by simp [hy]
          go_wp2
          exact ⟨⟨j + 1, by omega, by go_num, by rw [HN.out]; exact S2.out⟩, by simp [intOf]; omega⟩
    · have hjn : j = (t - f + 1).toNat := by omega
      rw [hjn] at S
      go_wp2
      go_ret
      exact ⟨_, rfl, S.out.done HBb.out⟩
end Go.Proofs.YtifekkehbaegiaaGreatDoor.ctr
