/- Contract of the program's FeastsOn: it answers, in a row of its own, the names of the feasts that the day is; nothing that was there turns. -/
import Derived.Test.YtckjcaloofjeoaaGreatDoorFeaOnCtr
namespace Go.Proofs.YtckjcaloofjeoaaGreatDoor.ctr
open Go.RowKit

set_option maxRecDepth 100000 in
set_option maxHeartbeats 2000000 in
theorem implFeastsOn (c n : Int) (w : World) (hT : Tab w) : Calls Tryz.prog 9 #[.int .i64 c, .int .i64 n] w fun e w' => ∃ v, e = .returned v ∧ w'.ownsRow w.heap.size 9 1 v (feastsOn c n).length ((feastsOn c n).map Value.string) ∧ Below w.heap.size w w' := by
  obtain ⟨i0, hi, hz0, hz1, hz2⟩ := info_parts info_str
  obtain ⟨a, y, m0, d0, ok, hD, hR⟩ := dateR_parts c n
  have KD := implDateOf c n w hT
  have HT := hideP hT
  have HF : Hid (feastsOn c n = if ok = true then onTo c y n 20 else []) := by unfold Hid feastsOn; rw [hD]
  rw [hR] at KD
  rw [HF.out]
  clear hD hR HF hT
  cases ok
  · have HE : Hid ((if false = true then onTo c y n 20 else []) = []) := rfl
    rw [HE.out]
    go_enter Tryz.func9, Tryz.ntmps9
    go_wp2_with fail
    refine KD.mono ?_
    rintro e W1 ⟨rfl, hb1⟩
    go_wp2
    go_ret
    exact ⟨_, rfl, World.ownsRow_nil _ _ _ _, hb1.alloc hb1.size _⟩
  have HE : Hid ((if true = true then onTo c y n 20 else []) = onTo c y n 20) := rfl
  rw [HE.out]
  go_enter Tryz.func9, Tryz.ntmps9
  go_wp2_with fail
  refine KD.mono ?_
  rintro e W1 ⟨rfl, hb1⟩
  have B1 := hideP hb1
  clear hb1 KD
  go_wp2_with fail
  refine (implFeasts _).mono ?_
  rintro e W2 ⟨v, rfl, hr, hb2⟩
  obtain ⟨g, cap, cur, rfl, hg, hf⟩ := hr.blk
  have S2 : Hid (OnSt w W1.heap.size g #[.int .i64 a, .int .i64 y, .int .i64 m0, .int .i64 d0] cur (.slice none 0 0) [] W2) :=
    ⟨World.ownsRow_nil _ _ _ _, (B1.out.alloc B1.out.size _).trans (hb2.mono (by have := B1.out.size; rw [sz_new]; omega)), (date_blk W1 a y m0 d0).below hb2 (by rw [sz_new]; omega), hf⟩
  clear hr hb2 hf hg B1
  go_wp2
  go_loopw [7, 20] (fun o i wr => ∃ k : Nat, k ≤ 20 ∧ i = .int .i64 (k : Int) ∧ OnSt w W1.heap.size g #[.int .i64 a, .int .i64 y, .int .i64 m0, .int .i64 d0] cur o (onTo c y n k) wr) (fun _ i _ => 20 - (intOf i).toNat)
  case atStart => exact ⟨0, Nat.zero_le _, rfl, S2.out⟩
  case round =>
    obtain ⟨k, hk, rfl, hS⟩ := hrel
    have S := hideP hS
    clear hS S2
    by_cases hlt : k < 20
    · obtain ⟨c0, c1, c2, c3, c4⟩ := S.out.fea.at hlt
      have hsz := feaAt_size0 ⟨k, hlt⟩
      dsimp only at hsz
      have H1 := hideP (fun h => onTo_hit (c := c) (y := y) (n := n) hlt h)
      have H2 := hideP (fun h => onTo_miss (c := c) (y := y) (n := n) hlt h)
      have hlen := onTo_len c y n k hk
      generalize feaAt k = f at *
      obtain ⟨s, mv, o, m, d⟩ := f
      dsimp only at c0 c1 c2 c3 c4 hsz
      obtain ⟨V, hV, b0, b1, b2, b3, b4, hVl⟩ := fea_box wr s mv o m d 25
      have KF : ∀ x : Later V, Calls Tryz.prog 7 #[.int .i64 c, .int .i64 y, .agg #[.string s, .bool mv, .int .i64 o, .int .i64 m, .int .i64 d]] x.w fun e w' => e = .returned (.int .i64 (Fea.day ⟨s, mv, o, m, d⟩ c y)) ∧ Below x.w.heap.size x.w w' := fun x => implFeaDay c y s mv o m d x.w (by unfold maxLen; omega) (HT.out.later (S.out.later (hVl x)).below)
      obtain ⟨x0, hx0⟩ := Later.of (Below.refl V.heap.size V)
      have KF0 := KF x0
      rw [← hx0] at KF0
      have q0 : (V.cell? ⟨W1.heap.size, 1, none⟩ = some (.int .i64 y)) := by rw [hx0]; exact (S.out.later (hVl x0)).date.cell 1 rfl
      have HV := hideP hV
      have HVl := hideP hVl
      clear hV hVl hx0 x0 KF
      have q0' : (wr.alloc (.cells #[.string s, .bool mv, .int .i64 o, .int .i64 m, .int .i64 d] 25)).cell? ⟨W1.heap.size, 1, none⟩ = some (.int .i64 y) := by rw [← HV.out]; exact q0
      generalize Fea.day ⟨s, mv, o, m, d⟩ c y = day at *
      by_cases hday : day = n
      · subst hday
        have HN := hideP (H1.out rfl)
        clear H1 H2
        go_wp2_with fail
        rw [← HV.out]
        refine KF0.mono ?_
        rintro e w1 ⟨rfl, hb⟩
        obtain ⟨x, rfl⟩ := Later.of hb
        have Sx := hideP (S.out.later (HVl.out x))
        clear hb
        go_wp2_with (at_builtin; refine wpList_append_own _ rfl _ _ 32 rfl w.heap.size 9 i0 (.string ⟨#[]⟩) 1 16 Tryz.underlying32 hi hz0 hz1 hz2 rfl (by decide) _ _ _ rfl (Sx.out.row.alloc _) ⟨x.w.heap.size, 0, none⟩ 1 1 [.string s] rfl rfl (cell_one_new _ _ _) (by simp [Value.oneCell']) (by unfold maxLen; omega) (by omega) (by have := Sx.out.below.size; rw [sz_new]; omega) ?_; intro v' w1 hown' hgrow _)
        refine ⟨⟨k + 1, by omega, by go_num, ?_⟩, by simp [intOf]; omega⟩
        rw [HN.out]
        exact Sx.out.app s hown' hgrow
      · have hd' : (day == n) = false := by simp [hday]
        have HN := hideP (H2.out hday)
        clear H1 H2
        go_wp2_with fail
        rw [← HV.out]
        refine KF0.mono ?_
        rintro e w1 ⟨rfl, hb⟩
        obtain ⟨x, rfl⟩ := Later.of hb
        clear hb
        go_wp2
        refine ⟨⟨k + 1, by omega, by go_num, ?_⟩, by simp [intOf]; omega⟩
        rw [HN.out]
        exact S.out.later (HVl.out x)
    · have hkn : k = 20 := by omega
      subst hkn
      go_wp2
      go_ret
      exact ⟨_, rfl, S.out.row, S.out.below⟩
end Go.Proofs.YtckjcaloofjeoaaGreatDoor.ctr
