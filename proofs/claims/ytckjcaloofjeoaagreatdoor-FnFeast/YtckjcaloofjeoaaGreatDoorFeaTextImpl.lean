/- Contract of the program's FeastText: it answers its plain function at every argument, where the tables of months and of powers of ten hold their numbers. -/
import Derived.Test.YtckjcaloofjeoaaGreatDoorFeaTextCtr
import Derived.Test.YtckjcaloofjeoaaGreatDoorDecImpl
namespace Go.Proofs.YtckjcaloofjeoaaGreatDoor.ctr
open Go.RowKit

abbrev Pow (w : World) : Prop := Lib.TabIs Tryz.prog w "internal/strconv.uint64pow10" .u64 Lib.pow10Tab
theorem pow_later {w w1 : World} (h : Pow w) (hb : Below w.heap.size w w1) : Pow w1 := kit.tab_below h hb (g := 2) (by kernel_rfl)

set_option maxHeartbeats 1000000 in
theorem implPlus (b : ByteArray) (k : Int) (w : World) (hb : b.size ≤ 16) (h0 : 0 ≤ k) (h9 : k ≤ 99) (hP : Pow w) : Calls Tryz.prog 41 #[.string b, .int .i64 k] w fun e w' => e = .returned (.string (plusText b k)) ∧ Below w.heap.size w w' := by
  unfold plusText
  by_cases hk : k = 0
  · subst hk
    rw [if_pos rfl]
    go_enter Tryz.func41, Tryz.ntmps41
    go_wp2
    go_ret
    exact ⟨rfl, Below.refl _ _⟩
  · have hk' : (k == 0) = false := by simp [hk]
    rw [if_neg hk]
    have KI := implDecText k w (by omega) (by omega) hP
    have hsz2 : (b ++ (⟨#[43]⟩ : ByteArray)).size ≤ 17 := by rw [ByteArray.size_append]; show b.size + 1 ≤ 17; omega
    have hsz3 : (⟨(Lib.itoa k).toArray⟩ : ByteArray).size ≤ 2 := itoa_short h0 h9
    clear hP
    go_enter Tryz.func41, Tryz.ntmps41
    go_wp2_with fail
    refine KI.mono ?_
    rintro e w1 ⟨rfl, hb1⟩
    go_wp2
    go_ret
    exact ⟨rfl, hb1⟩

set_option maxRecDepth 100000 in
set_option maxHeartbeats 4000000 in
theorem implLast (c y n : Int) (mv : Bool) (w : World) (hT : Tab w) : Calls Tryz.prog 40 #[.int .i64 c, .int .i64 y, .int .i64 n, .bool mv] w fun e w' => e = .returned (.tuple #[.string (lastTo c y n mv 20).1, .int .i64 (lastTo c y n mv 20).2]) ∧ Below w.heap.size w w' := by
  have HT := hideP hT
  clear hT
  obtain ⟨R1, R2, hRR⟩ : ∃ R1 R2, lastTo c y n mv 20 = (R1, R2) := ⟨_, _, rfl⟩
  rw [hRR]
  have HRR := hideP hRR
  clear hRR
  go_enter Tryz.func40, Tryz.ntmps40
  go_wp2_with fail
  refine (implFeasts _).mono ?_
  rintro e W2 ⟨v, rfl, hr, hb2⟩
  obtain ⟨g, cap, cur, rfl, hg, hf⟩ := hr.blk
  have HB2 := hideP hb2
  have HF2 := hideP hf
  clear hr hb2 hf hg
  go_wp2
  go_loopw [10, 11, 17] (fun o p i wr => ∃ (k : Nat) (b : ByteArray) (t : Int), k ≤ 20 ∧ i = .int .i64 (k : Int) ∧ o = .string b ∧ p = .int .i64 t ∧ Hid (lastTo c y n mv k = (b, t)) ∧ Below W2.heap.size W2 wr) (fun _ _ i _ => 20 - (intOf i).toNat)
  case atStart => exact ⟨0, _, _, Nat.zero_le _, rfl, rfl, rfl, rfl, Below.refl _ _⟩
  case round =>
    obtain ⟨k, b, t, hk, rfl, rfl, rfl, HL, hS⟩ := hrel
    have S := hideP hS
    clear hS
    have hlb := last_b c y n mv k hk
    rw [HL.out] at hlb
    simp only at hlb
    obtain ⟨hl1, hl2, hl3⟩ := hlb
    by_cases hlt : k < 20
    · obtain ⟨c0, c1, c2, c3, c4⟩ := (HF2.out.below S.out).at hlt
      have hsz := feaAt_size0 ⟨k, hlt⟩
      dsimp only at hsz
      have HN : Hid (lastTo c y n mv (k + 1) = lastStep c y n mv (b, t) (feaAt k)) := by unfold Hid; rw [lastTo_succ _ _ _ _ _ hlt, HL.out]
      generalize feaAt k = f at *
      obtain ⟨s, fm, o, m, d⟩ := f
      dsimp only at c0 c1 c2 c3 c4 hsz
      obtain ⟨V, hV, b0, b1, b2, b3, b4, hVl⟩ := fea_box wr s fm o m d 25
      have fin : ∀ x : Later V, Below W2.heap.size W2 x.w := fun x => S.out.trans ((hVl x).mono S.out.size)
      have KF : ∀ x : Later V, Calls Tryz.prog 7 #[.int .i64 c, .int .i64 y, .agg #[.string s, .bool fm, .int .i64 o, .int .i64 m, .int .i64 d]] x.w fun e w' => e = .returned (.int .i64 (Fea.day ⟨s, fm, o, m, d⟩ c y)) ∧ Below x.w.heap.size x.w w' := fun x => implFeaDay c y s fm o m d x.w (by unfold maxLen; omega) (HT.out.later (HB2.out.trans ((fin x).mono HB2.out.size)))
      obtain ⟨x0, hx0⟩ := Later.of (Below.refl V.heap.size V)
      have KF0 := KF x0
      rw [← hx0] at KF0
      have HV := hideP hV
      have FIN := hideP fin
      clear hV hVl hx0 x0 KF fin S
      have Y := hideP (step_yes (c := c) (y := y) (n := n) (mv := mv) (b := b) (t := t) (f := ⟨s, fm, o, m, d⟩))
      have N := hideP (step_no (c := c) (y := y) (n := n) (mv := mv) (b := b) (t := t) (f := ⟨s, fm, o, m, d⟩))
      have hdb := Fea.day_b ⟨s, fm, o, m, d⟩ c y
      generalize hfd : Fea.day ⟨s, fm, o, m, d⟩ c y = day at *
      have HFD := hideP hfd
      clear hfd
      have HX : Hid ((fm = mv ∧ day ≤ n ∧ (b.size = 0 ∨ t < day) → lastTo c y n mv (k + 1) = (s, day)) ∧ ((fm ≠ mv ∨ n < day ∨ (b.size ≠ 0 ∧ day ≤ t)) → lastTo c y n mv (k + 1) = (b, t))) :=
        ⟨fun h => HN.out.trans (Y.out h.1 h.2.1 h.2.2), fun h => HN.out.trans (N.out h)⟩
      clear HN Y N HL HFD
      by_cases hq : fm = mv
      · have hq' : (fm == mv) = true := by simp [hq]
        have hq2 : (fm != mv) = false := by simp [hq]
        by_cases h1 : day ≤ n
        · by_cases h2 : b.size = 0
          · have h2' := empty_yes h2
            have HH := hideP (HX.out.1 ⟨hq, h1, .inl h2⟩)
            clear HX hq
            go_wp2_with fail
            rw [← HV.out]
            refine KF0.mono ?_
            rintro e w1 ⟨rfl, hb⟩
            obtain ⟨x, rfl⟩ := Later.of hb
            clear hb
            go_wp2
            exact ⟨⟨k + 1, s, day, by omega, by go_num, rfl, rfl, HH.out, FIN.out x⟩, by simp [intOf]; omega⟩
          · have h2' := empty_no h2
            by_cases h3 : t < day
            · have HH := hideP (HX.out.1 ⟨hq, h1, .inr h3⟩)
              clear HX hq
              go_wp2_with fail
              rw [← HV.out]
              refine KF0.mono ?_
              rintro e w1 ⟨rfl, hb⟩
              obtain ⟨x, rfl⟩ := Later.of hb
              clear hb
              go_wp2
              exact ⟨⟨k + 1, s, day, by omega, by go_num, rfl, rfl, HH.out, FIN.out x⟩, by simp [intOf]; omega⟩
            · have HH := hideP (HX.out.2 (.inr (.inr ⟨h2, by omega⟩)))
              clear HX hq
              go_wp2_with fail
              rw [← HV.out]
              refine KF0.mono ?_
              rintro e w1 ⟨rfl, hb⟩
              obtain ⟨x, rfl⟩ := Later.of hb
              clear hb
              go_wp2
              exact ⟨⟨k + 1, b, t, by omega, by go_num, rfl, rfl, HH.out, FIN.out x⟩, by simp [intOf]; omega⟩
        · have HH := hideP (HX.out.2 (.inr (.inl (by omega))))
          clear HX hq
          go_wp2_with fail
          rw [← HV.out]
          refine KF0.mono ?_
          rintro e w1 ⟨rfl, hb⟩
          obtain ⟨x, rfl⟩ := Later.of hb
          clear hb
          go_wp2
          exact ⟨⟨k + 1, b, t, by omega, by go_num, rfl, rfl, HH.out, FIN.out x⟩, by simp [intOf]; omega⟩
      · have hq' : (fm == mv) = false := by simp [hq]
        have hq2 : (fm != mv) = true := by simp [hq]
        have HH := hideP (HX.out.2 (.inl hq))
        clear HX hq
        go_wp2_with fail
        rw [← HV.out]
        refine KF0.mono ?_
        rintro e w1 ⟨rfl, hb⟩
        obtain ⟨x, rfl⟩ := Later.of hb
        clear hb
        go_wp2
        exact ⟨⟨k + 1, b, t, by omega, by go_num, rfl, rfl, HH.out, FIN.out x⟩, by simp [intOf]; omega⟩
    · have hkn : k = 20 := by omega
      subst hkn
      obtain ⟨rfl, rfl⟩ : b = R1 ∧ t = R2 := by
        have := HL.out.symm.trans HRR.out
        simpa using this
      clear HL HRR
      go_wp2
      go_ret2
      exact ⟨rfl, HB2.out.trans (S.out.mono HB2.out.size)⟩

set_option maxHeartbeats 2000000 in
theorem implFeastText (c n : Int) (mv : Bool) (w : World) (hT : Tab w) (hP : Pow w) : Calls Tryz.prog 12 #[.int .i64 c, .int .i64 n, .bool mv] w fun e w' => e = .returned (.string (feastText c n mv)) ∧ Below w.heap.size w w' := by
  obtain ⟨a, y, m0, d0, ok, hD, hR⟩ := dateR_parts c n
  have KD := implDateOf c n w hT
  have HT := hideP hT
  have HP := hideP hP
  have HF : Hid (feastText c n mv = if ok = true then textIn c y n mv else ⟨#[]⟩) := by unfold Hid feastText; rw [hD]
  have hrg := fun hok => (date_range hD hok).2
  rw [hR] at KD
  rw [HF.out]
  clear hD hR HF hT hP
  cases ok
  · have HE : Hid ((if false = true then textIn c y n mv else ⟨#[]⟩) = ⟨#[]⟩) := rfl
    rw [HE.out]
    clear hrg
    go_enter Tryz.func12, Tryz.ntmps12
    go_wp2_with fail
    refine KD.mono ?_
    rintro e W1 ⟨rfl, hb1⟩
    go_wp2
    go_ret
    exact ⟨rfl, hb1.alloc hb1.size _⟩
  have HE : Hid ((if true = true then textIn c y n mv else ⟨#[]⟩) = textIn c y n mv) := rfl
  rw [HE.out]
  obtain ⟨hn1, hn2⟩ := hrg rfl
  clear hrg
  have KL : ∀ W, Tab W → Calls Tryz.prog 40 #[.int .i64 c, .int .i64 y, .int .i64 n, .bool mv] W fun e w' => e = .returned (.tuple #[.string (lastTo c y n mv 20).1, .int .i64 (lastTo c y n mv 20).2]) ∧ Below W.heap.size W w' := fun W h => implLast c y n mv W h
  have hlb := last_b c y n mv 20 (Nat.le_refl _)
  have hsp := last_spec c y n mv 20 (Nat.le_refl _)
  obtain ⟨R, hRR⟩ : ∃ R, R = textIn c y n mv := ⟨_, rfl⟩
  rw [← hRR]
  unfold textIn at hRR
  generalize lastTo c y n mv 20 = L at *
  obtain ⟨b, t⟩ := L
  simp only at hlb hRR KL
  obtain ⟨hl1, hl2, hl3⟩ := hlb
  have hle : b.size ≠ 0 → t ≤ n := fun hb => by
    rcases hsp with e | ⟨i, _, e, _, h⟩
    · simp only [Prod.mk.injEq] at e
      exact absurd (by rw [e.1]; rfl) hb
    · simp only [Prod.mk.injEq] at e
      omega
  have HV := hideP hRR
  clear hsp hRR
  by_cases h0 : b.size = 0
  · have h0' := empty_yes h0
    have HR := hideP (HV.out.trans (if_pos (.inl h0)))
    clear HV hle
    go_enter Tryz.func12, Tryz.ntmps12
    go_wp2_with fail
    refine KD.mono ?_
    rintro e W1 ⟨rfl, hb1⟩
    have B1 := hideP hb1
    clear hb1 KD
    go_wp2_with fail
    refine (KL _ (HT.out.later (B1.out.alloc B1.out.size _))).mono ?_
    rintro e W2 ⟨rfl, hb2⟩
    have B2 : Hid (Below w.heap.size w W2) := (B1.out.alloc B1.out.size _).trans (hb2.mono (by have := B1.out.size; rw [sz_new]; omega))
    clear hb2
    go_wp2
    go_ret
    exact ⟨ret_str HR.out.symm, B2.out⟩
  have h0' := empty_no h0
  have htn := hle h0
  clear hle
  by_cases h9 : 99 < n - t
  · have HR := hideP (HV.out.trans (if_pos (.inr h9)))
    clear HV
    go_enter Tryz.func12, Tryz.ntmps12
    go_wp2_with fail
    refine KD.mono ?_
    rintro e W1 ⟨rfl, hb1⟩
    have B1 := hideP hb1
    clear hb1 KD
    go_wp2_with fail
    refine (KL _ (HT.out.later (B1.out.alloc B1.out.size _))).mono ?_
    rintro e W2 ⟨rfl, hb2⟩
    have B2 : Hid (Below w.heap.size w W2) := (B1.out.alloc B1.out.size _).trans (hb2.mono (by have := B1.out.size; rw [sz_new]; omega))
    clear hb2
    go_wp2
    go_ret
    exact ⟨ret_str HR.out.symm, B2.out⟩
  have HR := hideP (HV.out.trans (if_neg (fun h => h.elim h0 h9)))
  clear HV
  have KP : ∀ W, Pow W → Calls Tryz.prog 41 #[.string b, .int .i64 (n - t)] W fun e w' => e = .returned (.string (plusText b (n - t))) ∧ Below W.heap.size W w' := fun W h => implPlus b (n - t) W hl1 (by omega) (by omega) h
  generalize plusText b (n - t) = PT at *
  go_enter Tryz.func12, Tryz.ntmps12
  go_wp2_with fail
  refine KD.mono ?_
  rintro e W1 ⟨rfl, hb1⟩
  have B1 := hideP hb1
  clear hb1 KD
  go_wp2_with fail
  refine (KL _ (HT.out.later (B1.out.alloc B1.out.size _))).mono ?_
  rintro e W2 ⟨rfl, hb2⟩
  have B2 : Hid (Below w.heap.size w W2) := (B1.out.alloc B1.out.size _).trans (hb2.mono (by have := B1.out.size; rw [sz_new]; omega))
  clear hb2
  go_wp2_with fail
  refine (KP _ (pow_later HP.out B2.out)).mono ?_
  rintro e W3 ⟨rfl, hb3⟩
  have B3 : Hid (Below w.heap.size w W3) := B2.out.trans (hb3.mono B2.out.size)
  clear hb3
  go_wp2
  go_ret
  exact ⟨ret_str HR.out.symm, B3.out⟩
end Go.Proofs.YtckjcaloofjeoaaGreatDoor.ctr
