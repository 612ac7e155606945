/- What a tied card's proof wants of the listed handle errors.errorType. Contract of the model's FeastText: it answers its plain function at every argument. -/
import Derived.Test.YtdmlhiailjnhcaaGreatDoorJnYap
import Derived.LaidLaws
import Derived.LaidHandle
import Derived.Test.YtdmlhiailjnhcaaGreatDoorJnYar
import Derived.Test.YtdmlhiailjnhcaaGreatDoorJnYai
import Derived.Test.YtdmlhiailjnhcaaGreatDoorJnYak
namespace Go.Proofs.YtdmlhiailjnhcaaGreatDoor.kit
open Go.RowKit
theorem a_et : Tryz.prog.globalNamed "errors.errorType" = some 4 := by kernel_rfl
theorem a_rt : (Tryz.prog.cutTypes.find? (·.1 == "internal/reflectlite.rtype")).map (·.2) = some 269 := by kernel_rfl
theorem a_row : ((List.range 372).filter fun t => Tryz.prog.rowNamed t [101, 114, 114, 111, 114]) = [181] := by kernel_rfl
theorem a_size : Tryz.prog.types.size = 372 := by kernel_rfl
theorem err_of {W : World} (h : handlesMet Tryz.prog [("errors.errorType", .iface "internal/reflectlite.rtype" (.agg [.ptr (.lit (.string [101, 114, 114, 111, 114]))]))] W) : ctr.ErrT W := by
 obtain ⟨name, u, ty, e1, e2, e3, e4, e5⟩ := h _ (List.mem_singleton.2 rfl)
 have en : name = [101, 114, 114, 111, 114] := (Option.some.inj e1).symm
 subst en
 obtain rfl := Option.some.inj (a_rt.symm.trans e2)
 have hm : ty ∈ (List.range 372).filter fun t => Tryz.prog.rowNamed t [101, 114, 114, 111, 114] := List.mem_filter.2 ⟨List.mem_range.2 (by rw [← a_size]; exact e3), e4⟩
 rw [a_row] at hm
 obtain rfl := List.mem_singleton.1 hm
 have hh : typeHandle Tryz.prog 181 = .pointer (some ⟨10, 181, none⟩) := by kernel_rfl
 rw [hh] at e5
 unfold ctr.ErrT
 simpa using World.var?_cell a_et e5 0
end Go.Proofs.YtdmlhiailjnhcaaGreatDoor.kit
namespace Go.Proofs.YtdmlhiailjnhcaaGreatDoor.ctr
open Go.RowKit
theorem step_yes {c y n : Int} {mv : Bool} {b : ByteArray} {t : Int} {f : Fea} (h : f.mv = mv) (h1 : f.day c y ≤ n) (h2 : b.size = 0 ∨ t < f.day c y) : lastStep c y n mv (b, t) f = (f.name, f.day c y) := by
 unfold lastStep
 rw [if_pos ⟨h, h1, h2⟩]
theorem step_no {c y n : Int} {mv : Bool} {b : ByteArray} {t : Int} {f : Fea} (h : f.mv ≠ mv ∨ n < f.day c y ∨ (b.size ≠ 0 ∧ f.day c y ≤ t)) : lastStep c y n mv (b, t) f = (b, t) := by
 unfold lastStep
 rw [if_neg]
 rintro ⟨h0, h1, h2⟩
 rcases h with h | h | h
 · exact h h0
 · omega
 · rcases h2 with h2 | h2
   · exact h.1 h2
   · omega
theorem itoa_short {k : Int} (h1 : 0 ≤ k) (h2 : k ≤ 99) : (itoaB k).size ≤ 2 := by
 have hi : Lib.itoa k = Lib.decDigits k.toNat := by unfold Lib.itoa; rw [if_neg (by omega)]
 show (Lib.itoa k).length ≤ 2
 rw [hi]
 exact dec_len 1 k.toNat (by show k.toNat < 100; omega)
noncomputable def feastText (c n : Int) (mv : Bool) : ByteArray := if (dateOf c n).2.2.2.2 = true then textIn c (dateOf c n).2.1 n mv else ⟨#[]⟩
theorem date_range {c n a y m d : Int} {ok : Bool} (h : dateOf c n = (a, y, m, d, ok)) (hok : ok = true) : yearP c y ∧ -1000 ≤ n ∧ n ≤ 1200000 := by
 subst hok
 by_cases hp : (c = 0 ∨ c = 1) ∧ 1 ≤ yearOf c n ∧ yearOf c n ≤ 3000 ∧ -1000 ≤ n ∧ n ≤ 1200000
 · obtain ⟨h1, h2, h3, h4, h5⟩ := hp
   have := dateOf_yes (k := monthOf c (yearOf c n) (n - first c (yearOf c n))) h1 h4 h5 rfl rfl h2 h3
   rw [this] at h
   simp only [Prod.mk.injEq] at h
   obtain ⟨_, rfl, _⟩ := h
   exact ⟨⟨h1, h2, h3⟩, h4, h5⟩
 · rw [dateOf_no hp] at h
   simp at h
structure TxSt (w : World) (db g : Nat) (dv cur : Array Value) (W : World) : Prop where
 below : Below w.heap.size w W
 date : Blk W db dv 99
 fea : FeaBlk W g cur
theorem TxSt.later {w : World} {db g : Nat} {dv cur : Array Value} {W W' : World} (h : TxSt w db g dv cur W) (hb : Below W.heap.size W W') : TxSt w db g dv cur W' :=
 ⟨h.below.trans (hb.mono h.below.size), h.date.below hb h.date.lt, h.fea.below hb⟩
set_option maxRecDepth 100000 in
set_option maxHeartbeats 4000000 in
theorem specFeastText (c n : Int) (mv : Bool) (w : World) : CR 68 #[.int .i64 c, .int .i64 n, .bool mv] w (.string (feastText c n mv)) := by
 obtain ⟨a, y, m0, d0, ok, hD, hR⟩ := dateR_parts c n
 have KD := specDateOf c n w
 have HF : Hid (feastText c n mv = if ok = true then textIn c y n mv else ⟨#[]⟩) := by unfold Hid feastText; rw [hD]
 have hrg := fun hok => (date_range hD hok).2
 rw [hR] at KD
 rw [HF.out]
 clear hD hR HF
 cases ok
 · have HE : Hid ((if false = true then textIn c y n mv else ⟨#[]⟩) = ⟨#[]⟩) := rfl
   rw [HE.out]
   clear hrg
   go_enter Tryz.func68, Tryz.ntmps68
   go_wp2_with fail
   refine KD.mono ?_
   rintro e W1 ⟨rfl, hb1⟩
   go_wp2
   go_ret
   exact ⟨rfl, hb1.alloc hb1.size _⟩
 have HE : Hid ((if true = true then textIn c y n mv else ⟨#[]⟩) = textIn c y n mv) := rfl
 rw [HE.out]
 obtain ⟨hn1, hn2⟩ := hrg rfl
 clear hrg
 obtain ⟨R, hRR⟩ : ∃ R, R = textIn c y n mv := ⟨_, rfl⟩
 rw [← hRR]
 have HRR := hideP hRR
 clear hRR
 go_enter Tryz.func68, Tryz.ntmps68
 go_wp2_with fail
 refine KD.mono ?_
 rintro e W1 ⟨rfl, hb1⟩
 have B1 := hideP hb1
 clear hb1 KD
 go_wp2_with fail
 refine (specFeasts _).mono ?_
 rintro e W2 ⟨v, rfl, hr, hb2⟩
 obtain ⟨g, cap, cur, rfl, hg, hf⟩ := hr.blk
 have S2 : Hid (TxSt w W1.heap.size g #[.int .i64 a, .int .i64 y, .int .i64 m0, .int .i64 d0] cur W2) :=
  ⟨(B1.out.alloc B1.out.size _).trans (hb2.mono (by have := B1.out.size; rw [sz_new]; omega)), (date_blk W1 a y m0 d0).below hb2 (by rw [sz_new]; omega), hf⟩
 clear hr hb2 hf hg B1
 go_wp2
 go_loopw [9, 10, 12] (fun o p i wr => ∃ (k : Nat) (b : ByteArray) (t : Int), k ≤ 20 ∧ i = .int .i64 (k : Int) ∧ o = .string b ∧ p = .int .i64 t ∧ Hid (lastTo c y n mv k = (b, t)) ∧ TxSt w W1.heap.size g #[.int .i64 a, .int .i64 y, .int .i64 m0, .int .i64 d0] cur wr) (fun _ _ i _ => 20 - (intOf i).toNat)
 case atStart => exact ⟨0, _, _, Nat.zero_le _, rfl, rfl, rfl, rfl, S2.out⟩
 case round =>
  obtain ⟨k, b, t, hk, rfl, rfl, rfl, HL, hS⟩ := hrel
  have S := hideP hS
  clear hS S2
  have hlb := last_b c y n mv k hk
  rw [HL.out] at hlb
  simp only at hlb
  obtain ⟨hl1, hl2, hl3⟩ := hlb
  by_cases hlt : k < 20
  · have q0 : ∀ x : Later wr, x.w.cell? ⟨W1.heap.size, 1, none⟩ = some (.int .i64 y) := fun x => (S.out.later x.below).date.cell 1 rfl
    have c0 : ∀ x : Later wr, x.w.cell? ⟨g, k * 5, none⟩ = some (.string (feaAt k).name) := fun x => ((S.out.later x.below).fea.at hlt).1
    have c1 : ∀ x : Later wr, x.w.cell? ⟨g, k * 5 + 1, none⟩ = some (.bool (feaAt k).mv) := fun x => ((S.out.later x.below).fea.at hlt).2.1
    have c2 : ∀ x : Later wr, x.w.cell? ⟨g, k * 5 + 2, none⟩ = some (.int .i64 (feaAt k).off) := fun x => ((S.out.later x.below).fea.at hlt).2.2.1
    have c3 : ∀ x : Later wr, x.w.cell? ⟨g, k * 5 + 3, none⟩ = some (.int .i64 (feaAt k).m) := fun x => ((S.out.later x.below).fea.at hlt).2.2.2.1
    have c4 : ∀ x : Later wr, x.w.cell? ⟨g, k * 5 + 4, none⟩ = some (.int .i64 (feaAt k).d) := fun x => ((S.out.later x.below).fea.at hlt).2.2.2.2
    have hsz := feaAt_size0 ⟨k, hlt⟩
    dsimp only at hsz
    have HN : Hid (lastTo c y n mv (k + 1) = lastStep c y n mv (b, t) (feaAt k)) := by unfold Hid; rw [lastTo_succ _ _ _ _ _ hlt, HL.out]
    generalize feaAt k = f at *
    obtain ⟨s, fm, o, m, d⟩ := f
    dsimp only at c0 c1 c2 c3 c4 hsz
    have KF : ∀ x : Later wr, CR 122 #[.int .i64 c, .int .i64 y, .agg #[.string s, .bool fm, .int .i64 o, .int .i64 m, .int .i64 d]] x.w (.int .i64 (Fea.day ⟨s, fm, o, m, d⟩ c y)) := fun x => specFeaDay c y s fm o m d x.w (by unfold maxLen; omega)
    have Y := hideP (step_yes (c := c) (y := y) (n := n) (mv := mv) (b := b) (t := t) (f := ⟨s, fm, o, m, d⟩))
    have N := hideP (step_no (c := c) (y := y) (n := n) (mv := mv) (b := b) (t := t) (f := ⟨s, fm, o, m, d⟩))
    have hdb := Fea.day_b ⟨s, fm, o, m, d⟩ c y
    generalize hfd : Fea.day ⟨s, fm, o, m, d⟩ c y = day at *
    have HFD := hideP hfd
    clear hfd
    have HX : Hid ((fm = mv ∧ day ≤ n ∧ (b.size = 0 ∨ t < day) → lastTo c y n mv (k + 1) = (s, day)) ∧ ((fm ≠ mv ∨ n < day ∨ (b.size ≠ 0 ∧ day ≤ t)) → lastTo c y n mv (k + 1) = (b, t))) :=
     ⟨fun h => HN.out.trans (Y.out h.1 h.2.1 h.2.2), fun h => HN.out.trans (N.out h)⟩
    clear HN Y N HL HFD
    have fin : ∀ x : Later wr, TxSt w W1.heap.size g #[.int .i64 a, .int .i64 y, .int .i64 m0, .int .i64 d0] cur x.w := fun x => S.out.later x.below
    have FIN := hideP fin
    clear fin S
    by_cases hq : fm = mv
    · have hq' : (fm == mv) = true := by simp [hq]
      by_cases h1 : day ≤ n
      · by_cases h2 : b.size = 0
        · have h2' := empty_yes h2
          have HH := hideP (HX.out.1 ⟨hq, h1, .inl h2⟩)
          clear HX hq
          go_wp2_with fail
          refine wp_region_later (W := wr) (Below.refl _ _) (by kernel_rfl) (by kernel_rfl) ?_
          repeat (go_big_quiet_step (first | (go_at_call 122; exact calls_later (KF _))))
          refine wpQuiet_nil ?_
          intro _ hw'
          obtain ⟨x, rfl⟩ := hw'
          go_wp2
          exact ⟨⟨k + 1, s, day, by omega, by go_num, rfl, rfl, HH.out, FIN.out x⟩, by simp [intOf]; omega⟩
        · have h2' := empty_no h2
          by_cases h3 : t < day
          · have HH := hideP (HX.out.1 ⟨hq, h1, .inr h3⟩)
            clear HX hq
            go_wp2_with fail
            refine wp_region_later (W := wr) (Below.refl _ _) (by kernel_rfl) (by kernel_rfl) ?_
            repeat (go_big_quiet_step (first | (go_at_call 122; exact calls_later (KF _))))
            refine wpQuiet_nil ?_
            intro _ hw'
            obtain ⟨x, rfl⟩ := hw'
            go_wp2
            exact ⟨⟨k + 1, s, day, by omega, by go_num, rfl, rfl, HH.out, FIN.out x⟩, by simp [intOf]; omega⟩
          · have HH := hideP (HX.out.2 (.inr (.inr ⟨h2, by omega⟩)))
            clear HX hq
            go_wp2_with fail
            refine wp_region_later (W := wr) (Below.refl _ _) (by kernel_rfl) (by kernel_rfl) ?_
            repeat (go_big_quiet_step (first | (go_at_call 122; exact calls_later (KF _))))
            refine wpQuiet_nil ?_
            intro _ hw'
            obtain ⟨x, rfl⟩ := hw'
            go_wp2
            exact ⟨⟨k + 1, b, t, by omega, by go_num, rfl, rfl, HH.out, FIN.out x⟩, by simp [intOf]; omega⟩
      · have HH := hideP (HX.out.2 (.inr (.inl (by omega))))
        clear HX hq
        go_wp2_with fail
        refine wp_region_later (W := wr) (Below.refl _ _) (by kernel_rfl) (by kernel_rfl) ?_
        repeat (go_big_quiet_step (first | (go_at_call 122; exact calls_later (KF _))))
        refine wpQuiet_nil ?_
        intro _ hw'
        obtain ⟨x, rfl⟩ := hw'
        go_wp2
        exact ⟨⟨k + 1, b, t, by omega, by go_num, rfl, rfl, HH.out, FIN.out x⟩, by simp [intOf]; omega⟩
    · have hq' : (fm == mv) = false := by simp [hq]
      have HH := hideP (HX.out.2 (.inl hq))
      clear HX hq
      go_wp2_with fail
      refine wp_region_later (W := wr) (Below.refl _ _) (by kernel_rfl) (by kernel_rfl) ?_
      repeat (go_big_quiet_step (first | (go_at_call 122; exact calls_later (KF _))))
      refine wpQuiet_nil ?_
      intro _ hw'
      obtain ⟨x, rfl⟩ := hw'
      go_wp2
      exact ⟨⟨k + 1, b, t, by omega, by go_num, rfl, rfl, HH.out, FIN.out x⟩, by simp [intOf]; omega⟩
  · have hkn : k = 20 := by omega
    subst hkn
    have HV : Hid (R = if b.size = 0 ∨ 99 < n - t then ⟨#[]⟩ else plusText b (n - t)) := by unfold Hid; rw [HRR.out, textIn, HL.out]
    have hle : b.size ≠ 0 → t ≤ n := fun hb => by
     rcases last_spec c y n mv 20 (Nat.le_refl _) with e | ⟨i, _, e, _, h⟩
     · rw [HL.out] at e
       simp only [Prod.mk.injEq] at e
       exact absurd (by rw [e.1]; rfl) hb
     · rw [HL.out] at e
       simp only [Prod.mk.injEq] at e
       omega
    clear HL HRR
    by_cases h0 : b.size = 0
    · have h0' := empty_yes h0
      have HR := hideP (HV.out.trans (if_pos (.inl h0)))
      clear HV hle
      go_wp2
      go_ret
      exact ⟨ret_str HR.out.symm, S.out.below⟩
    have h0' := empty_no h0
    have htn := hle h0
    clear hle
    by_cases h9 : 99 < n - t
    · have HR := hideP (HV.out.trans (if_pos (.inr h9)))
      clear HV
      go_wp2
      go_ret
      exact ⟨ret_str HR.out.symm, S.out.below⟩
    have HV2 := hideP (HV.out.trans (if_neg (fun h => h.elim h0 h9)))
    clear HV
    unfold plusText at HV2
    by_cases he : n = t
    · subst he
      have HR := hideP (HV2.out.trans (if_pos (by omega)))
      clear HV2
      go_wp2
      go_ret
      exact ⟨ret_str HR.out.symm, S.out.below⟩
    · have he' : (n == t) = false := by simp [he]
      have HR := hideP (HV2.out.trans (if_neg (by omega)))
      have hsh := itoa_short (k := n - t) (by omega) (by omega)
      have KI := fun W => specDecText (n - t) W (by omega) (by omega)
      clear HV2
      go_wp2_with fail
      refine (KI _).mono ?_
      rintro e w1 ⟨rfl, rfl⟩
      have hsz2 : (b ++ (⟨#[43]⟩ : ByteArray)).size ≤ 17 := by rw [ByteArray.size_append]; show b.size + 1 ≤ 17; omega
      have hsz3 : (⟨(Lib.itoa (n - t)).toArray⟩ : ByteArray).size ≤ 2 := hsh
      go_wp2
      go_ret
      exact ⟨ret_str HR.out.symm, S.out.below⟩
end Go.Proofs.YtdmlhiailjnhcaaGreatDoor.ctr
