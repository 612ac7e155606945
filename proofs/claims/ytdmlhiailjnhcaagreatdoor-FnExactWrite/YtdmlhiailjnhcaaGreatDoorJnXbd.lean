/- Contract of the program's FeastText: it answers its plain function at every argument, where the tables of mont; and what else the law reaches. -/
import Derived.Test.YtdmlhiailjnhcaaGreatDoorJnXay
import Derived.Test.YtdmlhiailjnhcaaGreatDoorJnXas
import Derived.Test.YtdmlhiailjnhcaaGreatDoorJnXar
import Derived.Test.YtdmlhiailjnhcaaGreatDoorJnXaj
import Derived.PlainAid
namespace Go.Proofs.YtdmlhiailjnhcaaGreatDoor.ctr
open Go.RowKit
abbrev Pow (w : World) : Prop := Lib.TabIs Tryz.prog w "internal/strconv.uint64pow10" .u64 Lib.pow10Tab
theorem pow_later {w w1 : World} (h : Pow w) (hb : Below w.heap.size w w1) : Pow w1 := kit.tab_below h hb (g := 5) (by kernel_rfl)
set_option maxHeartbeats 1000000 in
theorem implPlus (b : ByteArray) (k : Int) (w : World) (hb : b.size ≤ 16) (h0 : 0 ≤ k) (h9 : k ≤ 99) (hP : Pow w) : CR 198 #[.string b, .int .i64 k] w (.string (plusText b k)) := by
 unfold plusText
 by_cases hk : k = 0
 · subst hk
   rw [if_pos rfl]
   go_enter Tryz.func198, Tryz.ntmps198
   go_wp2
   go_ret
   exact ⟨rfl, Below.refl _ _⟩
 · have hk' : (k == 0) = false := by simp [hk]
   rw [if_neg hk]
   have KI := implDecText k w (by omega) (by omega) hP
   have hsz2 : (b ++ (⟨#[43]⟩ : ByteArray)).size ≤ 17 := by rw [ByteArray.size_append]; show b.size + 1 ≤ 17; omega
   have hsz3 : (⟨(Lib.itoa k).toArray⟩ : ByteArray).size ≤ 2 := itoa_short h0 h9
   clear hP
   go_enter Tryz.func198, Tryz.ntmps198
   go_wp2_with fail
   refine KI.mono ?_
   rintro e w1 ⟨rfl, hb1⟩
   go_wp2
   go_ret
   exact ⟨rfl, hb1⟩
set_option maxRecDepth 100000 in
set_option maxHeartbeats 4000000 in
theorem implLast (c y n : Int) (mv : Bool) (w : World) (hT : Tab w) : CR 215 #[.int .i64 c, .int .i64 y, .int .i64 n, .bool mv] w (.tuple #[.string (lastTo c y n mv 20).1, .int .i64 (lastTo c y n mv 20).2]) := by
 have HT := hideP hT
 clear hT
 obtain ⟨R1, R2, hRR⟩ : ∃ R1 R2, lastTo c y n mv 20 = (R1, R2) := ⟨_, _, rfl⟩
 rw [hRR]
 have HRR := hideP hRR
 clear hRR
 go_enter Tryz.func215, Tryz.ntmps215
 go_wp2_with fail
 refine (implFeasts _).mono ?_
 rintro e W2 ⟨v, rfl, hr, hb2⟩
 obtain ⟨g, cap, cur, rfl, hg, hf⟩ := hr.blk
 have HB2 := hideP hb2
 have HF2 := hideP hf
 clear hr hb2 hf hg
 go_wp2
 go_loopw [10, 11, 17] (fun o p i wr => ∃ (k : Nat) (b : ByteArray) (t : Int), k ≤ 20 ∧ i = .int .i64 (k : Int) ∧ o = .string b ∧ p = .int .i64 t ∧ Hid (lastTo c y n mv k = (b, t)) ∧ Below W2.heap.size W2 wr) (fun _ _ i _ => 20 - (intOf i).toNat)
 case atStart => exact ⟨0, _, _, Nat.zero_le _, rfl, rfl, rfl, rfl, Below.refl _ _⟩
 case round =>
  obtain ⟨k, b, t, hk, rfl, rfl, rfl, HL, hS⟩ := hrel
  have S := hideP hS
  clear hS
  have hlb := last_b c y n mv k hk
  rw [HL.out] at hlb
  simp only at hlb
  obtain ⟨hl1, hl2, hl3⟩ := hlb
  by_cases hlt : k < 20
  · obtain ⟨c0, c1, c2, c3, c4⟩ := (HF2.out.below S.out).at hlt
    have hsz := feaAt_size0 ⟨k, hlt⟩
    dsimp only at hsz
    have HN : Hid (lastTo c y n mv (k + 1) = lastStep c y n mv (b, t) (feaAt k)) := by unfold Hid; rw [lastTo_succ _ _ _ _ _ hlt, HL.out]
    generalize feaAt k = f at *
    obtain ⟨s, fm, o, m, d⟩ := f
    dsimp only at c0 c1 c2 c3 c4 hsz
    obtain ⟨V, hV, b0, b1, b2, b3, b4, hVl⟩ := fea_box wr s fm o m d 107
    have fin : ∀ x : Later V, Below W2.heap.size W2 x.w := fun x => S.out.trans ((hVl x).mono S.out.size)
    have KF : ∀ x : Later V, CR 255 #[.int .i64 c, .int .i64 y, .agg #[.string s, .bool fm, .int .i64 o, .int .i64 m, .int .i64 d]] x.w (.int .i64 (Fea.day ⟨s, fm, o, m, d⟩ c y)) := fun x => implFeaDay c y s fm o m d x.w (by unfold maxLen; omega) (HT.out.later (HB2.out.trans ((fin x).mono HB2.out.size)))
    obtain ⟨x0, hx0⟩ := Later.of (Below.refl V.heap.size V)
    have KF0 := KF x0
    rw [← hx0] at KF0
    have HV := hideP hV
    have FIN := hideP fin
    clear hV hVl hx0 x0 KF fin S
    have Y := hideP (step_yes (c := c) (y := y) (n := n) (mv := mv) (b := b) (t := t) (f := ⟨s, fm, o, m, d⟩))
    have N := hideP (step_no (c := c) (y := y) (n := n) (mv := mv) (b := b) (t := t) (f := ⟨s, fm, o, m, d⟩))
    have hdb := Fea.day_b ⟨s, fm, o, m, d⟩ c y
    generalize hfd : Fea.day ⟨s, fm, o, m, d⟩ c y = day at *
    have HFD := hideP hfd
    clear hfd
    have HX : Hid ((fm = mv ∧ day ≤ n ∧ (b.size = 0 ∨ t < day) → lastTo c y n mv (k + 1) = (s, day)) ∧ ((fm ≠ mv ∨ n < day ∨ (b.size ≠ 0 ∧ day ≤ t)) → lastTo c y n mv (k + 1) = (b, t))) :=
     ⟨fun h => HN.out.trans (Y.out h.1 h.2.1 h.2.2), fun h => HN.out.trans (N.out h)⟩
    clear HN Y N HL HFD
    by_cases hq : fm = mv
    · have hq' : (fm == mv) = true := by simp [hq]
      have hq2 : (fm != mv) = false := by simp [hq]
      by_cases h1 : day ≤ n
      · by_cases h2 : b.size = 0
        · have h2' := empty_yes h2
          have HH := hideP (HX.out.1 ⟨hq, h1, .inl h2⟩)
          clear HX hq
          go_wp2_with fail
          rw [← HV.out]
          refine latO KF0 fun x => ?_
          go_wp2
          exact ⟨⟨k + 1, s, day, by omega, by go_num, rfl, rfl, HH.out, FIN.out x⟩, by simp [intOf]; omega⟩
        · have h2' := empty_no h2
          by_cases h3 : t < day
          · have HH := hideP (HX.out.1 ⟨hq, h1, .inr h3⟩)
            clear HX hq
            go_wp2_with fail
            rw [← HV.out]
            refine latO KF0 fun x => ?_
            go_wp2
            exact ⟨⟨k + 1, s, day, by omega, by go_num, rfl, rfl, HH.out, FIN.out x⟩, by simp [intOf]; omega⟩
          · have HH := hideP (HX.out.2 (.inr (.inr ⟨h2, by omega⟩)))
            clear HX hq
            go_wp2_with fail
            rw [← HV.out]
            refine latO KF0 fun x => ?_
            go_wp2
            exact ⟨⟨k + 1, b, t, by omega, by go_num, rfl, rfl, HH.out, FIN.out x⟩, by simp [intOf]; omega⟩
      · have HH := hideP (HX.out.2 (.inr (.inl (by omega))))
        clear HX hq
        go_wp2_with fail
        rw [← HV.out]
        refine latO KF0 fun x => ?_
        go_wp2
        exact ⟨⟨k + 1, b, t, by omega, by go_num, rfl, rfl, HH.out, FIN.out x⟩, by simp [intOf]; omega⟩
    · have hq' : (fm == mv) = false := by simp [hq]
      have hq2 : (fm != mv) = true := by simp [hq]
      have HH := hideP (HX.out.2 (.inl hq))
      clear HX hq
      go_wp2_with fail
      rw [← HV.out]
      refine latO KF0 fun x => ?_
      go_wp2
      exact ⟨⟨k + 1, b, t, by omega, by go_num, rfl, rfl, HH.out, FIN.out x⟩, by simp [intOf]; omega⟩
  · have hkn : k = 20 := by omega
    subst hkn
    obtain ⟨rfl, rfl⟩ : b = R1 ∧ t = R2 := by
     have := HL.out.symm.trans HRR.out
     simpa using this
    clear HL HRR
    go_wp2
    go_ret2
    exact ⟨rfl, HB2.out.trans (S.out.mono HB2.out.size)⟩
set_option maxHeartbeats 2000000 in
theorem implFeastText (c n : Int) (mv : Bool) (w : World) (hT : Tab w) (hP : Pow w) : CR 169 #[.int .i64 c, .int .i64 n, .bool mv] w (.string (feastText c n mv)) := by
 obtain ⟨a, y, m0, d0, ok, hD, hR⟩ := dateR_parts c n
 have KD := implDateOf c n w hT
 have HT := hideP hT
 have HP := hideP hP
 have HF : Hid (feastText c n mv = if ok = true then textIn c y n mv else ⟨#[]⟩) := by unfold Hid feastText; rw [hD]
 have hrg := fun hok => (date_range hD hok).2
 rw [hR] at KD
 rw [HF.out]
 clear hD hR HF hT hP
 cases ok
 · have HE : Hid ((if false = true then textIn c y n mv else ⟨#[]⟩) = ⟨#[]⟩) := rfl
   rw [HE.out]
   clear hrg
   go_enter Tryz.func169, Tryz.ntmps169
   go_wp2_with fail
   refine KD.mono ?_
   rintro e W1 ⟨rfl, hb1⟩
   go_wp2
   go_ret
   exact ⟨rfl, hb1.alloc hb1.size _⟩
 have HE : Hid ((if true = true then textIn c y n mv else ⟨#[]⟩) = textIn c y n mv) := rfl
 rw [HE.out]
 obtain ⟨hn1, hn2⟩ := hrg rfl
 clear hrg
 have KL : ∀ W, Tab W → CR 215 #[.int .i64 c, .int .i64 y, .int .i64 n, .bool mv] W (.tuple #[.string (lastTo c y n mv 20).1, .int .i64 (lastTo c y n mv 20).2]) := fun W h => implLast c y n mv W h
 have hlb := last_b c y n mv 20 (Nat.le_refl _)
 have hsp := last_spec c y n mv 20 (Nat.le_refl _)
 obtain ⟨R, hRR⟩ : ∃ R, R = textIn c y n mv := ⟨_, rfl⟩
 rw [← hRR]
 unfold textIn at hRR
 generalize lastTo c y n mv 20 = L at *
 obtain ⟨b, t⟩ := L
 simp only at hlb hRR KL
 obtain ⟨hl1, hl2, hl3⟩ := hlb
 have hle : b.size ≠ 0 → t ≤ n := fun hb => by
  rcases hsp with e | ⟨i, _, e, _, h⟩
  · simp only [Prod.mk.injEq] at e
    exact absurd (by rw [e.1]; rfl) hb
  · simp only [Prod.mk.injEq] at e
    omega
 have HV := hideP hRR
 clear hsp hRR
 by_cases h0 : b.size = 0
 focus
   have h0' := empty_yes h0
   have HR := hideP (HV.out.trans (if_pos (.inl h0)))
   clear HV hle
 rotate_left
 focus
   have h0' := empty_no h0
   have htn := hle h0
   clear hle
   by_cases h9 : 99 < n - t
   · have HR := hideP (HV.out.trans (if_pos (.inr h9)))
     clear HV
     go_enter Tryz.func169, Tryz.ntmps169
     go_wp2_with fail
     refine KD.mono ?_
     rintro e W1 ⟨rfl, hb1⟩
     have B1 := hideP hb1
     clear hb1 KD
     go_wp2_with fail
     refine (KL _ (HT.out.later (B1.out.alloc B1.out.size _))).mono ?_
     rintro e W2 ⟨rfl, hb2⟩
     have B2 : Hid (Below w.heap.size w W2) := (B1.out.alloc B1.out.size _).trans (hb2.mono (by have := B1.out.size; rw [sz_new]; omega))
     clear hb2
     go_wp2
     go_ret
     exact ⟨ret_str HR.out.symm, B2.out⟩
   have HR := hideP (HV.out.trans (if_neg (fun h => h.elim h0 h9)))
   clear HV
   have KP : ∀ W, Pow W → CR 198 #[.string b, .int .i64 (n - t)] W (.string (plusText b (n - t))) := fun W h => implPlus b (n - t) W hl1 (by omega) (by omega) h
   generalize plusText b (n - t) = PT at *
 rotate_left
 all_goals
  go_enter Tryz.func169, Tryz.ntmps169
  go_wp2_with fail
  refine KD.mono ?_
  rintro e W1 ⟨rfl, hb1⟩
  have B1 := hideP hb1
  clear hb1 KD
  go_wp2_with fail
  refine (KL _ (HT.out.later (B1.out.alloc B1.out.size _))).mono ?_
  rintro e W2 ⟨rfl, hb2⟩
  have B2 : Hid (Below w.heap.size w W2) := (B1.out.alloc B1.out.size _).trans (hb2.mono (by have := B1.out.size; rw [sz_new]; omega))
  clear hb2
 · go_wp2
   go_ret
   exact ⟨ret_str HR.out.symm, B2.out⟩
 go_wp2_with fail
 refine (KP _ (pow_later HP.out B2.out)).mono ?_
 rintro e W3 ⟨rfl, hb3⟩
 have B3 : Hid (Below w.heap.size w W3) := B2.out.trans (hb3.mono B2.out.size)
 clear hb3
 go_wp2
 go_ret
 exact ⟨ret_str HR.out.symm, B3.out⟩
theorem run_cut_l (s : ByteArray) (p : Nat) (hp : p < s.size) (w : World) : (Instr.slice 9 (.string s) none (some (.int .i64 (p : Int))) none).run Tryz.prog w = .ok (.string (s.extract 0 p)) w :=
 (run_slice_string_h (P := Tryz.prog) (w := w) (t := 9) (s := s) (ht := Tryz.underlying9) .i64 (p : Int) (by omega) (by omega)).trans (by rw [show ((p : Int)).toNat = p from by omega])
theorem run_cut_r (s : ByteArray) (p : Nat) (hp : p < s.size) (w : World) : (Instr.slice 9 (.string s) (some (.int .i64 ((p : Int) + 1))) none none).run Tryz.prog w = .ok (.string (s.extract (p + 1) s.size)) w :=
 (run_slice_string_l (P := Tryz.prog) (w := w) (t := 9) (s := s) (ht := Tryz.underlying9) .i64 ((p : Int) + 1) (by omega) (by omega)).trans (by rw [show ((p : Int) + 1).toNat = p + 1 from by omega])
set_option maxHeartbeats 1000000 in
theorem liteHit (s : ByteArray) (p : Nat) (w : World) (hs : s.size ≤ 1048576) (hp : p < s.size) (hix : Lib.indexByte s.data.toList 43 = p) : CR 254 #[.string s, .string ⟨#[43]⟩] w (.tuple #[.string (s.extract 0 p), .string (s.extract (p + 1) s.size), .bool true]) := by
 have KI : ∀ W, Calls Tryz.prog 274 #[.string s, .string ⟨#[43]⟩] W fun e w' => e = .returned (.int .i64 (p : Int)) ∧ w' = W := fun W => by rw [← hix]; exact Tryz.stringslite_Index_one s 43 W
 have h1 := run_cut_l s p hp
 have h2 := run_cut_r s p hp
 have hwr : IntKind.i64.wrap ((p : Int) + 1) = (p : Int) + 1 := by rw [PlainAid.i64_is]; unfold wrap64; omega
 have hle : (p : Int) < (s.size : Int) := by omega
 have hle2 : (s.size : Int) ≤ 1048576 := by omega
 clear hix
 go_enter Tryz.func254, Tryz.ntmps254
 go_wp2_with fail
 refine (KI _).mono ?_
 rintro e w1 ⟨rfl, rfl⟩
 go_wp2
 go_region
 all_goals go_wp2
 all_goals go_ret3
 all_goals exact ⟨rfl, (Below.refl _ _).drew⟩
set_option maxHeartbeats 1000000 in
theorem liteMiss (s : ByteArray) (w : World) (hix : Lib.indexByte s.data.toList 43 = -1) : CR 254 #[.string s, .string ⟨#[43]⟩] w (.tuple #[.string s, .string ⟨#[]⟩, .bool false]) := by
 have KI : ∀ W, Calls Tryz.prog 274 #[.string s, .string ⟨#[43]⟩] W fun e w' => e = .returned (.int .i64 (-1)) ∧ w' = W := fun W => by rw [← hix]; exact Tryz.stringslite_Index_one s 43 W
 clear hix
 go_enter Tryz.func254, Tryz.ntmps254
 go_wp2_with fail
 refine (KI _).mono ?_
 rintro e w1 ⟨rfl, rfl⟩
 go_wp2
 go_ret3
 exact ⟨rfl, Below.refl _ _⟩
set_option maxHeartbeats 1000000 in
theorem implCut (s a b : ByteArray) (f : Bool) (w : World) (h : CR 254 #[.string s, .string ⟨#[43]⟩] w (.tuple #[.string a, .string b, .bool f])) : CR 212 #[.string s, .string ⟨#[43]⟩] w (.tuple #[.string a, .string b, .bool f]) := by
 go_enter Tryz.func212, Tryz.ntmps212
 go_wp2_with fail
 refine h.mono ?_
 rintro e w1 ⟨rfl, hb⟩
 go_wp2
 go_ret3
 exact ⟨rfl, hb⟩
theorem cut_ways (s : ByteArray) : (∃ p, p < s.size ∧ Lib.indexByte s.data.toList 43 = p ∧ readFeast s = readTwo (s.extract 0 p) (s.extract (p + 1) s.size)) ∨ (Lib.indexByte s.data.toList 43 = -1 ∧ readFeast s = (findFeast s, 0)) := by
 have key : ∀ j, j < s.size → (bAt s j = 43 ↔ s.data.toList[j]? = some 43) := fun j hj => by
  have hl : j < s.data.toList.length := hj
  unfold bAt
  rw [List.getD, List.getElem?_eq_getElem hl]
  constructor
  · intro h
    simp only [Option.getD_some] at h
    have : (s.data.toList[j]).toNat = 43 := by omega
    rw [show s.data.toList[j] = 43 from UInt8.toNat_inj.1 this]
  · intro h
    rw [Option.some.inj h]
    rfl
 by_cases h : Lib.indexByte s.data.toList 43 = -1
 · exact .inr ⟨h, read_plain s fun j hj e => Lib.indexByte_none h j ((key j hj).1 e)⟩
 · have hge := Lib.indexByte_ge s.data.toList 43
   obtain ⟨p, hp⟩ := Int.eq_ofNat_of_zero_le (show 0 ≤ Lib.indexByte s.data.toList 43 by omega)
   obtain ⟨f1, f2⟩ := Lib.indexByte_some hp
   have hps : p < s.size := by
    have : p < s.data.toList.length := (List.getElem?_eq_some_iff.1 f1).1
    exact this
   exact .inl ⟨p, hps, hp, read_split s p hps ((key p hps).2 f1) fun j hj e => f2 j hj ((key j (by omega)).1 e)⟩
set_option maxRecDepth 100000 in
set_option maxHeartbeats 2000000 in
theorem implRead (s : ByteArray) (w : World) (hs : s.size ≤ 1048576) (hP : Pow w) : CR 168 #[.string s] w (.tuple #[.int .i64 (readFeast s).1, .int .i64 (readFeast s).2]) := by
 have HP := hideP hP
 clear hP
 obtain ⟨R1, R2, hR⟩ : ∃ R1 R2, readFeast s = (R1, R2) := ⟨_, _, rfl⟩
 rw [hR]
 rcases cut_ways s with ⟨p, hp, hix, hrd⟩ | ⟨hix, hrd⟩
 · have KC : CR 212 #[.string s, .string ⟨#[43]⟩] w (.tuple #[.string (s.extract 0 p), .string (s.extract (p + 1) s.size), .bool true]) := implCut s _ _ _ w (liteHit s p w hs hp hix)
   have hz1 : (s.extract (p + 1) s.size).size ≤ s.size := by rw [ByteArray.size_extract]; omega
   have HV := hideP (hR.symm.trans hrd)
   clear hix hrd hR
   generalize s.extract 0 p = n0 at *
   generalize s.extract (p + 1) s.size = n1 at *
   have KF : ∀ W, CR 213 #[.string n0] W (.int .i64 (findFeast n0)) := fun W => implFind n0 W
   have KR : ∀ W, Pow W → CR 214 #[.string n1] W (.int .i64 (readDec n1)) := fun W h => implReadDec n1 W (by unfold maxLen; omega) h
   have hfb := find_b n0
   unfold readTwo at HV
   generalize findFeast n0 = at0 at *
   generalize readDec n1 = kk at *
   by_cases q1 : at0 < 0
   · have HE := hideP (HV.out.trans (if_pos (.inl q1)))
     obtain rfl : at0 = -1 := by omega
     clear HV
     go_enter Tryz.func168, Tryz.ntmps168
     go_wp2_with fail
     refine KC.mono ?_
     rintro e W1 ⟨rfl, hb1⟩
     have B1 := hideP hb1
     clear hb1 KC
     go_wp2_with fail
     refine (KF _).mono ?_
     rintro e W2 ⟨rfl, hb2⟩
     have B2 : Hid (Below w.heap.size w W2) := B1.out.trans (hb2.mono B1.out.size)
     clear hb2
     obtain ⟨rfl, rfl⟩ : R1 = -1 ∧ R2 = 0 := by simpa using HE.out
     go_wp2
     go_ret2
     exact ⟨rfl, B2.out⟩
   by_cases q3 : kk < 1 ∨ 99 < kk
   · have HE := hideP (HV.out.trans (if_pos (.inr q3)))
     obtain ⟨rfl, rfl⟩ : R1 = -1 ∧ R2 = 0 := by simpa using HE.out
     clear HV HE
     rcases q3 with q3 | q3
     rotate_left
     focus
       have q4 : ¬ kk < 1 := by omega
     rotate_left
     all_goals
      go_enter Tryz.func168, Tryz.ntmps168
      go_wp2_with fail
      refine KC.mono ?_
      rintro e W1 ⟨rfl, hb1⟩
      have B1 := hideP hb1
      clear hb1 KC
      go_wp2_with fail
      refine (KF _).mono ?_
      rintro e W2 ⟨rfl, hb2⟩
      have B2 : Hid (Below w.heap.size w W2) := B1.out.trans (hb2.mono B1.out.size)
      clear hb2
      go_wp2_with fail
      refine (KR _ (pow_later HP.out B2.out)).mono ?_
      rintro e W3 ⟨rfl, hb3⟩
      have B3 : Hid (Below w.heap.size w W3) := B2.out.trans (hb3.mono B2.out.size)
      clear hb3
      go_wp2
      go_ret2
      exact ⟨rfl, B3.out⟩
   · have HE := hideP (HV.out.trans (if_neg (fun h => by omega)))
     have q4 : ¬ kk < 1 := by omega
     have q5 : ¬ 99 < kk := by omega
     obtain ⟨rfl, rfl⟩ : R1 = at0 ∧ R2 = kk := by simpa using HE.out
     clear HV HE q3
     go_enter Tryz.func168, Tryz.ntmps168
     go_wp2_with fail
     refine KC.mono ?_
     rintro e W1 ⟨rfl, hb1⟩
     have B1 := hideP hb1
     clear hb1 KC
     go_wp2_with fail
     refine (KF _).mono ?_
     rintro e W2 ⟨rfl, hb2⟩
     have B2 : Hid (Below w.heap.size w W2) := B1.out.trans (hb2.mono B1.out.size)
     clear hb2
     go_wp2_with fail
     refine (KR _ (pow_later HP.out B2.out)).mono ?_
     rintro e W3 ⟨rfl, hb3⟩
     have B3 : Hid (Below w.heap.size w W3) := B2.out.trans (hb3.mono B2.out.size)
     clear hb3
     go_wp2
     go_ret2
     exact ⟨rfl, B3.out⟩
 · have KC : CR 212 #[.string s, .string ⟨#[43]⟩] w (.tuple #[.string s, .string ⟨#[]⟩, .bool false]) := implCut s _ _ _ w (liteMiss s w hix)
   obtain ⟨rfl, rfl⟩ : R1 = findFeast s ∧ R2 = 0 := by simpa using hR.symm.trans hrd
   clear hix hrd hR HP
   have KF : ∀ W, CR 213 #[.string s] W (.int .i64 (findFeast s)) := fun W => implFind s W
   have hfb := find_b s
   generalize findFeast s = at0 at *
   by_cases q1 : at0 < 0
   all_goals
    go_enter Tryz.func168, Tryz.ntmps168
    go_wp2_with fail
    refine KC.mono ?_
    rintro e W1 ⟨rfl, hb1⟩
    have B1 := hideP hb1
    clear hb1 KC
    go_wp2_with fail
    refine (KF _).mono ?_
    rintro e W2 ⟨rfl, hb2⟩
    have B2 : Hid (Below w.heap.size w W2) := B1.out.trans (hb2.mono B1.out.size)
    clear hb2
    go_wp2
    go_ret2
    exact ⟨rfl, B2.out⟩
end Go.Proofs.YtdmlhiailjnhcaaGreatDoor.ctr
