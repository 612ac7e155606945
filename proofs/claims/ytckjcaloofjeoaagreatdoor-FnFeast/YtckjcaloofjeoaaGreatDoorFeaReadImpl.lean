/- Contracts of the program's ReadFeast and FeastPlus: each answers its plain function, at every text of at most 1048576 bytes, where the listed tables hold their numbers. -/
import Derived.Test.YtckjcaloofjeoaaGreatDoorFeaRead
import Derived.Test.YtckjcaloofjeoaaGreatDoorFeaFind
import Derived.Test.YtckjcaloofjeoaaGreatDoorFeaDayCtr
import Derived.Test.YtckjcaloofjeoaaGreatDoorReadImpl
import Derived.Test.YtckjcaloofjeoaaGreatDoorFeaTextImpl
import Derived.PlainAid
namespace Go.Proofs.YtckjcaloofjeoaaGreatDoor.ctr
open Go.RowKit

theorem run_cut_l (s : ByteArray) (p : Nat) (hp : p < s.size) (w : World) : (Instr.slice 9 (.string s) none (some (.int .i64 (p : Int))) none).run Tryz.prog w = .ok (.string (s.extract 0 p)) w :=
  (run_slice_string_h (P := Tryz.prog) (w := w) (t := 9) (s := s) (ht := Tryz.underlying9) .i64 (p : Int) (by omega) (by omega)).trans (by rw [show ((p : Int)).toNat = p from by omega])
theorem run_cut_r (s : ByteArray) (p : Nat) (hp : p < s.size) (w : World) : (Instr.slice 9 (.string s) (some (.int .i64 ((p : Int) + 1))) none none).run Tryz.prog w = .ok (.string (s.extract (p + 1) s.size)) w :=
  (run_slice_string_l (P := Tryz.prog) (w := w) (t := 9) (s := s) (ht := Tryz.underlying9) .i64 ((p : Int) + 1) (by omega) (by omega)).trans (by rw [show ((p : Int) + 1).toNat = p + 1 from by omega])

set_option maxHeartbeats 1000000 in
theorem liteHit (s : ByteArray) (p : Nat) (w : World) (hs : s.size ≤ 1048576) (hp : p < s.size) (hix : Lib.indexByte s.data.toList 43 = p) : Calls Tryz.prog 77 #[.string s, .string ⟨#[43]⟩] w fun e w' => e = .returned (.tuple #[.string (s.extract 0 p), .string (s.extract (p + 1) s.size), .bool true]) ∧ Below w.heap.size w w' := by
  have KI : ∀ W, Calls Tryz.prog 95 #[.string s, .string ⟨#[43]⟩] W fun e w' => e = .returned (.int .i64 (p : Int)) ∧ w' = W := fun W => by rw [← hix]; exact Tryz.stringslite_Index_one s 43 W
  have h1 := run_cut_l s p hp
  have h2 := run_cut_r s p hp
  have hwr : IntKind.i64.wrap ((p : Int) + 1) = (p : Int) + 1 := by rw [PlainAid.i64_is]; unfold wrap64; omega
  have hle : (p : Int) < (s.size : Int) := by omega
  have hle2 : (s.size : Int) ≤ 1048576 := by omega
  clear hix
  go_enter Tryz.func77, Tryz.ntmps77
  go_wp2_with fail
  refine (KI _).mono ?_
  rintro e w1 ⟨rfl, rfl⟩
  go_wp2
  go_region
  all_goals go_wp2
  all_goals go_ret3
  all_goals exact ⟨rfl, (Below.refl _ _).drew⟩
set_option maxHeartbeats 1000000 in
theorem liteMiss (s : ByteArray) (w : World) (hix : Lib.indexByte s.data.toList 43 = -1) : Calls Tryz.prog 77 #[.string s, .string ⟨#[43]⟩] w fun e w' => e = .returned (.tuple #[.string s, .string ⟨#[]⟩, .bool false]) ∧ Below w.heap.size w w' := by
  have KI : ∀ W, Calls Tryz.prog 95 #[.string s, .string ⟨#[43]⟩] W fun e w' => e = .returned (.int .i64 (-1)) ∧ w' = W := fun W => by rw [← hix]; exact Tryz.stringslite_Index_one s 43 W
  clear hix
  go_enter Tryz.func77, Tryz.ntmps77
  go_wp2_with fail
  refine (KI _).mono ?_
  rintro e w1 ⟨rfl, rfl⟩
  go_wp2
  go_ret3
  exact ⟨rfl, Below.refl _ _⟩
set_option maxHeartbeats 1000000 in
theorem implCut (s a b : ByteArray) (f : Bool) (w : World) (h : Calls Tryz.prog 77 #[.string s, .string ⟨#[43]⟩] w fun e w' => e = .returned (.tuple #[.string a, .string b, .bool f]) ∧ Below w.heap.size w w') : Calls Tryz.prog 43 #[.string s, .string ⟨#[43]⟩] w fun e w' => e = .returned (.tuple #[.string a, .string b, .bool f]) ∧ Below w.heap.size w w' := by
  go_enter Tryz.func43, Tryz.ntmps43
  go_wp2_with fail
  refine h.mono ?_
  rintro e w1 ⟨rfl, hb⟩
  go_wp2
  go_ret3
  exact ⟨rfl, hb⟩
/-- What a plus, or none, makes of a text. -/
theorem cut_ways (s : ByteArray) : (∃ p, p < s.size ∧ Lib.indexByte s.data.toList 43 = p ∧ readFeast s = readTwo (s.extract 0 p) (s.extract (p + 1) s.size)) ∨ (Lib.indexByte s.data.toList 43 = -1 ∧ readFeast s = (findFeast s, 0)) := by
  have key : ∀ j, j < s.size → (bAt s j = 43 ↔ s.data.toList[j]? = some 43) := fun j hj => by
    have hl : j < s.data.toList.length := hj
    unfold bAt
    rw [List.getD, List.getElem?_eq_getElem hl]
    constructor
    · intro h
      simp only [Option.getD_some] at h
      have : (s.data.toList[j]).toNat = 43 := by omega
      rw [show s.data.toList[j] = 43 from UInt8.toNat_inj.1 this]
    · intro h
      rw [Option.some.inj h]
      rfl
  by_cases h : Lib.indexByte s.data.toList 43 = -1
  · exact .inr ⟨h, read_plain s fun j hj e => Lib.indexByte_none h j ((key j hj).1 e)⟩
  · have hge := Lib.indexByte_ge s.data.toList 43
    obtain ⟨p, hp⟩ := Int.eq_ofNat_of_zero_le (show 0 ≤ Lib.indexByte s.data.toList 43 by omega)
    obtain ⟨f1, f2⟩ := Lib.indexByte_some hp
    have hps : p < s.size := by
      have : p < s.data.toList.length := (List.getElem?_eq_some_iff.1 f1).1
      exact this
    exact .inl ⟨p, hps, hp, read_split s p hps ((key p hps).2 f1) fun j hj e => f2 j hj ((key j (by omega)).1 e)⟩

set_option maxRecDepth 100000 in
set_option maxHeartbeats 2000000 in
theorem implRead (s : ByteArray) (w : World) (hs : s.size ≤ 1048576) (hP : Pow w) : Calls Tryz.prog 14 #[.string s] w fun e w' => e = .returned (.tuple #[.int .i64 (readFeast s).1, .int .i64 (readFeast s).2]) ∧ Below w.heap.size w w' := by
  have HP := hideP hP
  clear hP
  obtain ⟨R1, R2, hR⟩ : ∃ R1 R2, readFeast s = (R1, R2) := ⟨_, _, rfl⟩
  rw [hR]
  rcases cut_ways s with ⟨p, hp, hix, hrd⟩ | ⟨hix, hrd⟩
  · have KC : Calls Tryz.prog 43 #[.string s, .string ⟨#[43]⟩] w fun e w' => e = .returned (.tuple #[.string (s.extract 0 p), .string (s.extract (p + 1) s.size), .bool true]) ∧ Below w.heap.size w w' := implCut s _ _ _ w (liteHit s p w hs hp hix)
    have hz1 : (s.extract (p + 1) s.size).size ≤ s.size := by rw [ByteArray.size_extract]; omega
    have HV := hideP (hR.symm.trans hrd)
    clear hix hrd hR
    generalize s.extract 0 p = n0 at *
    generalize s.extract (p + 1) s.size = n1 at *
    have KF : ∀ W, Calls Tryz.prog 22 #[.string n0] W fun e w' => e = .returned (.int .i64 (findFeast n0)) ∧ Below W.heap.size W w' := fun W => implFind n0 W
    have KR : ∀ W, Pow W → Calls Tryz.prog 44 #[.string n1] W fun e w' => e = .returned (.int .i64 (readDec n1)) ∧ Below W.heap.size W w' := fun W h => implReadDec n1 W (by unfold maxLen; omega) h
    have hfb := find_b n0
    unfold readTwo at HV
    generalize findFeast n0 = at0 at *
    generalize readDec n1 = kk at *
    by_cases q1 : at0 < 0
    · have HE := hideP (HV.out.trans (if_pos (.inl q1)))
      obtain rfl : at0 = -1 := by omega
      clear HV
      go_enter Tryz.func14, Tryz.ntmps14
      go_wp2_with fail
      refine KC.mono ?_
      rintro e W1 ⟨rfl, hb1⟩
      have B1 := hideP hb1
      clear hb1 KC
      go_wp2_with fail
      refine (KF _).mono ?_
      rintro e W2 ⟨rfl, hb2⟩
      have B2 : Hid (Below w.heap.size w W2) := B1.out.trans (hb2.mono B1.out.size)
      clear hb2
      obtain ⟨rfl, rfl⟩ : R1 = -1 ∧ R2 = 0 := by simpa using HE.out
      go_wp2
      go_ret2
      exact ⟨rfl, B2.out⟩
    by_cases q3 : kk < 1 ∨ 99 < kk
    · have HE := hideP (HV.out.trans (if_pos (.inr q3)))
      obtain ⟨rfl, rfl⟩ : R1 = -1 ∧ R2 = 0 := by simpa using HE.out
      clear HV HE
      rcases q3 with q3 | q3
      · go_enter Tryz.func14, Tryz.ntmps14
        go_wp2_with fail
        refine KC.mono ?_
        rintro e W1 ⟨rfl, hb1⟩
        have B1 := hideP hb1
        clear hb1 KC
        go_wp2_with fail
        refine (KF _).mono ?_
        rintro e W2 ⟨rfl, hb2⟩
        have B2 : Hid (Below w.heap.size w W2) := B1.out.trans (hb2.mono B1.out.size)
        clear hb2
        go_wp2_with fail
        refine (KR _ (pow_later HP.out B2.out)).mono ?_
        rintro e W3 ⟨rfl, hb3⟩
        have B3 : Hid (Below w.heap.size w W3) := B2.out.trans (hb3.mono B2.out.size)
        clear hb3
        go_wp2
        go_ret2
        exact ⟨rfl, B3.out⟩
      · have q4 : ¬ kk < 1 := by omega
        go_enter Tryz.func14, Tryz.ntmps14
        go_wp2_with fail
        refine KC.mono ?_
        rintro e W1 ⟨rfl, hb1⟩
        have B1 := hideP hb1
        clear hb1 KC
        go_wp2_with fail
        refine (KF _).mono ?_
        rintro e W2 ⟨rfl, hb2⟩
        have B2 : Hid (Below w.heap.size w W2) := B1.out.trans (hb2.mono B1.out.size)
        clear hb2
        go_wp2_with fail
        refine (KR _ (pow_later HP.out B2.out)).mono ?_
        rintro e W3 ⟨rfl, hb3⟩
        have B3 : Hid (Below w.heap.size w W3) := B2.out.trans (hb3.mono B2.out.size)
        clear hb3
        go_wp2
        go_ret2
        exact ⟨rfl, B3.out⟩
    · have HE := hideP (HV.out.trans (if_neg (fun h => by omega)))
      have q4 : ¬ kk < 1 := by omega
      have q5 : ¬ 99 < kk := by omega
      obtain ⟨rfl, rfl⟩ : R1 = at0 ∧ R2 = kk := by simpa using HE.out
      clear HV HE q3
      go_enter Tryz.func14, Tryz.ntmps14
      go_wp2_with fail
      refine KC.mono ?_
      rintro e W1 ⟨rfl, hb1⟩
      have B1 := hideP hb1
      clear hb1 KC
      go_wp2_with fail
      refine (KF _).mono ?_
      rintro e W2 ⟨rfl, hb2⟩
      have B2 : Hid (Below w.heap.size w W2) := B1.out.trans (hb2.mono B1.out.size)
      clear hb2
      go_wp2_with fail
      refine (KR _ (pow_later HP.out B2.out)).mono ?_
      rintro e W3 ⟨rfl, hb3⟩
      have B3 : Hid (Below w.heap.size w W3) := B2.out.trans (hb3.mono B2.out.size)
      clear hb3
      go_wp2
      go_ret2
      exact ⟨rfl, B3.out⟩
  · have KC : Calls Tryz.prog 43 #[.string s, .string ⟨#[43]⟩] w fun e w' => e = .returned (.tuple #[.string s, .string ⟨#[]⟩, .bool false]) ∧ Below w.heap.size w w' := implCut s _ _ _ w (liteMiss s w hix)
    obtain ⟨rfl, rfl⟩ : R1 = findFeast s ∧ R2 = 0 := by simpa using hR.symm.trans hrd
    clear hix hrd hR HP
    have KF : ∀ W, Calls Tryz.prog 22 #[.string s] W fun e w' => e = .returned (.int .i64 (findFeast s)) ∧ Below W.heap.size W w' := fun W => implFind s W
    have hfb := find_b s
    generalize findFeast s = at0 at *
    by_cases q1 : at0 < 0
    · go_enter Tryz.func14, Tryz.ntmps14
      go_wp2_with fail
      refine KC.mono ?_
      rintro e W1 ⟨rfl, hb1⟩
      have B1 := hideP hb1
      clear hb1 KC
      go_wp2_with fail
      refine (KF _).mono ?_
      rintro e W2 ⟨rfl, hb2⟩
      have B2 : Hid (Below w.heap.size w W2) := B1.out.trans (hb2.mono B1.out.size)
      clear hb2
      go_wp2
      go_ret2
      exact ⟨rfl, B2.out⟩
    · go_enter Tryz.func14, Tryz.ntmps14
      go_wp2_with fail
      refine KC.mono ?_
      rintro e W1 ⟨rfl, hb1⟩
      have B1 := hideP hb1
      clear hb1 KC
      go_wp2_with fail
      refine (KF _).mono ?_
      rintro e W2 ⟨rfl, hb2⟩
      have B2 : Hid (Below w.heap.size w W2) := B1.out.trans (hb2.mono B1.out.size)
      clear hb2
      go_wp2
      go_ret2
      exact ⟨rfl, B2.out⟩

set_option maxRecDepth 100000 in
set_option maxHeartbeats 2000000 in
theorem implPlusDay (c y : Int) (s : ByteArray) (w : World) (hs : s.size ≤ 1048576) (hT : Tab w) (hP : Pow w) : Calls Tryz.prog 25 #[.int .i64 c, .int .i64 y, .string s] w fun e w' => e = .returned (.int .i64 (feastPlus c y s)) ∧ Below w.heap.size w w' := by
  have KR := implRead s w hs hP
  have hrb := readFeast_b s
  have HV : Hid (feastPlus c y s = if (readFeast s).1 < 0 ∨ ¬ yearP c y then 0 else (feaAt (readFeast s).1.toNat).day c y + (readFeast s).2) := rfl
  obtain ⟨R, hR⟩ : ∃ R, R = feastPlus c y s := ⟨_, rfl⟩
  rw [← hR]
  have HR := hideP (hR.trans HV.out)
  have HT := hideP hT
  clear hR HV hT hP
  generalize readFeast s = rf at *
  obtain ⟨i, k⟩ := rf
  simp only at hrb HR KR
  obtain ⟨hi1, hi2, hk1, hk2⟩ := hrb
  have KY : ∀ W, Tab W → Calls Tryz.prog 32 #[.int .i64 c, .int .i64 y] W fun e w' => e = .returned (.bool (yearB c y)) ∧ Below W.heap.size W w' := fun W h => implYearOk c y W h
  by_cases q1 : i < 0
  · have HE := hideP (HR.out.trans (if_pos (.inl q1)))
    clear HR
    go_enter Tryz.func25, Tryz.ntmps25
    go_wp2_with fail
    refine KR.mono ?_
    rintro e W1 ⟨rfl, hb1⟩
    go_wp2
    go_ret
    exact ⟨ret_int HE.out.symm, hb1⟩
  by_cases q2 : yearP c y
  case neg =>
    have HE := hideP (HR.out.trans (if_pos (.inr q2)))
    rw [yearB_false q2] at KY
    clear HR q2
    go_enter Tryz.func25, Tryz.ntmps25
    go_wp2_with fail
    refine KR.mono ?_
    rintro e W1 ⟨rfl, hb1⟩
    have B1 := hideP hb1
    clear hb1
    go_wp2_with fail
    refine (KY _ (HT.out.later B1.out)).mono ?_
    rintro e W2 ⟨rfl, hb2⟩
    have B2 : Hid (Below w.heap.size w W2) := B1.out.trans (hb2.mono B1.out.size)
    clear hb2
    go_wp2
    go_ret
    exact ⟨ret_int HE.out.symm, B2.out⟩
  obtain ⟨j, rfl⟩ := Int.eq_ofNat_of_zero_le (show 0 ≤ i by omega)
  have HE := hideP (HR.out.trans (if_neg (fun h => h.elim q1 (fun h => h q2))))
  rw [yearB_true q2] at KY
  have hj : j < 20 := by omega
  clear HR q2
  have hdb := Fea.day_b (feaAt j) c y
  go_enter Tryz.func25, Tryz.ntmps25
  go_wp2_with fail
  refine KR.mono ?_
  rintro e W1 ⟨rfl, hb1⟩
  have B1 := hideP hb1
  clear hb1
  go_wp2_with fail
  refine (KY _ (HT.out.later B1.out)).mono ?_
  rintro e W2 ⟨rfl, hb2⟩
  have B2 : Hid (Below w.heap.size w W2) := B1.out.trans (hb2.mono B1.out.size)
  clear hb2
  go_wp2_with fail
  refine (implFeasts _).mono ?_
  rintro e W3 ⟨v, rfl, hr, hb3⟩
  obtain ⟨g, cap, rfl, hg, hc⟩ := hr.row
  have B3 : Hid (Below w.heap.size w W3) := B2.out.trans (hb3.mono B2.out.size)
  have c0 := hc j hj 0 (by omega)
  have c1 := hc j hj 1 (by omega)
  have c2 := hc j hj 2 (by omega)
  have c3 := hc j hj 3 (by omega)
  have c4 := hc j hj 4 (by omega)
  clear hr hb3 hc
  have hsz := feaAt_size0 ⟨j, hj⟩
  dsimp only at hsz
  have HE2 : Hid (R = (feaAt j).day c y + k) := HE.out
  clear HE
  generalize feaAt j = f at *
  obtain ⟨s', fm, o, m, d⟩ := f
  simp only [Fea.cs, List.getElem?_cons_zero, List.getElem?_cons_succ, Nat.add_zero] at c0 c1 c2 c3 c4
  dsimp only at hsz
  have KF : ∀ W, Tab W → Calls Tryz.prog 7 #[.int .i64 c, .int .i64 y, .agg #[.string s', .bool fm, .int .i64 o, .int .i64 m, .int .i64 d]] W fun e w' => e = .returned (.int .i64 (Fea.day ⟨s', fm, o, m, d⟩ c y)) ∧ Below W.heap.size W w' := fun W h => implFeaDay c y s' fm o m d W (by unfold maxLen; omega) h
  generalize Fea.day ⟨s', fm, o, m, d⟩ c y = day at *
  go_wp2_with fail
  refine (KF _ (HT.out.later B3.out)).mono ?_
  rintro e W4 ⟨rfl, hb4⟩
  have B4 : Hid (Below w.heap.size w W4) := B3.out.trans (hb4.mono B3.out.size)
  clear hb4
  go_wp2
  go_ret
  exact ⟨ret_int HE2.out.symm, B4.out⟩
end Go.Proofs.YtckjcaloofjeoaaGreatDoor.ctr
