/- Contract of the program's FeastText: it answers its plain function at every argument, where the tables of mont; and what else the law reaches. -/
import Derived.Test.YtpclaceefapppaaGreatDoorJnZbd
import Derived.Test.YtpclaceefapppaaGreatDoorJnZat
import Derived.Test.YtpclaceefapppaaGreatDoorJnZar
import Derived.Test.YtpclaceefapppaaGreatDoorJnZag
import Derived.Test.YtpclaceefapppaaGreatDoorJnZas
import Derived.PlainAid
set_option maxRecDepth 100000
set_option maxHeartbeats 2000000
namespace Go.Proofs.YtpclaceefapppaaGreatDoor.ctr
open Go.RowKit
abbrev Pow (w : World) : Prop := Lib.TabIs Tryz.prog w "internal/strconv.uint64pow10" .u64 Lib.pow10Tab
theorem pow_later {w w1 : World} (h : Pow w) (hb : Below w.heap.size w w1) : Pow w1 := kit.tab_below h hb (g := 7) (by kernel_rfl)
theorem run_cut_l (s : ByteArray) (p : Nat) (hp : p < s.size) (w : World) : (Instr.slice 9 (.string s) none (some (.int .i64 (p : Int))) none).run Tryz.prog w = .ok (.string (s.extract 0 p)) w :=
 (run_slice_string_h (P := Tryz.prog) (w := w) (t := 9) (s := s) (ht := Tryz.underlying9) .i64 (p : Int) (by omega) (by omega)).trans (by rw [show ((p : Int)).toNat = p from by omega])
theorem run_cut_r (s : ByteArray) (p : Nat) (hp : p < s.size) (w : World) : (Instr.slice 9 (.string s) (some (.int .i64 ((p : Int) + 1))) none none).run Tryz.prog w = .ok (.string (s.extract (p + 1) s.size)) w :=
 (run_slice_string_l (P := Tryz.prog) (w := w) (t := 9) (s := s) (ht := Tryz.underlying9) .i64 ((p : Int) + 1) (by omega) (by omega)).trans (by rw [show ((p : Int) + 1).toNat = p + 1 from by omega])
theorem liteHit (s : ByteArray) (p : Nat) (w : World) (hs : s.size ≤ 1048576) (hp : p < s.size) (hix : Lib.indexByte s.data.toList 43 = p) : CR 165 #[.string s, .string ⟨#[43]⟩] w (.tuple #[.string (s.extract 0 p), .string (s.extract (p + 1) s.size), .bool true]) := by
 have KI : ∀ W, CS 232 #[.string s, .string ⟨#[43]⟩] W (.int .i64 (p : Int)) := fun W => by rw [← hix]; exact Tryz.stringslite_Index_one s 43 W
 have h1 := run_cut_l s p hp
 have h2 := run_cut_r s p hp
 have hwr : IntKind.i64.wrap ((p : Int) + 1) = (p : Int) + 1 := by rw [PlainAid.i64_is]; unfold wrap64; omega
 have hle : (p : Int) < (s.size : Int) := by omega
 have hle2 : (s.size : Int) ≤ 1048576 := by omega
 clear hix
 go_enter Tryz.func165, Tryz.ntmps165
 go_wp2_with fail
 refine sameC (KI _) ?_
 go_wp2
 go_region
 all_goals go_wp2
 all_goals go_ret3
 all_goals exact ⟨rfl, (Below.refl _ _).drew⟩
theorem liteMiss (s : ByteArray) (w : World) (hix : Lib.indexByte s.data.toList 43 = -1) : CR 165 #[.string s, .string ⟨#[43]⟩] w (.tuple #[.string s, .string ⟨#[]⟩, .bool false]) := by
 have KI : ∀ W, CS 232 #[.string s, .string ⟨#[43]⟩] W (.int .i64 (-1)) := fun W => by rw [← hix]; exact Tryz.stringslite_Index_one s 43 W
 clear hix
 go_enter Tryz.func165, Tryz.ntmps165
 go_wp2_with fail
 refine sameC (KI _) ?_
 go_wp2
 go_ret3
 exact ⟨rfl, Below.refl _ _⟩
theorem implCut (s a b : ByteArray) (f : Bool) (w : World) (h : CR 165 #[.string s, .string ⟨#[43]⟩] w (.tuple #[.string a, .string b, .bool f])) : CR 116 #[.string s, .string ⟨#[43]⟩] w (.tuple #[.string a, .string b, .bool f]) := by
 go_enter Tryz.func116, Tryz.ntmps116
 go_wp2_with fail
 refine h.mono ?_
 rintro e w1 ⟨rfl, hb⟩
 go_wp2
 go_ret3
 exact ⟨rfl, hb⟩
theorem cut_ways (s : ByteArray) : (∃ p, p < s.size ∧ Lib.indexByte s.data.toList 43 = p ∧ readFeast s = readTwo (s.extract 0 p) (s.extract (p + 1) s.size)) ∨ (Lib.indexByte s.data.toList 43 = -1 ∧ readFeast s = (findFeast s, 0)) := by
 have key : ∀ j, j < s.size → (bAt s j = 43 ↔ s.data.toList[j]? = some 43) := fun j hj => by
  have hl : j < s.data.toList.length := hj
  unfold bAt
  rw [List.getD, List.getElem?_eq_getElem hl]
  constructor
  · intro h
    simp only [Option.getD_some] at h
    have : (s.data.toList[j]).toNat = 43 := by omega
    rw [show s.data.toList[j] = 43 from UInt8.toNat_inj.1 this]
  · intro h
    rw [Option.some.inj h]
    rfl
 by_cases h : Lib.indexByte s.data.toList 43 = -1
 · exact .inr ⟨h, read_plain s fun j hj e => Lib.indexByte_none h j ((key j hj).1 e)⟩
 · have hge := Lib.indexByte_ge s.data.toList 43
   obtain ⟨p, hp⟩ := Int.eq_ofNat_of_zero_le (show 0 ≤ Lib.indexByte s.data.toList 43 by omega)
   obtain ⟨f1, f2⟩ := Lib.indexByte_some hp
   have hps : p < s.size := by
    have : p < s.data.toList.length := (List.getElem?_eq_some_iff.1 f1).1
    exact this
   exact .inl ⟨p, hps, hp, read_split s p hps ((key p hps).2 f1) fun j hj e => f2 j hj ((key j (by omega)).1 e)⟩
theorem implRead (s : ByteArray) (w : World) (hs : s.size ≤ 1048576) (hP : Pow w) : CR 119 #[.string s] w (.tuple #[.int .i64 (readFeast s).1, .int .i64 (readFeast s).2]) := by
 have HP := hideP hP
 clear hP
 obtain ⟨R1, R2, hR⟩ : ∃ R1 R2, readFeast s = (R1, R2) := ⟨_, _, rfl⟩
 rw [hR]
 rcases cut_ways s with ⟨p, hp, hix, hrd⟩ | ⟨hix, hrd⟩
 · have KC : CR 116 #[.string s, .string ⟨#[43]⟩] w (.tuple #[.string (s.extract 0 p), .string (s.extract (p + 1) s.size), .bool true]) := implCut s _ _ _ w (liteHit s p w hs hp hix)
   have hz1 : (s.extract (p + 1) s.size).size ≤ s.size := by rw [ByteArray.size_extract]; omega
   have HV := hideP (hR.symm.trans hrd)
   clear hix hrd hR
   generalize s.extract 0 p = n0 at *
   generalize s.extract (p + 1) s.size = n1 at *
   have KF : ∀ W, CR 171 #[.string n0] W (.int .i64 (findFeast n0)) := fun W => implFind n0 W
   have KR : ∀ W, Pow W → CR 117 #[.string n1] W (.int .i64 (readDec n1)) := fun W h => implReadDec n1 W (by unfold maxLen; omega) h
   have hfb := find_b n0
   unfold readTwo at HV
   generalize findFeast n0 = at0 at *
   generalize readDec n1 = kk at *
   by_cases q1 : at0 < 0
   · have HE := hideP (HV.out.trans (if_pos (.inl q1)))
     obtain rfl : at0 = -1 := by omega
     clear HV
     go_enter Tryz.func119, Tryz.ntmps119
     go_wp2_with fail
     refine KC.mono ?_
     rintro e W1 ⟨rfl, hb1⟩
     have B1 := hideP hb1
     clear hb1 KC
     go_wp2_with fail
     refine (KF _).mono ?_
     rintro e W2 ⟨rfl, hb2⟩
     have B2 : Hid (Below w.heap.size w W2) := B1.out.trans (hb2.mono B1.out.size)
     clear hb2
     obtain ⟨rfl, rfl⟩ : R1 = -1 ∧ R2 = 0 := by simpa using HE.out
     go_wp2
     go_ret2
     exact ⟨rfl, B2.out⟩
   by_cases q3 : kk < 1 ∨ 99 < kk
   · have HE := hideP (HV.out.trans (if_pos (.inr q3)))
     obtain ⟨rfl, rfl⟩ : R1 = -1 ∧ R2 = 0 := by simpa using HE.out
     clear HV HE
     rcases q3 with q3 | q3
     rotate_left
     focus
       have q4 : ¬ kk < 1 := by omega
     rotate_left
     all_goals
      go_enter Tryz.func119, Tryz.ntmps119
      go_wp2_with fail
      refine KC.mono ?_
      rintro e W1 ⟨rfl, hb1⟩
      have B1 := hideP hb1
      clear hb1 KC
      go_wp2_with fail
      refine (KF _).mono ?_
      rintro e W2 ⟨rfl, hb2⟩
      have B2 : Hid (Below w.heap.size w W2) := B1.out.trans (hb2.mono B1.out.size)
      clear hb2
      go_wp2_with fail
      refine (KR _ (pow_later HP.out B2.out)).mono ?_
      rintro e W3 ⟨rfl, hb3⟩
      have B3 : Hid (Below w.heap.size w W3) := B2.out.trans (hb3.mono B2.out.size)
      clear hb3
      go_wp2
      go_ret2
      exact ⟨rfl, B3.out⟩
   · have HE := hideP (HV.out.trans (if_neg (fun h => by omega)))
     have q4 : ¬ kk < 1 := by omega
     have q5 : ¬ 99 < kk := by omega
     obtain ⟨rfl, rfl⟩ : R1 = at0 ∧ R2 = kk := by simpa using HE.out
     clear HV HE q3
     go_enter Tryz.func119, Tryz.ntmps119
     go_wp2_with fail
     refine KC.mono ?_
     rintro e W1 ⟨rfl, hb1⟩
     have B1 := hideP hb1
     clear hb1 KC
     go_wp2_with fail
     refine (KF _).mono ?_
     rintro e W2 ⟨rfl, hb2⟩
     have B2 : Hid (Below w.heap.size w W2) := B1.out.trans (hb2.mono B1.out.size)
     clear hb2
     go_wp2_with fail
     refine (KR _ (pow_later HP.out B2.out)).mono ?_
     rintro e W3 ⟨rfl, hb3⟩
     have B3 : Hid (Below w.heap.size w W3) := B2.out.trans (hb3.mono B2.out.size)
     clear hb3
     go_wp2
     go_ret2
     exact ⟨rfl, B3.out⟩
 · have KC : CR 116 #[.string s, .string ⟨#[43]⟩] w (.tuple #[.string s, .string ⟨#[]⟩, .bool false]) := implCut s _ _ _ w (liteMiss s w hix)
   obtain ⟨rfl, rfl⟩ : R1 = findFeast s ∧ R2 = 0 := by simpa using hR.symm.trans hrd
   clear hix hrd hR HP
   have KF : ∀ W, CR 171 #[.string s] W (.int .i64 (findFeast s)) := fun W => implFind s W
   have hfb := find_b s
   generalize findFeast s = at0 at *
   by_cases q1 : at0 < 0
   all_goals
    go_enter Tryz.func119, Tryz.ntmps119
    go_wp2_with fail
    refine KC.mono ?_
    rintro e W1 ⟨rfl, hb1⟩
    have B1 := hideP hb1
    clear hb1 KC
    go_wp2_with fail
    refine (KF _).mono ?_
    rintro e W2 ⟨rfl, hb2⟩
    have B2 : Hid (Below w.heap.size w W2) := B1.out.trans (hb2.mono B1.out.size)
    clear hb2
    go_wp2
    go_ret2
    exact ⟨rfl, B2.out⟩
end Go.Proofs.YtpclaceefapppaaGreatDoor.ctr
