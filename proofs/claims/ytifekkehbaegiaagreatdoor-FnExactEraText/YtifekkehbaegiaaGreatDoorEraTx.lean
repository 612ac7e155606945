/- Contracts of both EraText and of the program's eraNumber: each answers its plain text, where the program's tables hold what they must. -/
import Derived.Test.YtifekkehbaegiaaGreatDoorEraDy
import Derived.Test.YtifekkehbaegiaaGreatDoorStyText
import Derived.Test.YtifekkehbaegiaaGreatDoorRomanPut
import Derived.Deep.RegionWith
namespace Go.Proofs.YtifekkehbaegiaaGreatDoor.ctr
open Go.RowKit

/-- A number as a numeral, or in digits above the numerals. -/
def numText (k : Int) : ByteArray := if 3999 < k then itoaB k else putRoman k
theorem num_dec {k : Int} (h : 3999 < k) : numText k = itoaB k := by unfold numText; rw [if_pos h]
theorem num_rom {k : Int} (h : ¬ 3999 < k) : numText k = putRoman k := by unfold numText; rw [if_neg h]
theorem rom_size (k : Int) : (putRoman k).size ≤ 15 := by
  unfold putRoman
  split
  · rename_i h
    show (roman k.toNat).length ≤ 15
    unfold roman
    rw [List.length_append, List.length_append, List.length_append, manyL_len]
    have h1 := digL_len (k.toNat / 100 % 10) 67 68 77
    have h2 := digL_len (k.toNat / 10 % 10) 88 76 67
    have h3 := digL_len (k.toNat % 10) 73 86 88
    omega
  · show 0 ≤ 15
    omega
theorem dec_size5 {e : Int} (h0 : 0 ≤ e) (h1 : e ≤ 12000) : (itoaB e).size ≤ 5 := by
  have hi : Lib.itoa e = Lib.decDigits e.toNat := by unfold Lib.itoa; rw [if_neg (by omega)]
  have hs : (itoaB e).size = (Lib.decDigits e.toNat).length := by show (Lib.itoa e).length = _; rw [hi]
  rw [hs]
  exact dec_len 4 e.toNat (by have : (10 : Nat) ^ (4 + 1) = 100000 := rfl; omega)
theorem num_size {k : Int} (h0 : 0 ≤ k) (h1 : k ≤ 12000) : (numText k).size ≤ 15 := by
  unfold numText
  split
  · have := dec_size5 h0 h1
    omega
  · exact rom_size k
noncomputable def eraText (c : Int) (s : ByteArray) (n : Int) : ByteArray := if (yrOf c s n).2 = true then s ++ ⟨#[32]⟩ ++ numText (yrOf c s n).1 else noText
theorem text_no {c : Int} {s : ByteArray} {n y : Int} (h : yrOf c s n = (y, false)) : eraText c s n = noText := by unfold eraText; rw [h]; rfl
theorem text_yes {c : Int} {s : ByteArray} {n y : Int} (h : yrOf c s n = (y, true)) : eraText c s n = s ++ ⟨#[32]⟩ ++ numText y := by unfold eraText; rw [h]; rfl
theorem yr_bound {c : Int} {s : ByteArray} {n y : Int} {b : Bool} (h : yrOf c s n = (y, b)) : 0 ≤ y ∧ y ≤ 12000 := by
  have := eraYr_bound c (eraOf s).name (eraOf s).st (eraOf s).add (eraOf s).cyc n
  unfold yrOf at h
  rw [h] at this
  exact this
theorem implEraNumber (k : Int) (w : World) (h0 : 0 ≤ k) (h1 : k ≤ 12000) (hP : Pow w) (hS : Shp w) : Calls Tryz.prog 63 #[.int .i64 k] w fun e w' => e = .returned (.string (numText k)) ∧ Below w.heap.size w w' := by
  by_cases h : 3999 < k
  · have K : Calls Tryz.prog 67 #[.int .i64 k] w fun e w' => e = .returned (.string (itoaB k)) ∧ Below w.heap.size w w' := implDecText k w (by omega) (by omega) hP
    rw [num_dec h]
    generalize itoaB k = t at *
    clear hP hS
    go_enter Tryz.func63, Tryz.ntmps63
    go_wp2_with fail
    refine K.mono ?_
    rintro e w1 ⟨rfl, hb⟩
    go_wp2
    go_ret
    exact ⟨rfl, hb⟩
  · have K : Calls Tryz.prog 87 #[.int .i64 k] w fun e w' => e = .returned (.string (putRoman k)) ∧ Below w.heap.size w w' := implPutRoman k w hS
    rw [num_rom h]
    generalize putRoman k = t at *
    clear hP hS
    go_enter Tryz.func63, Tryz.ntmps63
    go_wp2_with fail
    refine K.mono ?_
    rintro e w1 ⟨rfl, hb⟩
    go_wp2
    go_ret
    exact ⟨rfl, hb⟩

set_option maxRecDepth 100000 in
set_option maxHeartbeats 2000000 in
theorem specEraText (c : Int) (s : ByteArray) (n : Int) (w : World) : Calls Tryz.prog 26 #[.int .i64 c, .string s, .int .i64 n] w fun e w' => e = .returned (.string (eraText c s n)) ∧ Below w.heap.size w w' := by
  have KF : ∀ W, Calls Tryz.prog 24 #[.string s] W fun e w' => e = .returned (.int .i64 (findEra s)) ∧ Below W.heap.size W w' := specFindEra s
  rcases find_cases s with hf | ⟨q, hq, hf, hn⟩
  · rw [text_no (yrOf_no hf)]
    rw [hf] at KF
    unfold noText
    clear hf
    go_enter Tryz.func26, Tryz.ntmps26
    go_wp2_with fail
    refine (KF _).mono ?_
    rintro e w1 ⟨rfl, hb⟩
    go_wp2
    go_ret
    exact ⟨rfl, hb⟩
  have hsz : s.size ≤ 16 := by rw [← hn]; exact eraAt_size0 ⟨q, hq⟩
  have KY : ∀ W, Calls Tryz.prog 9 #[.int .i64 c, .agg #[.string (eraAt q).name, .int .i64 (eraAt q).st, .int .i64 (eraAt q).add, .int .i64 (eraAt q).cyc], .int .i64 n] W fun e w' => e = .returned (.tuple #[.int .i64 (yrOf c s n).1, .bool (yrOf c s n).2]) ∧ Below W.heap.size W w' := fun W => by
    have h := specEraYear c (eraAt q).name (eraAt q).st (eraAt q).add (eraAt q).cyc n W (by have := eraAt_size0 ⟨q, hq⟩; unfold maxLen; dsimp only at this; omega)
    rw [← eraR_yr, eraOf_at hf]
    exact h
  rw [hf] at KF
  clear hn
  obtain ⟨y, b, hyr⟩ : ∃ y b, yrOf c s n = (y, b) := ⟨_, _, rfl⟩
  obtain ⟨y0, y1⟩ := yr_bound hyr
  rw [hyr] at KY
  clear hf
  cases b
  · rw [text_no hyr]
    unfold noText
    clear hyr
    go_enter Tryz.func26, Tryz.ntmps26
    go_wp2_with fail
    refine (KF _).mono ?_
    rintro e w1 ⟨rfl, hb⟩
    obtain ⟨x1, rfl⟩ := Later.of hb
    clear hb
    go_wp2_with fail
    refine (specEras _).mono ?_
    rintro e W1 ⟨v, rfl, hr, hb⟩
    obtain ⟨g, cap, rfl, hg, H⟩ := hr.row.at
    obtain ⟨d0, d1, d2, d3⟩ := H W1 (Below.refl _ _) q hq
    obtain ⟨x2, rfl⟩ := x1.next hb
    clear hb hr H
    generalize eraAt q = er at *
    obtain ⟨nm, st, ad, cy⟩ := er
    dsimp only at d0 d1 d2 d3 KY
    go_wp2_with fail
    refine (KY _).mono ?_
    rintro e w3 ⟨rfl, hb⟩
    obtain ⟨x3, rfl⟩ := x2.next hb
    clear hb d0 d1 d2 d3
    go_wp2
    go_ret
    exact ⟨rfl, x3.below⟩
  rw [text_yes hyr]
  clear hyr
  have s1 : (s ++ (⟨#[32]⟩ : ByteArray)).size ≤ 17 := by rw [ByteArray.size_append]; show s.size + 1 ≤ 17; omega
  by_cases h : 3999 < y
  · have KD : ∀ W, Calls Tryz.prog 64 #[.int .i64 y] W fun e w' => e = .returned (.string (itoaB y)) ∧ Below W.heap.size W w' := fun W => calls_bel (specDecText y W (by omega) (by omega))
    rw [num_dec h]
    have s2 := dec_size5 y0 y1
    generalize itoaB y = t at *
    go_enter Tryz.func26, Tryz.ntmps26
    go_wp2_with fail
    refine (KF _).mono ?_
    rintro e w1 ⟨rfl, hb⟩
    obtain ⟨x1, rfl⟩ := Later.of hb
    clear hb
    go_wp2_with fail
    refine (specEras _).mono ?_
    rintro e W1 ⟨v, rfl, hr, hb⟩
    obtain ⟨g, cap, rfl, hg, H⟩ := hr.row.at
    obtain ⟨d0, d1, d2, d3⟩ := H W1 (Below.refl _ _) q hq
    obtain ⟨x2, rfl⟩ := x1.next hb
    clear hb hr H
    generalize eraAt q = er at *
    obtain ⟨nm, st, ad, cy⟩ := er
    dsimp only at d0 d1 d2 d3 KY
    go_wp2_with fail
    refine (KY _).mono ?_
    rintro e w3 ⟨rfl, hb⟩
    obtain ⟨x3, rfl⟩ := x2.next hb
    clear hb d0 d1 d2 d3
    go_wp2_with fail
    refine (KD _).mono ?_
    rintro e w4 ⟨rfl, hb⟩
    obtain ⟨x4, rfl⟩ := x3.next hb
    clear hb
    go_wp2
    go_ret
    exact ⟨rfl, x4.below⟩
  · have KD : ∀ W, Calls Tryz.prog 65 #[.int .i64 y] W fun e w' => e = .returned (.string (putRoman y)) ∧ Below W.heap.size W w' := fun W => calls_bel (specPutRoman y W)
    rw [num_rom h]
    have s2 := rom_size y
    generalize putRoman y = t at *
    go_enter Tryz.func26, Tryz.ntmps26
    go_wp2_with fail
    refine (KF _).mono ?_
    rintro e w1 ⟨rfl, hb⟩
    obtain ⟨x1, rfl⟩ := Later.of hb
    clear hb
    go_wp2_with fail
    refine (specEras _).mono ?_
    rintro e W1 ⟨v, rfl, hr, hb⟩
    obtain ⟨g, cap, rfl, hg, H⟩ := hr.row.at
    obtain ⟨d0, d1, d2, d3⟩ := H W1 (Below.refl _ _) q hq
    obtain ⟨x2, rfl⟩ := x1.next hb
    clear hb hr H
    generalize eraAt q = er at *
    obtain ⟨nm, st, ad, cy⟩ := er
    dsimp only at d0 d1 d2 d3 KY
    go_wp2_with fail
    refine (KY _).mono ?_
    rintro e w3 ⟨rfl, hb⟩
    obtain ⟨x3, rfl⟩ := x2.next hb
    clear hb d0 d1 d2 d3
    go_wp2_with fail
    refine (KD _).mono ?_
    rintro e w4 ⟨rfl, hb⟩
    obtain ⟨x4, rfl⟩ := x3.next hb
    clear hb
    go_wp2
    go_ret
    exact ⟨rfl, x4.below⟩

set_option maxRecDepth 100000 in
set_option maxHeartbeats 2000000 in
theorem implEraText (c : Int) (s : ByteArray) (n : Int) (w : World) (hT : Tab w) (hP : Pow w) (hS : Shp w) : Calls Tryz.prog 25 #[.int .i64 c, .string s, .int .i64 n] w fun e w' => e = .returned (.string (eraText c s n)) ∧ Below w.heap.size w w' := by
  have KY : ∀ W, Tab W → Calls Tryz.prog 8 #[.int .i64 c, .agg #[.string (eraOf s).name, .int .i64 (eraOf s).st, .int .i64 (eraOf s).add, .int .i64 (eraOf s).cyc], .int .i64 n] W fun e w' => e = .returned (.tuple #[.int .i64 (yrOf c s n).1, .bool (yrOf c s n).2]) ∧ Below W.heap.size W w' := fun W hTW => by
    rw [← eraR_yr]
    exact implEraYear c (eraOf s).name (eraOf s).st (eraOf s).add (eraOf s).cyc n W (by have := eraOf_size s; unfold maxLen; omega) hTW
  have KYh := hideP KY
  have HT := hideP hT
  have HP := hideP hP
  have HS := hideP hS
  clear KY hT hP hS
  obtain ⟨y, b, hyr⟩ : ∃ y b, yrOf c s n = (y, b) := ⟨_, _, rfl⟩
  obtain ⟨y0, y1⟩ := yr_bound hyr
  rw [hyr] at KYh
  have hname : b = true → (eraOf s).name = s := fun hb => by
    rcases find_cases s with hf | ⟨q, _, hf, hn⟩
    · rw [yrOf_no hf] at hyr
      have : b = false := (congrArg Prod.snd hyr).symm
      rw [this] at hb
      cases hb
    · rw [eraOf_at hf]
      exact hn
  have hsz := eraOf_size s
  have HN := hideP hname
  have HTX : Hid (eraText c s n = if b = true then s ++ ⟨#[32]⟩ ++ numText y else noText) := by unfold Hid eraText; rw [hyr]
  clear hname hyr
  go_enter Tryz.func25, Tryz.ntmps25
  go_wp2_with fail
  refine (implMap _).mono ?_
  rintro e W1 ⟨M, rfl, hM, hg, hb⟩
  have HB1 := hideP hb
  clear hb
  have hlook : (Instr.lookup 72 (.map (some M)) (.string s) false).run Tryz.prog W1 = .ok (placed (eraOf s) (findEra s).toNat) W1 := by
    rcases run_look W1 M hM s with ⟨hf, hr⟩ | ⟨q, hq, hf, hn, hr⟩
    · have := hr false
      rw [this, eraOf_no hf, hf]
      rfl
    · have := hr false
      rw [this, eraOf_at hf, hf]
      rfl
  clear hM
  unfold placed at hlook
  generalize (((findEra s).toNat : Nat) : Int) = at0 at *
  generalize eraOf s = er at *
  obtain ⟨nm, st, ad, cy⟩ := er
  dsimp only at hlook KYh HN hsz
  have hfld := field0 nm st ad cy at0
  go_wp2_with fail
  obtain ⟨Wb, hWb⟩ : ∃ Wb, Wb = W1.alloc (.cells #[.string nm, .int .i64 st, .int .i64 ad, .int .i64 cy] 25) := ⟨_, rfl⟩
  have c0 : ∀ x : Later Wb, x.w.cell? ⟨W1.heap.size, 0, none⟩ = some (.string nm) := Later.new hWb 0 rfl
  have HBb : Hid (Below w.heap.size w Wb) := by unfold Hid; rw [hWb]; exact HB1.out.alloc HB1.out.size _
  rw [← hWb]
  clear hWb hlook hfld
  refine (KYh.out Wb (HT.out.later HBb.out)).mono ?_
  rintro e w3 ⟨rfl, hb⟩
  obtain ⟨x3, rfl⟩ := Later.of hb
  clear hb
  have HBl : Hid (∀ x : Later Wb, Below w.heap.size w x.w) := fun x => HBb.out.trans (x.below.mono HBb.out.size)
  cases b
  · have HX := hideP (HTX.out.trans (if_neg (by simp)))
    clear c0
    go_wp2
    go_ret
    exact ⟨ret_to (congrArg Value.string HX.out), HBl.out x3⟩
  · have HX := hideP (HTX.out.trans (if_pos rfl))
    obtain rfl : nm = s := HN.out rfl
    have KN : ∀ x : Later Wb, Calls Tryz.prog 63 #[.int .i64 y] x.w fun e w' => e = .returned (.string (numText y)) ∧ Below x.w.heap.size x.w w' := fun x => implEraNumber y x.w y0 y1 (pow_later HP.out (HBl.out x)) (HS.out.later (HBl.out x))
    have s1 : (nm ++ (⟨#[32]⟩ : ByteArray)).size ≤ 17 := by rw [ByteArray.size_append]; show nm.size + 1 ≤ 17; omega
    have s2 := num_size y0 y1
    clear HTX HN KYh
    generalize numText y = t at *
    go_wp2_with fail
    refine wp_region_later (W := Wb) x3.below (by kernel_rfl) (by kernel_rfl) ?_
    repeat (go_big_quiet_step (first | (go_at_call 63; exact calls_later (KN _)) | fail))
    refine wpQuiet_nil ?_
    intro _ hw'
    obtain ⟨x, rfl⟩ := hw'
    go_wp2
    go_ret
    exact ⟨ret_to (congrArg Value.string HX.out), HBl.out x⟩
end Go.Proofs.YtifekkehbaegiaaGreatDoor.ctr
