/- The program's RomanText and the marks of ReadRoman. -/
import Derived.Test.YtpclaceefapppaaGreatDoorJnZaq
import Derived.Test.YtpclaceefapppaaGreatDoorJnZatA
import Derived.Test.YtpclaceefapppaaGreatDoorShelfZ
set_option maxRecDepth 100000
set_option maxHeartbeats 8000000
namespace Go.Proofs.YtpclaceefapppaaGreatDoor.ctr
open Go.RowKit
def marks3 : List (List UInt8) := [[107, 97, 108], [110, 111, 110], [105, 100]]
abbrev Mrk (w : World) : Prop := kit.StrIs Tryz.prog w "loop.example/g00638/impl.markNames" marks3
abbrev Mon (w : World) : Prop := kit.StrIs Tryz.prog w "loop.example/g00638/impl.monthNames" mons
theorem Mrk.later {w w1 : World} (h : Mrk w) (hb : Below w.heap.size w w1) : Mrk w1 := kit.StrIs.below h hb (g := 3) (by kernel_rfl)
theorem Mon.later {w w1 : World} (h : Mon w) (hb : Below w.heap.size w w1) : Mon w1 := kit.StrIs.below h hb (g := 1) (by kernel_rfl)
theorem Mrk.at {w : World} (h : Mrk w) (k : Nat) (hk : k < 3) : w.cell? ⟨3, k, none⟩ = some (.string ⟨(markL k).toArray⟩) := by
 have := h.cell (g := 3) (by kernel_rfl) k hk
 rw [this]
 have : k = 0 ∨ k = 1 ∨ k = 2 := by omega
 rcases this with rfl | rfl | rfl <;> rfl
theorem implOk (r : Rom) (w : World) (hT : Tab w) : CR 236 #[romV r] w (.bool (romB r)) := by
 obtain ⟨cn, mk, mo, tw⟩ := r
 obtain ⟨W0, hW0, c0, c1, c2, c3, hBl⟩ := rom_box w cn mk mo tw
 have K4 : ∀ W, Tab W → CR 283 #[.int .i64 0, .int .i64 4, .agg #[.int .i64 cn, .int .i64 mk, .int .i64 mo, .bool tw]] W (dayV (dayOfRoman 0 4 ⟨cn, mk, mo, tw⟩)) := fun W h => implDayOfRoman 0 4 ⟨cn, mk, mo, tw⟩ W h
 have o4 := day_ok 0 4 ⟨cn, mk, mo, tw⟩
 obtain ⟨B, hB⟩ : ∃ B, B = romB ⟨cn, mk, mo, tw⟩ := ⟨_, rfl⟩
 rw [show dayR 0 4 ⟨cn, mk, mo, tw⟩ = B from hB.symm] at o4
 rw [← hB]
 have HW0 := hideP hW0
 have HBl := hideP hBl
 have HT : Hid (∀ x : Later W0, Tab x.w) := fun x => hT.later (hBl x)
 obtain ⟨x0, hx0⟩ := Later.of (Below.refl W0.heap.size W0)
 have HX0 := hideP hx0
 clear hB hW0 hBl hT hx0
 generalize dayOfRoman 0 4 ⟨cn, mk, mo, tw⟩ = q4 at *
 obtain ⟨s0, s1, s2, s3⟩ := q4
 have D4 : ∀ W, Tab W → CR 252 #[.agg #[.int .i64 s0, .int .i64 s1, .int .i64 s2, .int .i64 s3]] W (.bool B) := fun W h => by rw [← o4]; exact implDateOk s0 s1 s2 s3 W h
 clear o4
 go_enter Tryz.func236, Tryz.ntmps236
 go_wp2_with fail
 rw [← HW0.out, HX0.out]
 refine lat (K4 _ (HT.out x0)) fun x1 => ?_
 go_wp2_with fail
 refine lat (D4 _ (HT.out x1)) fun x2 => ?_
 go_wp2
 go_ret
 exact ⟨rfl, HBl.out x2⟩
theorem implCountText (n : Int) (w : World) (hT : Shp w) : CR 237 #[.int .i64 n] w (.string ⟨(countL n).toArray⟩) := by
 by_cases e1 : n = 1
 · subst e1
   go_enter Tryz.func237, Tryz.ntmps237
   go_wp2
   go_ret
   exact ⟨rfl, Below.refl _ _⟩
 have g1 : (n == 1) = false := by simp [e1]
 by_cases e2 : n = 2
 · subst e2
   go_enter Tryz.func237, Tryz.ntmps237
   go_wp2
   go_ret
   exact ⟨rfl, Below.refl _ _⟩
 have g2 : (n == 2) = false := by simp [e2]
 have HC : Hid ((⟨(countL n).toArray⟩ : ByteArray) = putRoman n ++ ⟨#[32]⟩) := by
  unfold Hid countL
  rw [if_neg e1, if_neg e2]
  apply WideShapes.bytes_inj
  simp
 have KP := implPutRoman n w hT
 have hps := (roman_good n).2
 rw [HC.out]
 clear HC hT e1 e2
 generalize putRoman n = PR at *
 go_enter Tryz.func237, Tryz.ntmps237
 go_wp2_with fail
 refine KP.mono ?_
 rintro e w1 ⟨rfl, hb⟩
 have HB := hideP hb
 clear hb
 go_wp2
 go_ret
 exact ⟨rfl, HB.out⟩
theorem countL_size {n : Int} : (⟨(countL n).toArray⟩ : ByteArray).size ≤ 16 := by
 have h := (roman_good n).2
 show (countL n).length ≤ 16
 unfold countL
 split
 · simp
 · split
   · decide
   · have : (putRoman n).data.toList.length = (putRoman n).size := rfl
     simp only [List.length_append, List.length_cons, List.length_nil]
     omega
theorem implRomanText (r : Rom) (w : World) (hT : Tab w) (hS : Shp w) (hM : Mrk w) (hN : Mon w) : CR 170 #[romV r] w (.string (romanText r)) := by
 have KI : ∀ W, Tab W → CR 236 #[romV r] W (.bool (romB r)) := fun W h => implOk r W h
 have hTn := text_no (r := r)
 have hP := text_parts (r := r)
 have hF := romB_facts (r := r)
 obtain ⟨cn, mk, mo, tw⟩ := r
 obtain ⟨W0, hW0, c0, c1, c2, c3, hBl⟩ := rom_box w cn mk mo tw
 have HW0 := hideP hW0
 have HBl := hideP hBl
 have HT : Hid (∀ x : Later W0, Tab x.w) := fun x => hT.later (hBl x)
 have KC : ∀ x : Later W0, CR 237 #[.int .i64 cn] x.w (.string ⟨(countL cn).toArray⟩) := fun x => implCountText cn x.w (hS.later (hBl x))
 have KM : ∀ x : Later W0, CS 238 #[.int .i64 mo] x.w (.string (monthText mo)) := fun x => implMonthName mo x.w (hN.later (hBl x))
 have HM : Hid (∀ x : Later W0, Mrk x.w) := fun x => hM.later (hBl x)
 obtain ⟨x0, hx0⟩ := Later.of (Below.refl W0.heap.size W0)
 have HX0 := hideP hx0
 clear hW0 hBl hT hS hM hN hx0
 generalize romanText ⟨cn, mk, mo, tw⟩ = T at *
 generalize romB ⟨cn, mk, mo, tw⟩ = B at *
 cases B
 · have HF := hideP (hTn rfl)
   clear hTn hP hF KC KM
   go_enter Tryz.func170, Tryz.ntmps170
   go_wp2_with fail
   rw [← HW0.out, HX0.out]
   refine lat (KI _ (HT.out x0)) fun x1 => ?_
   go_wp2
   go_ret
   exact ⟨ret_str HF.out.symm, HBl.out x1⟩
 have HP := hideP (hP rfl)
 obtain ⟨hc1, hc2, hm1, hm2, hmk⟩ := hF rfl
 dsimp only at hc1 hc2 hm1 hm2 hmk
 have hms := month_size hm1 hm2
 obtain ⟨k, rfl⟩ := Int.eq_ofNat_of_zero_le (show 0 ≤ mk by omega)
 have hk : k < 3 := by omega
 have q1 : ∀ x : Later W0, x.w.cell? ⟨3, k, none⟩ = some (.string ⟨(markL k).toArray⟩) := fun x => (HM.out x).at k hk
 have hks : (⟨(markL k).toArray⟩ : ByteArray).size ≤ 3 := by
  have : k = 0 ∨ k = 1 ∨ k = 2 := by omega
  rcases this with rfl | rfl | rfl <;> decide
 have hcs := countL_size (n := cn)
 have HPF : Hid (T = (⟨(twiceL tw).toArray⟩ : ByteArray) ++ ⟨(countL cn).toArray⟩ ++ ⟨(markL k).toArray⟩ ++ ⟨#[32]⟩ ++ monthText mo) := by
  unfold Hid
  rw [HP.out]
  apply WideShapes.bytes_inj
  simp
 clear hTn hP hF HP hmk
 generalize monthText mo = M at *
 generalize (⟨(markL k).toArray⟩ : ByteArray) = KB at *
 generalize (⟨(countL cn).toArray⟩ : ByteArray) = CB at *
 have z3 : ∀ X : ByteArray, X.size ≤ 4 → (X ++ CB).size ≤ 20 ∧ (X ++ CB ++ KB).size ≤ 23 ∧ (X ++ CB ++ KB ++ (⟨#[32]⟩ : ByteArray)).size ≤ 24 := fun X hX => by
  refine ⟨?_, ?_, ?_⟩
  · rw [ByteArray.size_append]; omega
  · rw [ByteArray.size_append, ByteArray.size_append]; omega
  · rw [ByteArray.size_append, ByteArray.size_append, ByteArray.size_append]
    show X.size + CB.size + KB.size + 1 ≤ 24
    omega
 cases tw
 focus
   have hl : (⟨(twiceL false).toArray⟩ : ByteArray) = ⟨#[]⟩ := rfl
   rw [hl] at HPF
   obtain ⟨z4, z5, z6⟩ := z3 ⟨#[]⟩ (by decide)
 rotate_left
 focus
   have hl : (⟨(twiceL true).toArray⟩ : ByteArray) = ⟨#[98, 105, 115, 32]⟩ := rfl
   rw [hl] at HPF
   obtain ⟨z4, z5, z6⟩ := z3 ⟨#[98, 105, 115, 32]⟩ (by decide)
 rotate_left
 all_goals
  clear z3 hl
  go_enter Tryz.func170, Tryz.ntmps170
  go_wp2_with fail
  rw [← HW0.out, HX0.out]
  refine lat (KI _ (HT.out x0)) fun x1 => ?_
  have s3 := c3 x1
  go_wp2_with fail
  refine wp_region_later (W := W0) x1.below (by kernel_rfl) (by kernel_rfl) ?_
  repeat (go_big_quiet_step (first | (go_at_call 237; exact calls_later (KC _)) | (go_at_call 238; exact calls_same (KM _))))
  refine quietE fun x2 => ?_
  go_wp2
  go_ret
  exact ⟨ret_str HPF.out.symm, HBl.out x2⟩
theorem lit_yes {a : ByteArray} {l : List UInt8} (h : a = ⟨l.toArray⟩) : (a.toList == l) = true := by rw [h, ByteArray.toList_eq]; simp
theorem lit_no {a : ByteArray} {l : List UInt8} (h : a ≠ ⟨l.toArray⟩) : (a.toList == l) = false := by
 rw [beq_eq_false_iff_ne]
 intro e
 apply h
 apply WideShapes.bytes_inj
 rw [← e, ByteArray.toList_eq]
theorem ret_pair {a b : ByteArray} {c d : Bool} (h : a = b) (h' : c = d) : Ending.returned (.tuple #[.string a, .bool c]) = .returned (.tuple #[.string b, .bool d]) := by rw [h, h']
theorem implCountOf (a : ByteArray) (w : World) (hs : a.size ≤ 1048576) (hT : Shp w) : CR 168 #[.string a] w (.int .i64 (countOf a)) := by
 by_cases hp : a = pridB
 · have g := lit_yes (l := [112, 114, 105, 100]) hp
   rw [show countOf a = 2 from by unfold countOf; rw [if_pos hp]]
   clear hT hp
   go_enter Tryz.func168, Tryz.ntmps168
   go_wp2
   go_ret
   exact ⟨rfl, Below.refl _ _⟩
 · have g := lit_no (l := [112, 114, 105, 100]) hp
   rw [show countOf a = getRoman a from by unfold countOf; rw [if_neg hp]]
   have KG := implGetRoman a w hs hT
   generalize getRoman a = v at *
   clear hT hp
   go_enter Tryz.func168, Tryz.ntmps168
   go_wp2_with fail
   refine KG.mono ?_
   rintro e w1 ⟨rfl, hb⟩
   have HB := hideP hb
   clear hb
   go_wp2
   go_ret
   exact ⟨rfl, HB.out⟩
def mrkB (k : Nat) : ByteArray := ⟨(marks3.getD k []).toArray⟩
def mrkVals : Array Value := (marks3.map fun s => Value.string ⟨s.toArray⟩).toArray
theorem mrk_index (k : Nat) (h : k < 3) (w : World) : (Instr.index 249 (.agg mrkVals) (.int .i64 (k : Int))).run Tryz.prog w = .ok (.string (mrkB k)) w := by
 have : k = 0 ∨ k = 1 ∨ k = 2 := by omega
 rcases this with rfl | rfl | rfl <;> rfl
theorem mrk_size : (Tryz.prog.info? 249).map (·.size) = some mrkVals.size := by kernel_rfl
theorem markI_hit {b : ByteArray} {k : Nat} (hk : k < 3) (h : mrkB k = b) : markI b = k := by
 have : k = 0 ∨ k = 1 ∨ k = 2 := by omega
 subst h
 rcases this with rfl | rfl | rfl <;> decide
theorem markI_miss {b : ByteArray} (h : ∀ j, j < 3 → mrkB j ≠ b) : markI b = -1 := by
 unfold markI
 rw [if_neg (fun e => h 0 (by omega) e.symm), if_neg (fun e => h 1 (by omega) e.symm), if_neg (fun e => h 2 (by omega) e.symm)]
theorem implMarkOf (s : ByteArray) (w : World) (hT : Mrk w) : CS 169 #[.string s] w (.int .i64 (markI s)) := by
 have c0 := hT.at 0 (by omega)
 have c1 := hT.at 1 (by omega)
 have c2 := hT.at 2 (by omega)
 have hX : (#[.string ⟨(markL 0).toArray⟩, .string ⟨(markL 1).toArray⟩, .string ⟨(markL 2).toArray⟩] : Array Value) = mrkVals := rfl
 clear hT
 go_enter Tryz.func169, Tryz.ntmps169
 go_wp2_with fail
 clear hX c0 c1 c2
 go_loop [6] (fun i => ∃ k : Nat, k ≤ 3 ∧ i = .int .i64 (k : Int) ∧ (∀ j, j < k → mrkB j ≠ s)) (fun i => 3 - (intOf i).toNat)
 case atStart => exact ⟨0, by omega, rfl, by omega⟩
 case round =>
  obtain ⟨k, hk, rfl, hn⟩ := hrel
  have HN : Hid (∀ j, j < k → mrkB j ≠ s) := hn
  clear hn
  by_cases hlt : k < 3
  · have hi := mrk_index k hlt
    cases hq : ((mrkB k).toList == s.toList)
    · have HN' : Hid (∀ j, j < k + 1 → mrkB j ≠ s) := by
       intro j hj
       by_cases e : j = k
       · subst e
         exact str_ne hq
       · exact HN.out j (by omega)
      go_wp2
      exact ⟨⟨k + 1, by omega, by go_num, HN'.out⟩, by simp [intOf]; omega⟩
    · have HF : Hid (markI s = (k : Int)) := markI_hit hlt (str_eq hq)
      go_wp2
      go_ret
      exact ⟨ret_int HF.out.symm, rfl⟩
  · have HF : Hid (markI s = -1) := markI_miss (fun j hj => HN.out j (by omega))
    go_wp2
    go_ret
    exact ⟨ret_int HF.out.symm, rfl⟩
def bis4 : ByteArray := ⟨#[98, 105, 115, 32]⟩
theorem bis_has (s : ByteArray) : Lib.hasPrefix s.data.toList bis4.data.toList = bisP s := by
 unfold bisP Lib.hasPrefix
 apply Bool.eq_iff_iff.2
 rw [List.isPrefixOf_iff_prefix, List.prefix_iff_eq_take, beq_iff_eq]
 exact eq_comm
theorem bis_long {s : ByteArray} (h : bisP s = true) : 4 ≤ s.size := by
 unfold bisP at h
 have h' := congrArg List.length (eq_of_beq h)
 rw [List.length_take] at h'
 have : s.data.toList.length = s.size := rfl
 simp at h'
 omega
theorem liteCutBis (s : ByteArray) (w : World) (hs : s.size ≤ 1048576) : CS 233 #[.string s, .string ⟨#[98, 105, 115, 32]⟩] w (.tuple #[.string (restOf s), .bool (bisP s)]) := by
 have KH : ∀ W, CS 278 #[.string s, .string ⟨#[98, 105, 115, 32]⟩] W (.bool (bisP s)) := fun W => by rw [← bis_has]; exact Tryz.stringslite_HasPrefix s bis4 W
 cases h : bisP s
 · have HR : Hid (restOf s = s) := by unfold Hid restOf; rw [h]; rfl
   rw [h] at KH
   clear h
   go_enter Tryz.func233, Tryz.ntmps233
   go_wp2_with fail
   refine sameC (KH _) ?_
   go_wp2
   go_ret2
   exact ⟨ret_pair HR.out.symm rfl, rfl⟩
 · have HR : Hid (restOf s = s.extract 4 s.size) := by unfold Hid restOf; rw [if_pos h]
   have h4 := bis_long h
   rw [h] at KH
   clear h
   go_enter Tryz.func233, Tryz.ntmps233
   go_wp2_with fail
   refine sameC (KH _) ?_
   go_wp2
   go_ret2
   exact ⟨ret_pair HR.out.symm rfl, rfl⟩
theorem implCutBis (s : ByteArray) (w : World) (hs : s.size ≤ 1048576) : CS 166 #[.string s, .string ⟨#[98, 105, 115, 32]⟩] w (.tuple #[.string (restOf s), .bool (bisP s)]) := by
 have K := fun W => liteCutBis s W hs
 generalize restOf s = a at *
 generalize bisP s = b at *
 go_enter Tryz.func166, Tryz.ntmps166
 go_wp2_with fail
 refine sameC (K _) ?_
 go_wp2
 go_ret2
 exact ⟨rfl, rfl⟩
end Go.Proofs.YtpclaceefapppaaGreatDoor.ctr
