/- Contracts of the program's romanOk, countText and RomanText: each answers its plain function, where the listed tables hold what they list. -/
import Derived.Test.YtdmlhiailjnhcaaGreatDoorJnXap
import Derived.Test.YtdmlhiailjnhcaaGreatDoorJnXas
namespace Go.Proofs.YtdmlhiailjnhcaaGreatDoor.ctr
open Go.RowKit
def marks3 : List (List UInt8) := [[107, 97, 108], [110, 111, 110], [105, 100]]
abbrev Mrk (w : World) : Prop := kit.StrIs Tryz.prog w "loop.example/g00638/impl.markNames" marks3
abbrev Mon (w : World) : Prop := kit.StrIs Tryz.prog w "loop.example/g00638/impl.monthNames" mons
theorem Mrk.later {w w1 : World} (h : Mrk w) (hb : Below w.heap.size w w1) : Mrk w1 := kit.StrIs.below h hb (g := 3) (by kernel_rfl)
theorem Mon.later {w w1 : World} (h : Mon w) (hb : Below w.heap.size w w1) : Mon w1 := kit.StrIs.below h hb (g := 2) (by kernel_rfl)
theorem Mrk.at {w : World} (h : Mrk w) (k : Nat) (hk : k < 3) : w.cell? ⟨3, k, none⟩ = some (.string ⟨(markL k).toArray⟩) := by
 have := h.cell (g := 3) (by kernel_rfl) k hk
 rw [this]
 have : k = 0 ∨ k = 1 ∨ k = 2 := by omega
 rcases this with rfl | rfl | rfl <;> rfl
set_option maxRecDepth 100000 in
set_option maxHeartbeats 2000000 in
theorem implOk (r : Rom) (w : World) (hT : Tab w) : CR 240 #[romV r] w (.bool (romB r)) := by
 obtain ⟨cn, mk, mo, tw⟩ := r
 obtain ⟨W0, hW0, c0, c1, c2, c3, hBl⟩ := rom_box w cn mk mo tw
 have K4 : ∀ W, Tab W → CR 262 #[.int .i64 0, .int .i64 4, .agg #[.int .i64 cn, .int .i64 mk, .int .i64 mo, .bool tw]] W (dayV (dayOfRoman 0 4 ⟨cn, mk, mo, tw⟩)) := fun W h => implDayOfRoman 0 4 ⟨cn, mk, mo, tw⟩ W h
 have o4 := day_ok 0 4 ⟨cn, mk, mo, tw⟩
 obtain ⟨B, hB⟩ : ∃ B, B = romB ⟨cn, mk, mo, tw⟩ := ⟨_, rfl⟩
 rw [show dayR 0 4 ⟨cn, mk, mo, tw⟩ = B from hB.symm] at o4
 rw [← hB]
 have HW0 := hideP hW0
 have HBl := hideP hBl
 have HT : Hid (∀ x : Later W0, Tab x.w) := fun x => hT.later (hBl x)
 obtain ⟨x0, hx0⟩ := Later.of (Below.refl W0.heap.size W0)
 have HX0 := hideP hx0
 clear hB hW0 hBl hT hx0
 generalize dayOfRoman 0 4 ⟨cn, mk, mo, tw⟩ = q4 at *
 obtain ⟨s0, s1, s2, s3⟩ := q4
 have D4 : ∀ W, Tab W → CR 163 #[.agg #[.int .i64 s0, .int .i64 s1, .int .i64 s2, .int .i64 s3]] W (.bool B) := fun W h => by rw [← o4]; exact implDateOk s0 s1 s2 s3 W h
 clear o4
 go_enter Tryz.func240, Tryz.ntmps240
 go_wp2_with fail
 rw [← HW0.out, HX0.out]
 refine lat (K4 _ (HT.out x0)) fun x1 => ?_
 go_wp2_with fail
 refine lat (D4 _ (HT.out x1)) fun x2 => ?_
 go_wp2
 go_ret
 exact ⟨rfl, HBl.out x2⟩
set_option maxHeartbeats 1000000 in
theorem implCountText (n : Int) (w : World) (hT : Shp w) : CR 241 #[.int .i64 n] w (.string ⟨(countL n).toArray⟩) := by
 by_cases e1 : n = 1
 · subst e1
   go_enter Tryz.func241, Tryz.ntmps241
   go_wp2
   go_ret
   exact ⟨rfl, Below.refl _ _⟩
 have g1 : (n == 1) = false := by simp [e1]
 by_cases e2 : n = 2
 · subst e2
   go_enter Tryz.func241, Tryz.ntmps241
   go_wp2
   go_ret
   exact ⟨rfl, Below.refl _ _⟩
 have g2 : (n == 2) = false := by simp [e2]
 have HC : Hid ((⟨(countL n).toArray⟩ : ByteArray) = putRoman n ++ ⟨#[32]⟩) := by
  unfold Hid countL
  rw [if_neg e1, if_neg e2]
  apply WideShapes.bytes_inj
  simp
 have KP := implPutRoman n w hT
 have hps := (roman_good n).2
 rw [HC.out]
 clear HC hT e1 e2
 generalize putRoman n = PR at *
 go_enter Tryz.func241, Tryz.ntmps241
 go_wp2_with fail
 refine KP.mono ?_
 rintro e w1 ⟨rfl, hb⟩
 have HB := hideP hb
 clear hb
 go_wp2
 go_ret
 exact ⟨rfl, HB.out⟩
theorem countL_size {n : Int} : (⟨(countL n).toArray⟩ : ByteArray).size ≤ 16 := by
 have h := (roman_good n).2
 show (countL n).length ≤ 16
 unfold countL
 split
 · simp
 · split
   · decide
   · have : (putRoman n).data.toList.length = (putRoman n).size := rfl
     simp only [List.length_append, List.length_cons, List.length_nil]
     omega
set_option maxRecDepth 100000 in
set_option maxHeartbeats 4000000 in
theorem implRomanText (r : Rom) (w : World) (hT : Tab w) (hS : Shp w) (hM : Mrk w) (hN : Mon w) : CR 197 #[romV r] w (.string (romanText r)) := by
 have KI : ∀ W, Tab W → CR 240 #[romV r] W (.bool (romB r)) := fun W h => implOk r W h
 have hTn := text_no (r := r)
 have hP := text_parts (r := r)
 have hF := romB_facts (r := r)
 obtain ⟨cn, mk, mo, tw⟩ := r
 obtain ⟨W0, hW0, c0, c1, c2, c3, hBl⟩ := rom_box w cn mk mo tw
 have HW0 := hideP hW0
 have HBl := hideP hBl
 have HT : Hid (∀ x : Later W0, Tab x.w) := fun x => hT.later (hBl x)
 have KC : ∀ x : Later W0, CR 241 #[.int .i64 cn] x.w (.string ⟨(countL cn).toArray⟩) := fun x => implCountText cn x.w (hS.later (hBl x))
 have KM : ∀ x : Later W0, Calls Tryz.prog 196 #[.int .i64 mo] x.w fun e w' => e = .returned (.string (monthText mo)) ∧ w' = x.w := fun x => implMonthName mo x.w (hN.later (hBl x))
 have HM : Hid (∀ x : Later W0, Mrk x.w) := fun x => hM.later (hBl x)
 obtain ⟨x0, hx0⟩ := Later.of (Below.refl W0.heap.size W0)
 have HX0 := hideP hx0
 clear hW0 hBl hT hS hM hN hx0
 generalize romanText ⟨cn, mk, mo, tw⟩ = T at *
 generalize romB ⟨cn, mk, mo, tw⟩ = B at *
 cases B
 · have HF := hideP (hTn rfl)
   clear hTn hP hF KC KM
   go_enter Tryz.func197, Tryz.ntmps197
   go_wp2_with fail
   rw [← HW0.out, HX0.out]
   refine lat (KI _ (HT.out x0)) fun x1 => ?_
   go_wp2
   go_ret
   exact ⟨ret_str HF.out.symm, HBl.out x1⟩
 have HP := hideP (hP rfl)
 obtain ⟨hc1, hc2, hm1, hm2, hmk⟩ := hF rfl
 dsimp only at hc1 hc2 hm1 hm2 hmk
 have hms := month_size hm1 hm2
 obtain ⟨k, rfl⟩ := Int.eq_ofNat_of_zero_le (show 0 ≤ mk by omega)
 have hk : k < 3 := by omega
 have q1 : ∀ x : Later W0, x.w.cell? ⟨3, k, none⟩ = some (.string ⟨(markL k).toArray⟩) := fun x => (HM.out x).at k hk
 have hks : (⟨(markL k).toArray⟩ : ByteArray).size ≤ 3 := by
  have : k = 0 ∨ k = 1 ∨ k = 2 := by omega
  rcases this with rfl | rfl | rfl <;> decide
 have hcs := countL_size (n := cn)
 have HPF : Hid (T = (⟨(twiceL tw).toArray⟩ : ByteArray) ++ ⟨(countL cn).toArray⟩ ++ ⟨(markL k).toArray⟩ ++ ⟨#[32]⟩ ++ monthText mo) := by
  unfold Hid
  rw [HP.out]
  apply WideShapes.bytes_inj
  simp
 clear hTn hP hF HP hmk
 generalize monthText mo = M at *
 generalize (⟨(markL k).toArray⟩ : ByteArray) = KB at *
 generalize (⟨(countL cn).toArray⟩ : ByteArray) = CB at *
 have z3 : ∀ X : ByteArray, X.size ≤ 4 → (X ++ CB).size ≤ 20 ∧ (X ++ CB ++ KB).size ≤ 23 ∧ (X ++ CB ++ KB ++ (⟨#[32]⟩ : ByteArray)).size ≤ 24 := fun X hX => by
  refine ⟨?_, ?_, ?_⟩
  · rw [ByteArray.size_append]; omega
  · rw [ByteArray.size_append, ByteArray.size_append]; omega
  · rw [ByteArray.size_append, ByteArray.size_append, ByteArray.size_append]
    show X.size + CB.size + KB.size + 1 ≤ 24
    omega
 cases tw
 focus
   have hl : (⟨(twiceL false).toArray⟩ : ByteArray) = ⟨#[]⟩ := rfl
   rw [hl] at HPF
   obtain ⟨z4, z5, z6⟩ := z3 ⟨#[]⟩ (by decide)
 rotate_left
 focus
   have hl : (⟨(twiceL true).toArray⟩ : ByteArray) = ⟨#[98, 105, 115, 32]⟩ := rfl
   rw [hl] at HPF
   obtain ⟨z4, z5, z6⟩ := z3 ⟨#[98, 105, 115, 32]⟩ (by decide)
 rotate_left
 all_goals
  clear z3 hl
  go_enter Tryz.func197, Tryz.ntmps197
  go_wp2_with fail
  rw [← HW0.out, HX0.out]
  refine lat (KI _ (HT.out x0)) fun x1 => ?_
  have s3 := c3 x1
  go_wp2_with fail
  refine wp_region_later (W := W0) x1.below (by kernel_rfl) (by kernel_rfl) ?_
  repeat (go_big_quiet_step (first | (go_at_call 241; exact calls_later (KC _)) | (go_at_call 196; exact calls_same (KM _))))
  refine wpQuiet_nil ?_
  intro _ hw'
  obtain ⟨x2, rfl⟩ := hw'
  go_wp2
  go_ret
  exact ⟨ret_str HPF.out.symm, HBl.out x2⟩
end Go.Proofs.YtdmlhiailjnhcaaGreatDoor.ctr
