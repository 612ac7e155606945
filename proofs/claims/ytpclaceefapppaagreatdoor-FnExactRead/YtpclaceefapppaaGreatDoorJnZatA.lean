/- Contracts of PutRoman, and of the signs of a numeral. -/
import Derived.Test.YtpclaceefapppaaGreatDoorJnZaf
import Derived.Test.YtpclaceefapppaaGreatDoorJnZab
import Derived.Test.YtpclaceefapppaaGreatDoorShelfZ
import Derived.Lib.ConvBytes
import Derived.Laws.IdiomStrings
set_option maxRecDepth 100000
set_option maxHeartbeats 2000000
namespace Go.Proofs.YtpclaceefapppaaGreatDoor.ctr
open Go.RowKit
def shapes : List (List UInt8) := [[], [97], [97, 97], [97, 97, 97], [97, 98], [98], [98, 97], [98, 97, 97], [98, 97, 97, 97], [97, 99]]
def signOf (a b c : UInt8) (x : UInt8) : UInt8 := if x = 97 then a else if x = 98 then b else c
def subL (a b c : UInt8) (sh : List UInt8) : List UInt8 := sh.map (signOf a b c)
def mix (a b c : UInt8) (sh : List UInt8) (k j : Nat) : Int := if j < k then (((subL a b c sh).getD j 0).toNat : Int) else ((sh.getD j 0).toNat : Int)
theorem shape_ok : ∀ d : Fin 10, (shapes.getD d.val []).length ≤ 4 ∧ ∀ x ∈ shapes.getD d.val [], x = 97 ∨ x = 98 ∨ x = 99 := by decide
theorem shape_sub (a b c : UInt8) (d : Nat) (h : d < 10) : subL a b c (shapes.getD d []) = digL d a b c := by
 have : d = 0 ∨ d = 1 ∨ d = 2 ∨ d = 3 ∨ d = 4 ∨ d = 5 ∨ d = 6 ∨ d = 7 ∨ d = 8 ∨ d = 9 := by omega
 rcases this with rfl | rfl | rfl | rfl | rfl | rfl | rfl | rfl | rfl | rfl <;> rfl
theorem conv (w : World) (sh : List UInt8) : ∃ cap w1, (convert 9 119 (.string ⟨sh.toArray⟩)).run Tryz.prog w = .ok (.slice (some ⟨w.heap.size, 0, none⟩) sh.length cap) w1 ∧ Below w.heap.size w w1 ∧ w1.heap.size = w.heap.size + 1 ∧
    (∀ j, j < sh.length → w1.cell? ⟨w.heap.size, j, none⟩ = some (.int .u8 ((sh.getD j 0).toNat : Int))) ∧ (∀ j, j < sh.length → w1.frozen? ⟨w.heap.size, j, none⟩ = false) := by
  refine ⟨_, _, Lib.run_convert_string_bytes w 9 119 5 ⟨sh.toArray⟩ Tryz.underlying9 Tryz.underlying119 Tryz.underlying5, ?_, Lib.bytesWorld_size _ _ _, ?_, ?_⟩
  · refine ⟨rfl, rfl, rfl, ?_, fun k hk => Lib.bytesWorld_at_old w 5 _ k hk⟩
    rw [Lib.bytesWorld_size]; omega
  · intro j hj
    exact Lib.bytesWorld_cell w 5 ⟨sh.toArray⟩ j hj
  · intro j hj
    have hs : sh.length ≤ (Lib.bytesCells w 5 ⟨sh.toArray⟩).size := by simp [Lib.bytesCells]
    simp only [World.frozen?, Lib.bytesWorld_at_new]
    simp
    omega
theorem setCell_size (w : World) (p : Addr) (v : Value) : (w.setCell p v).heap.size = w.heap.size := by simp [World.setCell]
theorem stored (a b c : UInt8) (sh : List UInt8) (k j : Nat) (v : UInt8) {wr : World} {B : Nat} {u : Value} (hv : (subL a b c sh).getD k 0 = v) (hk : wr.cell? ⟨B, k, none⟩ = some u)
    (hj : wr.cell? ⟨B, j, none⟩ = some (.int .u8 (mix a b c sh k j))) : (wr.setCell ⟨B, k, none⟩ (.int .u8 (v.toNat : Int))).cell? ⟨B, j, none⟩ = some (.int .u8 (mix a b c sh (k + 1) j)) := by
  by_cases e : j = k
  · subst e
    rw [World.cell?_setCell_same wr _ _ hk]
    unfold mix
    rw [if_pos (by omega), hv]
  · rw [World.cell?_setCell_other wr _ _ _ (by intro h; apply e; injection h with _ h2 _; exact h2.symm), hj]
    unfold mix
    by_cases h : j < k
    · rw [if_pos h, if_pos (by omega)]
    · rw [if_neg h, if_neg (by omega)]
theorem back (wr : World) (cap B : Nat) (l : List UInt8) (n : Nat) (hn : l.length = n) (hc : ∀ j, j < n → wr.cell? ⟨B, j, none⟩ = some (.int .u8 ((l.getD j 0).toNat : Int))) :
    (convert 119 9 (.slice (some ⟨B, 0, none⟩) n cap)).run Tryz.prog wr = .ok (.string ⟨l.toArray⟩) wr := by
  subst hn
  refine run_convert_bytes_back wr 119 9 5 ⟨B, 0, none⟩ cap l Tryz.underlying119 Tryz.underlying5 Tryz.underlying9 (fun j hj => ?_)
  have : (⟨B, 0, none⟩ : Addr).add j = ⟨B, j, none⟩ := by unfold Addr.add; split <;> simp_all
  rw [this, hc j hj]
  simp [List.getD, List.getElem?_eq_getElem hj]
theorem digitSigns (d : Int) (a b c : UInt8) (w : World) (h0 : 0 ≤ d) (h9 : d ≤ 9) (hT : kit.StrIs Tryz.prog w "loop.example/g00638/impl.digitShapes" shapes) :
    CR 306 #[.int .i64 d, .string ⟨#[a, b, c]⟩] w (.string ⟨(digL d.toNat a b c).toArray⟩) := by
  obtain ⟨n, rfl⟩ := Int.eq_ofNat_of_zero_le h0
  have hc := hT.cell (g := 6) (by kernel_rfl) n (by show n < 10; omega)
  have hso := shape_ok ⟨n, by omega⟩
  have HD : Hid (digL ((n : Int)).toNat a b c = subL a b c (shapes.getD n [])) := by unfold Hid; rw [Int.toNat_natCast]; exact (shape_sub a b c n (by omega)).symm
  generalize hsh : shapes.getD n [] = sh at *
  obtain ⟨hlen, hall⟩ : sh.length ≤ 4 ∧ ∀ x ∈ sh, x = 97 ∨ x = 98 ∨ x = 99 := hso
  clear hT hsh
  have HA : Hid (∀ x ∈ sh, x = 97 ∨ x = 98 ∨ x = 99) := hall
  clear hall
  obtain ⟨cap, w1, hrun, hb, hz, hcell, hfr⟩ := conv w sh
  have HC : Hid (∀ j, j < sh.length → w1.cell? ⟨w.heap.size, j, none⟩ = some (.int .u8 ((sh.getD j 0).toNat : Int))) := hcell
  have HF : Hid (∀ j, j < sh.length → w1.frozen? ⟨w.heap.size, j, none⟩ = false) := hfr
  have HB : Hid (Below w.heap.size w w1) := hb
  have HZ : Hid (w1.heap.size = w.heap.size + 1) := hz
  clear hcell hfr hb hz
  go_enter Tryz.func306, Tryz.ntmps306
  go_wp2
  go_loopw [14] (fun i wr => ∃ k : Nat, k ≤ sh.length ∧ i = .int .i64 k ∧ Below w.heap.size w wr ∧ w.heap.size < wr.heap.size ∧ (∀ j, j < sh.length → wr.cell? ⟨w.heap.size, j, none⟩ = some (.int .u8 (mix a b c sh k j))) ∧ (∀ j, j < sh.length → wr.frozen? ⟨w.heap.size, j, none⟩ = false)) (fun i _ => sh.length - (intOf i).toNat)
  case atStart => exact ⟨0, Nat.zero_le _, rfl, HB.out, by rw [HZ.out]; omega, fun j hj => by rw [HC.out j hj]; simp [mix], HF.out⟩
  case round =>
   obtain ⟨k, hk, rfl, hb, hz, hcl, hfr⟩ := hrel
   have HC' : Hid (∀ j, j < sh.length → wr.cell? ⟨w.heap.size, j, none⟩ = some (.int .u8 (mix a b c sh k j))) := hcl
   have HF' : Hid (∀ j, j < sh.length → wr.frozen? ⟨w.heap.size, j, none⟩ = false) := hfr
   have HB' : Hid (Below w.heap.size w wr) := hb
   clear hcl hfr hb hrun hc
   by_cases hlt : k < sh.length
   · have hck := HC'.out k hlt
     have hfk := HF'.out k hlt
     have hx := HA.out (sh.getD k 0) (by rw [List.getD, List.getElem?_eq_getElem hlt]; exact List.getElem_mem _)
     have hm : mix a b c sh k k = ((sh.getD k 0).toNat : Int) := by simp [mix]
     rw [hm] at hck
     clear hm
     have HX : Hid ((subL a b c sh).getD k 0 = signOf a b c (sh.getD k 0)) := by
      unfold Hid subL
      simp [List.getD, List.getElem?_eq_getElem hlt]
     generalize hg : sh.getD k 0 = x at *
     clear hg
     rcases hx with rfl | rfl | rfl
     all_goals
      go_wp2
      exact ⟨⟨k + 1, by omega, by go_num, HB'.out.setCell (Nat.le_refl _) _, by rw [setCell_size]; exact hz, fun j hj => stored a b c sh k j _ HX.out (HC'.out k hlt) (HC'.out j hj), fun j hj => by rw [World.frozen?_setCell]; exact HF'.out j hj⟩, by simp [intOf]; omega⟩
   · have hback := back wr cap w.heap.size (subL a b c sh) sh.length (by simp [subL]) (fun j hj => by
      have h := HC'.out j hj
      rw [h]
      unfold mix
      rw [if_pos (by omega)])
     go_wp2
     go_ret
     exact ⟨ret_str (by rw [HD.out]), HB'.out⟩
abbrev Shp (w : World) : Prop := kit.StrIs Tryz.prog w "loop.example/g00638/impl.digitShapes" shapes
theorem Shp.later {w w1 : World} (h : Shp w) (hb : Below w.heap.size w w1) : Shp w1 := kit.StrIs.below h hb (g := 6) (by kernel_rfl)
theorem repeatM (n : Int) (w : World) (h0 : 0 ≤ n) (h3 : n ≤ 3) :
    CR 305 #[.string ⟨#[77]⟩, .int .i64 n] w (.string ⟨(manyL 77 n.toNat).toArray⟩) := by
  obtain ⟨k, rfl⟩ := Int.eq_ofNat_of_zero_le h0
  refine (Tryz.strings_Repeat ⟨#[77]⟩ k w (by omega) (by show 1 * k ≤ _; omega)).mono ?_
  rintro e w' ⟨rfl, hb⟩
  refine ⟨ret_str ?_, hb⟩
  have : k = 0 ∨ k = 1 ∨ k = 2 ∨ k = 3 := by omega
  rcases this with rfl | rfl | rfl | rfl <;> rfl
theorem implPutRoman (n : Int) (w : World) (hT : kit.StrIs Tryz.prog w "loop.example/g00638/impl.digitShapes" shapes) :
    CR 282 #[.int .i64 n] w (.string (putRoman n)) := by
  have HT : Hid (kit.StrIs Tryz.prog w "loop.example/g00638/impl.digitShapes" shapes) := hT
  clear hT
  by_cases h1 : n < 1
  · rw [putRoman_no (.inl h1)]
    go_enter Tryz.func282, Tryz.ntmps282
    go_wp2
    go_ret
    exact ⟨rfl, Below.refl _ _⟩
  by_cases h2 : 3999 < n
  · rw [putRoman_no (.inr h2)]
    go_enter Tryz.func282, Tryz.ntmps282
    go_wp2
    go_ret
    exact ⟨rfl, Below.refl _ _⟩
  have HP : Hid (putRoman n = ⟨(roman n.toNat).toArray⟩) := by unfold Hid putRoman; rw [if_pos ⟨by omega, by omega⟩]
  by_cases k1 : 1000 ≤ n
  · go_enter Tryz.func282, Tryz.ntmps282
    go_wp2_with fail
    refine (repeatM _ _ (by omega) (by omega)).mono ?_
    rintro e w1 ⟨rfl, hb1⟩
    have HB1 : Hid (Below w.heap.size w w1) := hb1
    clear hb1
    have l1 := manyL_len 77 (n / 1000).toNat
    generalize hx1 : manyL 77 (n / 1000).toNat = x1 at *
    have hl1 : x1.length ≤ 3 := by omega
    have H1 : Hid (manyL 77 (n / 1000).toNat = x1) := hx1
    clear hx1 l1
    go_wp2_with fail
    refine (digitSigns _ _ _ _ _ (by omega) (by omega) (HT.out.below HB1.out (g := 6) (by kernel_rfl))).mono ?_
    rintro e w2 ⟨rfl, hb2⟩
    have HB2 : Hid (Below w.heap.size w w2) := HB1.out.trans (hb2.mono HB1.out.size)
    clear hb2
    have hl2 := digL_len (n / 100 % 10).toNat 67 68 77
    generalize hx2 : digL (n / 100 % 10).toNat 67 68 77 = x2 at *
    have H2 : Hid (digL (n / 100 % 10).toNat 67 68 77 = x2) := hx2
    clear hx2
    go_wp2_with fail
    refine (digitSigns _ _ _ _ _ (by omega) (by omega) (HT.out.below HB2.out (g := 6) (by kernel_rfl))).mono ?_
    rintro e w3 ⟨rfl, hb3⟩
    have HB3 : Hid (Below w.heap.size w w3) := HB2.out.trans (hb3.mono HB2.out.size)
    clear hb3
    have hl3 := digL_len (n / 10 % 10).toNat 88 76 67
    generalize hx3 : digL (n / 10 % 10).toNat 88 76 67 = x3 at *
    have H3 : Hid (digL (n / 10 % 10).toNat 88 76 67 = x3) := hx3
    clear hx3
    go_wp2_with fail
    refine (digitSigns _ _ _ _ _ (by omega) (by omega) (HT.out.below HB3.out (g := 6) (by kernel_rfl))).mono ?_
    rintro e w4 ⟨rfl, hb4⟩
    have HB4 : Hid (Below w.heap.size w w4) := HB3.out.trans (hb4.mono HB3.out.size)
    clear hb4
    have hl4 := digL_len (n % 10).toNat 73 86 88
    generalize hx4 : digL (n % 10).toNat 73 86 88 = x4 at *
    have H4 : Hid (digL (n % 10).toNat 73 86 88 = x4) := hx4
    clear hx4
    go_wp2
    go_ret
    refine ⟨ret_str ?_, HB4.out⟩
    rw [HP.out, roman_int n (by omega), H1.out, H2.out, H3.out, H4.out]
    apply WideShapes.bytes_inj
    simp
  by_cases k2 : 100 ≤ n
  · go_enter Tryz.func282, Tryz.ntmps282
    go_wp2_with fail
    refine (digitSigns _ _ _ _ _ (by omega) (by omega) (HT.out.below (Below.refl _ _) (g := 6) (by kernel_rfl))).mono ?_
    rintro e w2 ⟨rfl, hb2⟩
    have HB2 : Hid (Below w.heap.size w w2) := hb2
    clear hb2
    have hl2 := digL_len (n / 100 % 10).toNat 67 68 77
    generalize hx2 : digL (n / 100 % 10).toNat 67 68 77 = x2 at *
    have H2 : Hid (digL (n / 100 % 10).toNat 67 68 77 = x2) := hx2
    clear hx2
    go_wp2_with fail
    refine (digitSigns _ _ _ _ _ (by omega) (by omega) (HT.out.below HB2.out (g := 6) (by kernel_rfl))).mono ?_
    rintro e w3 ⟨rfl, hb3⟩
    have HB3 : Hid (Below w.heap.size w w3) := HB2.out.trans (hb3.mono HB2.out.size)
    clear hb3
    have hl3 := digL_len (n / 10 % 10).toNat 88 76 67
    generalize hx3 : digL (n / 10 % 10).toNat 88 76 67 = x3 at *
    have H3 : Hid (digL (n / 10 % 10).toNat 88 76 67 = x3) := hx3
    clear hx3
    go_wp2_with fail
    refine (digitSigns _ _ _ _ _ (by omega) (by omega) (HT.out.below HB3.out (g := 6) (by kernel_rfl))).mono ?_
    rintro e w4 ⟨rfl, hb4⟩
    have HB4 : Hid (Below w.heap.size w w4) := HB3.out.trans (hb4.mono HB3.out.size)
    clear hb4
    have hl4 := digL_len (n % 10).toNat 73 86 88
    generalize hx4 : digL (n % 10).toNat 73 86 88 = x4 at *
    have H4 : Hid (digL (n % 10).toNat 73 86 88 = x4) := hx4
    clear hx4
    go_wp2
    go_ret
    refine ⟨ret_str ?_, HB4.out⟩
    rw [HP.out, roman_int n (by omega), show manyL 77 (n / 1000).toNat = [] from by rw [show (n / 1000).toNat = 0 from by omega]; rfl, H2.out, H3.out, H4.out]
    apply WideShapes.bytes_inj
    simp
  by_cases k3 : 10 ≤ n
  · go_enter Tryz.func282, Tryz.ntmps282
    go_wp2_with fail
    refine (digitSigns _ _ _ _ _ (by omega) (by omega) (HT.out.below (Below.refl _ _) (g := 6) (by kernel_rfl))).mono ?_
    rintro e w3 ⟨rfl, hb3⟩
    have HB3 : Hid (Below w.heap.size w w3) := hb3
    clear hb3
    have hl3 := digL_len (n / 10 % 10).toNat 88 76 67
    generalize hx3 : digL (n / 10 % 10).toNat 88 76 67 = x3 at *
    have H3 : Hid (digL (n / 10 % 10).toNat 88 76 67 = x3) := hx3
    clear hx3
    go_wp2_with fail
    refine (digitSigns _ _ _ _ _ (by omega) (by omega) (HT.out.below HB3.out (g := 6) (by kernel_rfl))).mono ?_
    rintro e w4 ⟨rfl, hb4⟩
    have HB4 : Hid (Below w.heap.size w w4) := HB3.out.trans (hb4.mono HB3.out.size)
    clear hb4
    have hl4 := digL_len (n % 10).toNat 73 86 88
    generalize hx4 : digL (n % 10).toNat 73 86 88 = x4 at *
    have H4 : Hid (digL (n % 10).toNat 73 86 88 = x4) := hx4
    clear hx4
    go_wp2
    go_ret
    refine ⟨ret_str ?_, HB4.out⟩
    rw [HP.out, roman_int n (by omega), show manyL 77 (n / 1000).toNat = [] from by rw [show (n / 1000).toNat = 0 from by omega]; rfl, show digL (n / 100 % 10).toNat 67 68 77 = [] from by rw [show (n / 100 % 10).toNat = 0 from by omega]; rfl, H3.out, H4.out]
    apply WideShapes.bytes_inj
    simp
  · go_enter Tryz.func282, Tryz.ntmps282
    go_wp2_with fail
    refine (digitSigns _ _ _ _ _ (by omega) (by omega) (HT.out.below (Below.refl _ _) (g := 6) (by kernel_rfl))).mono ?_
    rintro e w4 ⟨rfl, hb4⟩
    have HB4 : Hid (Below w.heap.size w w4) := hb4
    clear hb4
    have hl4 := digL_len (n % 10).toNat 73 86 88
    generalize hx4 : digL (n % 10).toNat 73 86 88 = x4 at *
    have H4 : Hid (digL (n % 10).toNat 73 86 88 = x4) := hx4
    clear hx4
    go_wp2
    go_ret
    refine ⟨ret_str ?_, HB4.out⟩
    rw [HP.out, roman_int n (by omega), show manyL 77 (n / 1000).toNat = [] from by rw [show (n / 1000).toNat = 0 from by omega]; rfl, show digL (n / 100 % 10).toNat 67 68 77 = [] from by rw [show (n / 100 % 10).toNat = 0 from by omega]; rfl, show digL (n / 10 % 10).toNat 88 76 67 = [] from by rw [show (n / 10 % 10).toNat = 0 from by omega]; rfl, H4.out]
    apply WideShapes.bytes_inj
    simp
theorem signValue (x : Int) (w : World) : CS 281 #[.int .u8 x] w (.int .i64 (worth x)) := by
 by_cases c1 : x = 73
 · subst c1; go_enter Tryz.func281, Tryz.ntmps281; go_wp2; go_ret; exact ⟨rfl, rfl⟩
 by_cases c2 : x = 86
 · subst c2; go_enter Tryz.func281, Tryz.ntmps281; go_wp2; go_ret; exact ⟨rfl, rfl⟩
 by_cases c3 : x = 88
 · subst c3; go_enter Tryz.func281, Tryz.ntmps281; go_wp2; go_ret; exact ⟨rfl, rfl⟩
 by_cases c4 : x = 76
 · subst c4; go_enter Tryz.func281, Tryz.ntmps281; go_wp2; go_ret; exact ⟨rfl, rfl⟩
 by_cases c5 : x = 67
 · subst c5; go_enter Tryz.func281, Tryz.ntmps281; go_wp2; go_ret; exact ⟨rfl, rfl⟩
 by_cases c6 : x = 68
 · subst c6; go_enter Tryz.func281, Tryz.ntmps281; go_wp2; go_ret; exact ⟨rfl, rfl⟩
 by_cases c7 : x = 77
 · subst c7; go_enter Tryz.func281, Tryz.ntmps281; go_wp2; go_ret; exact ⟨rfl, rfl⟩
 have HW : Hid (worth x = 0) := by unfold Hid worth; simp [c1, c2, c3, c4, c5, c6, c7]
 go_enter Tryz.func281, Tryz.ntmps281
 go_wp2
 go_ret
 exact ⟨ret_int HW.out.symm, rfl⟩
theorem implGetRoman (s : ByteArray) (w : World) (hs : s.size ≤ 1048576) (hT : kit.StrIs Tryz.prog w "loop.example/g00638/impl.digitShapes" shapes) :
    CR 235 #[.string s] w (.int .i64 (getRoman s)) := by
  have HTab : Hid (kit.StrIs Tryz.prog w "loop.example/g00638/impl.digitShapes" shapes) := hT
  clear hT
  go_enter Tryz.func235, Tryz.ntmps235
  go_wp2
  go_loop [3, 8] (fun n i => ∃ (k : Nat) (v : Int), k ≤ s.size ∧ i = .int .i64 k ∧ n = .int .i64 v ∧ -1048576000 ≤ v ∧ v ≤ 1048576000 ∧ Hid (v = sumR s k)) (fun _ i => s.size - (intOf i).toNat)
  case atStart => exact ⟨0, 0, Nat.zero_le _, rfl, rfl, by omega, by omega, rfl⟩
  case round =>
   obtain ⟨k, v, hk, rfl, rfl, v0, v1, HV⟩ := hrel
   by_cases hlt : k < s.size
   · have hx := byteAt_eq s k hlt
     obtain ⟨u0, u1⟩ := worth_bd (byteAt s k)
     have hsb := sum_bd s (k + 1)
     obtain ⟨sb0, sb1⟩ : -1048576000 ≤ sumR s (k + 1) ∧ sumR s (k + 1) ≤ 1048576000 := by omega
     clear hsb
     have HS : Hid (sumR s (k + 1) = v + stepAt s k) := by unfold Hid; rw [HV.out]; rfl
     by_cases hn : k + 1 < s.size
     · have hx2 := byteAt_eq s (k + 1) hn
       obtain ⟨y0, y1⟩ := worth_bd (byteAt s (k + 1))
       by_cases hg : worth (byteAt s k) < worth (byteAt s (k + 1))
       · have HT : Hid (stepAt s k = -worth (byteAt s k)) := by unfold Hid stepAt; rw [if_pos ⟨hn, hg⟩]
         go_wp2_with (go_at_call 281; refine (signValue _ _).mono ?_; rintro e w' ⟨rfl, rfl⟩)
         exact ⟨⟨k + 1, sumR s (k + 1), by omega, by go_num, by rw [HS.out, HT.out], sb0, sb1, rfl⟩, by simp [intOf]; omega⟩
       · have HT : Hid (stepAt s k = worth (byteAt s k)) := by unfold Hid stepAt; rw [if_neg (by omega)]
         go_wp2_with (go_at_call 281; refine (signValue _ _).mono ?_; rintro e w' ⟨rfl, rfl⟩)
         exact ⟨⟨k + 1, sumR s (k + 1), by omega, by go_num, by rw [HS.out, HT.out], sb0, sb1, rfl⟩, by simp [intOf]; omega⟩
     · have HT : Hid (stepAt s k = worth (byteAt s k)) := by unfold Hid stepAt; rw [if_neg (by omega)]
       go_wp2_with (go_at_call 281; refine (signValue _ _).mono ?_; rintro e w' ⟨rfl, rfl⟩)
       exact ⟨⟨k + 1, sumR s (k + 1), by omega, by go_num, by rw [HS.out, HT.out], sb0, sb1, rfl⟩, by simp [intOf]; omega⟩
   · have hks : k = s.size := by omega
     cases hq : ((putRoman v).toList == s.toList)
     · have HB : Hid (getRoman s = 0) := get_zero s (by rw [← hks, ← HV.out]; exact str_ne hq)
       clear hks
       go_wp2_with (go_at_call 282; refine (implPutRoman _ _ HTab.out).mono ?_; rintro e w' ⟨rfl, hb⟩)
       go_ret
       exact ⟨ret_int HB.out.symm, hb⟩
     · have HB : Hid (getRoman s = v) := by unfold Hid; rw [HV.out, hks]; exact get_sum s (by rw [← hks, ← HV.out]; exact str_eq hq)
       clear hks
       go_wp2_with (go_at_call 282; refine (implPutRoman _ _ HTab.out).mono ?_; rintro e w' ⟨rfl, hb⟩)
       go_ret
       exact ⟨ret_int HB.out.symm, hb⟩
end Go.Proofs.YtpclaceefapppaaGreatDoor.ctr
