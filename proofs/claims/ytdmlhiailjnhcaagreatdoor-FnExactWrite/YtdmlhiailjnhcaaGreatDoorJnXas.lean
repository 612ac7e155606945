/- Contract of the program's DecText: at every int it answers the decimal numeral (Lib.itoa), where the library's; and what else the law reaches. -/
import Derived.Test.YtdmlhiailjnhcaaGreatDoorJnXah
import Derived.Test.YtdmlhiailjnhcaaGreatDoorShelfX
import Derived.Test.YtdmlhiailjnhcaaGreatDoorJnXab
import Derived.Test.YtdmlhiailjnhcaaGreatDoorJnXaf
import Derived.Lib.ConvBytes
import Derived.Laws.IdiomStrings
namespace Go.Proofs.YtdmlhiailjnhcaaGreatDoor.ctr
open Go.RowKit
theorem implDecText (n : Int) (w : World) (h0 : -9223372036854775808 ≤ n) (h1 : n ≤ 9223372036854775807)
    (hT : Lib.TabIs Tryz.prog w "internal/strconv.uint64pow10" .u64 Lib.pow10Tab) :
    CR 100 #[.int .i64 n] w (.string ⟨(Lib.itoa n).toArray⟩) := by
  have HT : Hid (Lib.TabIs Tryz.prog w "internal/strconv.uint64pow10" .u64 Lib.pow10Tab) := hT
  clear hT
  go_enter Tryz.func100, Tryz.ntmps100
  go_wp2_with fail
  refine (Tryz.strconv_Itoa n h0 h1 _ HT.out).mono ?_
  rintro e w1 ⟨rfl, k, os, hw⟩
  have hb : Below w.heap.size w w1 := by rw [hw]; exact below_grown _ _ _
  clear hw
  go_wp2
  go_ret
  exact ⟨rfl, hb⟩
set_option maxHeartbeats 400000 in
theorem implReadDec (s : ByteArray) (w : World) (hs : s.size ≤ maxLen) (hT : Lib.TabIs Tryz.prog w "internal/strconv.uint64pow10" .u64 Lib.pow10Tab) :
    CR 214 #[.string s] w (.int .i64 (readDec s)) := by
  unfold maxLen at hs
  have HT : Hid (Lib.TabIs Tryz.prog w "internal/strconv.uint64pow10" .u64 Lib.pow10Tab) := hT
  clear hT
  by_cases h9 : 9 < s.size
  · have HB : Hid (readDec s = -1) := read_long s h9
    go_enter Tryz.func214, Tryz.ntmps214
    go_wp2
    go_ret
    exact ⟨ret_int HB.out.symm, Below.refl _ _⟩
  go_enter Tryz.func214, Tryz.ntmps214
  go_wp2
  go_loop [3, 10] (fun n i => ∃ (k : Nat) (v : Int), k ≤ s.size ∧ k ≤ 9 ∧ i = .int .i64 k ∧ n = .int .i64 v ∧ 0 ≤ v ∧ v ≤ 999999999 ∧ digs s k = true ∧ v = val s k) (fun _ i => s.size - (intOf i).toNat)
  case atStart => exact ⟨0, 0, Nat.zero_le _, Nat.zero_le _, rfl, rfl, by omega, by omega, by simp [digs], by simp [val, valL]⟩
  case round =>
   obtain ⟨k, v, hk, hk9, rfl, rfl, v0, v1, hd, hv⟩ := hrel
   have HD : Hid (digs s k = true) := hd
   have HV : Hid (v = val s k) := hv
   clear hd hv
   by_cases hlt : k < s.size
   · by_cases c1 : (s[k].toNat : Int) < 48
     · have HB : Hid (readDec s = -1) := read_stop s k hlt (inB_false (.inl c1))
       go_wp2
       go_ret
       exact ⟨ret_int HB.out.symm, Below.refl _ _⟩
     · by_cases c2 : 57 < (s[k].toNat : Int)
       · have HB : Hid (readDec s = -1) := read_stop s k hlt (inB_false (.inr c2))
         go_wp2
         go_ret
         exact ⟨ret_int HB.out.symm, Below.refl _ _⟩
       · have hb : digB s[k] = true := inB_true (by omega) (by omega)
         have HN : Hid (digs s (k + 1) = true) := by unfold Hid; rw [digs_succ s k hlt, HD.out, hb]; rfl
         have HS : Hid (val s (k + 1) = 10 * v + (s[k].toNat : Int) - 48) := by unfold Hid; rw [val_succ s k hlt, HV.out]
         clear hb
         go_wp2
         have hB := val_bd9 s (k + 1) (by omega) (by omega) HN.out
         rw [HS.out] at hB
         exact ⟨⟨k + 1, 10 * v + (s[k].toNat : Int) - 48, by omega, by omega, by go_num, by rw [show v * 10 + ((s[k].toNat : Int) - 48) = 10 * v + (s[k].toNat : Int) - 48 from by omega], by omega, by omega, HN.out, HS.out.symm⟩, by simp [intOf]; omega⟩
   · have hks : k = s.size := by omega
     cases hq : (Lib.itoa v == s.toList)
     · have HB : Hid (readDec s = -1) := read_bad s (by rw [← hks, ← HV.out]; exact itoa_ne hq)
       clear hks
       go_wp2_with (go_at_call 100; refine (implDecText _ _ (by omega) (by omega) HT.out).mono ?_; rintro e w' ⟨rfl, hb⟩)
       go_ret
       exact ⟨ret_int HB.out.symm, hb⟩
     · have HB : Hid (readDec s = v) := by unfold Hid; rw [HV.out, hks]; exact read_good s (by omega) (by rw [← hks]; exact HD.out) (by rw [← hks, ← HV.out]; exact itoa_eq hq)
       clear hks
       go_wp2_with (go_at_call 100; refine (implDecText _ _ (by omega) (by omega) HT.out).mono ?_; rintro e w' ⟨rfl, hb⟩)
       go_ret
       exact ⟨ret_int HB.out.symm, hb⟩
def shapes : List (List UInt8) := [[], [97], [97, 97], [97, 97, 97], [97, 98], [98], [98, 97], [98, 97, 97], [98, 97, 97, 97], [97, 99]]
def signOf (a b c : UInt8) (x : UInt8) : UInt8 := if x = 97 then a else if x = 98 then b else c
def subL (a b c : UInt8) (sh : List UInt8) : List UInt8 := sh.map (signOf a b c)
def mix (a b c : UInt8) (sh : List UInt8) (k j : Nat) : Int := if j < k then (((subL a b c sh).getD j 0).toNat : Int) else ((sh.getD j 0).toNat : Int)
theorem shape_ok : ∀ d : Fin 10, (shapes.getD d.val []).length ≤ 4 ∧ ∀ x ∈ shapes.getD d.val [], x = 97 ∨ x = 98 ∨ x = 99 := by decide
theorem shape_sub (a b c : UInt8) (d : Nat) (h : d < 10) : subL a b c (shapes.getD d []) = digL d a b c := by
 have : d = 0 ∨ d = 1 ∨ d = 2 ∨ d = 3 ∨ d = 4 ∨ d = 5 ∨ d = 6 ∨ d = 7 ∨ d = 8 ∨ d = 9 := by omega
 rcases this with rfl | rfl | rfl | rfl | rfl | rfl | rfl | rfl | rfl | rfl <;> rfl
theorem conv (w : World) (sh : List UInt8) : ∃ cap w1, (convert 9 134 (.string ⟨sh.toArray⟩)).run Tryz.prog w = .ok (.slice (some ⟨w.heap.size, 0, none⟩) sh.length cap) w1 ∧ Below w.heap.size w w1 ∧ w1.heap.size = w.heap.size + 1 ∧
    (∀ j, j < sh.length → w1.cell? ⟨w.heap.size, j, none⟩ = some (.int .u8 ((sh.getD j 0).toNat : Int))) ∧ (∀ j, j < sh.length → w1.frozen? ⟨w.heap.size, j, none⟩ = false) := by
  refine ⟨_, _, Lib.run_convert_string_bytes w 9 134 5 ⟨sh.toArray⟩ Tryz.underlying9 Tryz.underlying134 Tryz.underlying5, ?_, Lib.bytesWorld_size _ _ _, ?_, ?_⟩
  · refine ⟨rfl, rfl, rfl, ?_, fun k hk => Lib.bytesWorld_at_old w 5 _ k hk⟩
    rw [Lib.bytesWorld_size]; omega
  · intro j hj
    exact Lib.bytesWorld_cell w 5 ⟨sh.toArray⟩ j hj
  · intro j hj
    have hs : sh.length ≤ (Lib.bytesCells w 5 ⟨sh.toArray⟩).size := by simp [Lib.bytesCells]
    simp only [World.frozen?, Lib.bytesWorld_at_new]
    simp
    omega
theorem setCell_size (w : World) (p : Addr) (v : Value) : (w.setCell p v).heap.size = w.heap.size := by simp [World.setCell]
theorem stored (a b c : UInt8) (sh : List UInt8) (k j : Nat) (v : UInt8) {wr : World} {B : Nat} {u : Value} (hv : (subL a b c sh).getD k 0 = v) (hk : wr.cell? ⟨B, k, none⟩ = some u)
    (hj : wr.cell? ⟨B, j, none⟩ = some (.int .u8 (mix a b c sh k j))) : (wr.setCell ⟨B, k, none⟩ (.int .u8 (v.toNat : Int))).cell? ⟨B, j, none⟩ = some (.int .u8 (mix a b c sh (k + 1) j)) := by
  by_cases e : j = k
  · subst e
    rw [World.cell?_setCell_same wr _ _ hk]
    unfold mix
    rw [if_pos (by omega), hv]
  · rw [World.cell?_setCell_other wr _ _ _ (by intro h; apply e; injection h with _ h2 _; exact h2.symm), hj]
    unfold mix
    by_cases h : j < k
    · rw [if_pos h, if_pos (by omega)]
    · rw [if_neg h, if_neg (by omega)]
theorem back (wr : World) (cap B : Nat) (l : List UInt8) (n : Nat) (hn : l.length = n) (hc : ∀ j, j < n → wr.cell? ⟨B, j, none⟩ = some (.int .u8 ((l.getD j 0).toNat : Int))) :
    (convert 134 9 (.slice (some ⟨B, 0, none⟩) n cap)).run Tryz.prog wr = .ok (.string ⟨l.toArray⟩) wr := by
  subst hn
  refine run_convert_bytes_back wr 134 9 5 ⟨B, 0, none⟩ cap l Tryz.underlying134 Tryz.underlying5 Tryz.underlying9 (fun j hj => ?_)
  have : (⟨B, 0, none⟩ : Addr).add j = ⟨B, j, none⟩ := by unfold Addr.add; split <;> simp_all
  rw [this, hc j hj]
  simp [List.getD, List.getElem?_eq_getElem hj]
set_option maxHeartbeats 1000000 in
theorem digitSigns (d : Int) (a b c : UInt8) (w : World) (h0 : 0 ≤ d) (h9 : d ≤ 9) (hT : kit.StrIs Tryz.prog w "loop.example/g00638/impl.digitShapes" shapes) :
    CR 284 #[.int .i64 d, .string ⟨#[a, b, c]⟩] w (.string ⟨(digL d.toNat a b c).toArray⟩) := by
  obtain ⟨n, rfl⟩ := Int.eq_ofNat_of_zero_le h0
  have hc := hT.cell (g := 7) (by kernel_rfl) n (by show n < 10; omega)
  have hso := shape_ok ⟨n, by omega⟩
  have HD : Hid (digL ((n : Int)).toNat a b c = subL a b c (shapes.getD n [])) := by unfold Hid; rw [Int.toNat_natCast]; exact (shape_sub a b c n (by omega)).symm
  generalize hsh : shapes.getD n [] = sh at *
  obtain ⟨hlen, hall⟩ : sh.length ≤ 4 ∧ ∀ x ∈ sh, x = 97 ∨ x = 98 ∨ x = 99 := hso
  clear hT hsh
  have HA : Hid (∀ x ∈ sh, x = 97 ∨ x = 98 ∨ x = 99) := hall
  clear hall
  obtain ⟨cap, w1, hrun, hb, hz, hcell, hfr⟩ := conv w sh
  have HC : Hid (∀ j, j < sh.length → w1.cell? ⟨w.heap.size, j, none⟩ = some (.int .u8 ((sh.getD j 0).toNat : Int))) := hcell
  have HF : Hid (∀ j, j < sh.length → w1.frozen? ⟨w.heap.size, j, none⟩ = false) := hfr
  have HB : Hid (Below w.heap.size w w1) := hb
  have HZ : Hid (w1.heap.size = w.heap.size + 1) := hz
  clear hcell hfr hb hz
  go_enter Tryz.func284, Tryz.ntmps284
  go_wp2
  go_loopw [14] (fun i wr => ∃ k : Nat, k ≤ sh.length ∧ i = .int .i64 k ∧ Below w.heap.size w wr ∧ w.heap.size < wr.heap.size ∧ (∀ j, j < sh.length → wr.cell? ⟨w.heap.size, j, none⟩ = some (.int .u8 (mix a b c sh k j))) ∧ (∀ j, j < sh.length → wr.frozen? ⟨w.heap.size, j, none⟩ = false)) (fun i _ => sh.length - (intOf i).toNat)
  case atStart => exact ⟨0, Nat.zero_le _, rfl, HB.out, by rw [HZ.out]; omega, fun j hj => by rw [HC.out j hj]; simp [mix], HF.out⟩
  case round =>
   obtain ⟨k, hk, rfl, hb, hz, hcl, hfr⟩ := hrel
   have HC' : Hid (∀ j, j < sh.length → wr.cell? ⟨w.heap.size, j, none⟩ = some (.int .u8 (mix a b c sh k j))) := hcl
   have HF' : Hid (∀ j, j < sh.length → wr.frozen? ⟨w.heap.size, j, none⟩ = false) := hfr
   have HB' : Hid (Below w.heap.size w wr) := hb
   clear hcl hfr hb hrun hc
   by_cases hlt : k < sh.length
   · have hck := HC'.out k hlt
     have hfk := HF'.out k hlt
     have hx := HA.out (sh.getD k 0) (by rw [List.getD, List.getElem?_eq_getElem hlt]; exact List.getElem_mem _)
     have hm : mix a b c sh k k = ((sh.getD k 0).toNat : Int) := by simp [mix]
     rw [hm] at hck
     clear hm
     have HX : Hid ((subL a b c sh).getD k 0 = signOf a b c (sh.getD k 0)) := by
      unfold Hid subL
      simp [List.getD, List.getElem?_eq_getElem hlt]
     generalize hg : sh.getD k 0 = x at *
     clear hg
     rcases hx with rfl | rfl | rfl
     all_goals
      go_wp2
      exact ⟨⟨k + 1, by omega, by go_num, HB'.out.setCell (Nat.le_refl _) _, by rw [setCell_size]; exact hz, fun j hj => stored a b c sh k j _ HX.out (HC'.out k hlt) (HC'.out j hj), fun j hj => by rw [World.frozen?_setCell]; exact HF'.out j hj⟩, by simp [intOf]; omega⟩
   · have hback := back wr cap w.heap.size (subL a b c sh) sh.length (by simp [subL]) (fun j hj => by
      have h := HC'.out j hj
      rw [h]
      unfold mix
      rw [if_pos (by omega)])
     go_wp2
     go_ret
     exact ⟨ret_str (by rw [HD.out]), HB'.out⟩
abbrev Shp (w : World) : Prop := kit.StrIs Tryz.prog w "loop.example/g00638/impl.digitShapes" shapes
theorem Shp.later {w w1 : World} (h : Shp w) (hb : Below w.heap.size w w1) : Shp w1 := kit.StrIs.below h hb (g := 7) (by kernel_rfl)
theorem repeatM (n : Int) (w : World) (h0 : 0 ≤ n) (h3 : n ≤ 3) :
    CR 283 #[.string ⟨#[77]⟩, .int .i64 n] w (.string ⟨(manyL 77 n.toNat).toArray⟩) := by
  obtain ⟨k, rfl⟩ := Int.eq_ofNat_of_zero_le h0
  refine (Tryz.strings_Repeat ⟨#[77]⟩ k w (by omega) (by show 1 * k ≤ _; omega)).mono ?_
  rintro e w' ⟨rfl, hb⟩
  refine ⟨ret_str ?_, hb⟩
  have : k = 0 ∨ k = 1 ∨ k = 2 ∨ k = 3 := by omega
  rcases this with rfl | rfl | rfl | rfl <;> rfl
set_option maxHeartbeats 1000000 in
theorem implPutRoman (n : Int) (w : World) (hT : kit.StrIs Tryz.prog w "loop.example/g00638/impl.digitShapes" shapes) :
    CR 263 #[.int .i64 n] w (.string (putRoman n)) := by
  have HT : Hid (kit.StrIs Tryz.prog w "loop.example/g00638/impl.digitShapes" shapes) := hT
  clear hT
  by_cases h1 : n < 1
  · rw [putRoman_no (.inl h1)]
    go_enter Tryz.func263, Tryz.ntmps263
    go_wp2
    go_ret
    exact ⟨rfl, Below.refl _ _⟩
  by_cases h2 : 3999 < n
  · rw [putRoman_no (.inr h2)]
    go_enter Tryz.func263, Tryz.ntmps263
    go_wp2
    go_ret
    exact ⟨rfl, Below.refl _ _⟩
  have HP : Hid (putRoman n = ⟨(roman n.toNat).toArray⟩) := by unfold Hid putRoman; rw [if_pos ⟨by omega, by omega⟩]
  by_cases k1 : 1000 ≤ n
  · go_enter Tryz.func263, Tryz.ntmps263
    go_wp2_with fail
    refine (repeatM _ _ (by omega) (by omega)).mono ?_
    rintro e w1 ⟨rfl, hb1⟩
    have HB1 : Hid (Below w.heap.size w w1) := hb1
    clear hb1
    have l1 := manyL_len 77 (n / 1000).toNat
    generalize hx1 : manyL 77 (n / 1000).toNat = x1 at *
    have hl1 : x1.length ≤ 3 := by omega
    have H1 : Hid (manyL 77 (n / 1000).toNat = x1) := hx1
    clear hx1 l1
    go_wp2_with fail
    refine (digitSigns _ _ _ _ _ (by omega) (by omega) (HT.out.below HB1.out (g := 7) (by kernel_rfl))).mono ?_
    rintro e w2 ⟨rfl, hb2⟩
    have HB2 : Hid (Below w.heap.size w w2) := HB1.out.trans (hb2.mono HB1.out.size)
    clear hb2
    have hl2 := digL_len (n / 100 % 10).toNat 67 68 77
    generalize hx2 : digL (n / 100 % 10).toNat 67 68 77 = x2 at *
    have H2 : Hid (digL (n / 100 % 10).toNat 67 68 77 = x2) := hx2
    clear hx2
    go_wp2_with fail
    refine (digitSigns _ _ _ _ _ (by omega) (by omega) (HT.out.below HB2.out (g := 7) (by kernel_rfl))).mono ?_
    rintro e w3 ⟨rfl, hb3⟩
    have HB3 : Hid (Below w.heap.size w w3) := HB2.out.trans (hb3.mono HB2.out.size)
    clear hb3
    have hl3 := digL_len (n / 10 % 10).toNat 88 76 67
    generalize hx3 : digL (n / 10 % 10).toNat 88 76 67 = x3 at *
    have H3 : Hid (digL (n / 10 % 10).toNat 88 76 67 = x3) := hx3
    clear hx3
    go_wp2_with fail
    refine (digitSigns _ _ _ _ _ (by omega) (by omega) (HT.out.below HB3.out (g := 7) (by kernel_rfl))).mono ?_
    rintro e w4 ⟨rfl, hb4⟩
    have HB4 : Hid (Below w.heap.size w w4) := HB3.out.trans (hb4.mono HB3.out.size)
    clear hb4
    have hl4 := digL_len (n % 10).toNat 73 86 88
    generalize hx4 : digL (n % 10).toNat 73 86 88 = x4 at *
    have H4 : Hid (digL (n % 10).toNat 73 86 88 = x4) := hx4
    clear hx4
    go_wp2
    go_ret
    refine ⟨ret_str ?_, HB4.out⟩
    rw [HP.out, roman_int n (by omega), H1.out, H2.out, H3.out, H4.out]
    apply WideShapes.bytes_inj
    simp
  by_cases k2 : 100 ≤ n
  · go_enter Tryz.func263, Tryz.ntmps263
    go_wp2_with fail
    refine (digitSigns _ _ _ _ _ (by omega) (by omega) (HT.out.below (Below.refl _ _) (g := 7) (by kernel_rfl))).mono ?_
    rintro e w2 ⟨rfl, hb2⟩
    have HB2 : Hid (Below w.heap.size w w2) := hb2
    clear hb2
    have hl2 := digL_len (n / 100 % 10).toNat 67 68 77
    generalize hx2 : digL (n / 100 % 10).toNat 67 68 77 = x2 at *
    have H2 : Hid (digL (n / 100 % 10).toNat 67 68 77 = x2) := hx2
    clear hx2
    go_wp2_with fail
    refine (digitSigns _ _ _ _ _ (by omega) (by omega) (HT.out.below HB2.out (g := 7) (by kernel_rfl))).mono ?_
    rintro e w3 ⟨rfl, hb3⟩
    have HB3 : Hid (Below w.heap.size w w3) := HB2.out.trans (hb3.mono HB2.out.size)
    clear hb3
    have hl3 := digL_len (n / 10 % 10).toNat 88 76 67
    generalize hx3 : digL (n / 10 % 10).toNat 88 76 67 = x3 at *
    have H3 : Hid (digL (n / 10 % 10).toNat 88 76 67 = x3) := hx3
    clear hx3
    go_wp2_with fail
    refine (digitSigns _ _ _ _ _ (by omega) (by omega) (HT.out.below HB3.out (g := 7) (by kernel_rfl))).mono ?_
    rintro e w4 ⟨rfl, hb4⟩
    have HB4 : Hid (Below w.heap.size w w4) := HB3.out.trans (hb4.mono HB3.out.size)
    clear hb4
    have hl4 := digL_len (n % 10).toNat 73 86 88
    generalize hx4 : digL (n % 10).toNat 73 86 88 = x4 at *
    have H4 : Hid (digL (n % 10).toNat 73 86 88 = x4) := hx4
    clear hx4
    go_wp2
    go_ret
    refine ⟨ret_str ?_, HB4.out⟩
    rw [HP.out, roman_int n (by omega), show manyL 77 (n / 1000).toNat = [] from by rw [show (n / 1000).toNat = 0 from by omega]; rfl, H2.out, H3.out, H4.out]
    apply WideShapes.bytes_inj
    simp
  by_cases k3 : 10 ≤ n
  · go_enter Tryz.func263, Tryz.ntmps263
    go_wp2_with fail
    refine (digitSigns _ _ _ _ _ (by omega) (by omega) (HT.out.below (Below.refl _ _) (g := 7) (by kernel_rfl))).mono ?_
    rintro e w3 ⟨rfl, hb3⟩
    have HB3 : Hid (Below w.heap.size w w3) := hb3
    clear hb3
    have hl3 := digL_len (n / 10 % 10).toNat 88 76 67
    generalize hx3 : digL (n / 10 % 10).toNat 88 76 67 = x3 at *
    have H3 : Hid (digL (n / 10 % 10).toNat 88 76 67 = x3) := hx3
    clear hx3
    go_wp2_with fail
    refine (digitSigns _ _ _ _ _ (by omega) (by omega) (HT.out.below HB3.out (g := 7) (by kernel_rfl))).mono ?_
    rintro e w4 ⟨rfl, hb4⟩
    have HB4 : Hid (Below w.heap.size w w4) := HB3.out.trans (hb4.mono HB3.out.size)
    clear hb4
    have hl4 := digL_len (n % 10).toNat 73 86 88
    generalize hx4 : digL (n % 10).toNat 73 86 88 = x4 at *
    have H4 : Hid (digL (n % 10).toNat 73 86 88 = x4) := hx4
    clear hx4
    go_wp2
    go_ret
    refine ⟨ret_str ?_, HB4.out⟩
    rw [HP.out, roman_int n (by omega), show manyL 77 (n / 1000).toNat = [] from by rw [show (n / 1000).toNat = 0 from by omega]; rfl, show digL (n / 100 % 10).toNat 67 68 77 = [] from by rw [show (n / 100 % 10).toNat = 0 from by omega]; rfl, H3.out, H4.out]
    apply WideShapes.bytes_inj
    simp
  · go_enter Tryz.func263, Tryz.ntmps263
    go_wp2_with fail
    refine (digitSigns _ _ _ _ _ (by omega) (by omega) (HT.out.below (Below.refl _ _) (g := 7) (by kernel_rfl))).mono ?_
    rintro e w4 ⟨rfl, hb4⟩
    have HB4 : Hid (Below w.heap.size w w4) := hb4
    clear hb4
    have hl4 := digL_len (n % 10).toNat 73 86 88
    generalize hx4 : digL (n % 10).toNat 73 86 88 = x4 at *
    have H4 : Hid (digL (n % 10).toNat 73 86 88 = x4) := hx4
    clear hx4
    go_wp2
    go_ret
    refine ⟨ret_str ?_, HB4.out⟩
    rw [HP.out, roman_int n (by omega), show manyL 77 (n / 1000).toNat = [] from by rw [show (n / 1000).toNat = 0 from by omega]; rfl, show digL (n / 100 % 10).toNat 67 68 77 = [] from by rw [show (n / 100 % 10).toNat = 0 from by omega]; rfl, show digL (n / 10 % 10).toNat 88 76 67 = [] from by rw [show (n / 10 % 10).toNat = 0 from by omega]; rfl, H4.out]
    apply WideShapes.bytes_inj
    simp
end Go.Proofs.YtdmlhiailjnhcaaGreatDoor.ctr
