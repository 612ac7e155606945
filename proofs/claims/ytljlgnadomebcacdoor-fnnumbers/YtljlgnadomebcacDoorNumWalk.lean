/- The walk of the law FnNumbers: for every []byte it returns true and turns nothing that was there, where the listed tables hold what they list. -/
import Derived.Test.YtljlgnadomebcacDoorNumPlain
import Derived.Test.YtljlgnadomebcacDoorFloorCtr
import Derived.Test.YtljlgnadomebcacDoorNumDraw2
import Derived.Test.YtljlgnadomebcacDoorGetDraw
import Derived.Test.YtljlgnadomebcacDoorGetImpl
import Derived.Test.YtljlgnadomebcacDoorReadImpl
namespace Go.Proofs.YtljlgnadomebcacDoor.ctr
open Go.RowKit Go.ChangeShapes

theorem get_put (h : ByteArray) (hn : 0 < getRoman h) : putRoman (getRoman h) = h := by
  unfold getRoman at hn ⊢
  split
  · assumption
  · rename_i hne
    rw [if_neg hne] at hn
    omega
theorem itoa_max (e : Int) (h : I64 e) : (⟨(Lib.itoa e).toArray⟩ : ByteArray).size ≤ maxLen :=
  Nat.le_trans (show (Lib.itoa e).length ≤ 21 from itoa_len e h.1 h.2) (by unfold maxLen; omega)
theorem code_of {W : World} {a : Option Addr} {len cap : Nat} {zs : List Int} (h : kit.IsRow .u8 W a len cap zs) : CodeAt W.heap.size W a len ∧ len ≤ maxLen := by
  rcases h with ⟨rfl, rfl, rfl, rfl⟩ | ⟨x, rfl, hl, hm, hz, hcell, hwz⟩
  · exact ⟨.inl rfl, Nat.zero_le _⟩
  · refine ⟨?_, Nat.le_trans hl hm⟩
    by_cases h0 : len = 0
    · exact .inl h0
    · obtain ⟨b, off, spot⟩ := x
      have hc := hcell 0 (by omega)
      have hspot : spot = none := by simpa [Addr.add] using World.cell?_spot hc
      subst hspot
      have hadd : ∀ i : Nat, (⟨b, off, none⟩ : Addr).add i = ⟨b, off + i, none⟩ := fun i => by unfold Addr.add; split <;> simp_all
      have hblk : b < W.heap.size := by
        rw [hadd] at hc
        by_cases hb : b < W.heap.size
        · exact hb
        · simp [World.cell?, Array.getElem?_eq_none (Nat.le_of_not_lt hb)] at hc
      refine .inr ⟨b, off, fun i => zs.getD i 0, rfl, hblk, fun i hi => by rw [← hadd]; exact hcell i (by omega), fun i hi => ?_⟩
      have hmem : zs.getD i 0 ∈ zs := by
        rw [List.getD, List.getElem?_eq_getElem (show i < zs.length by omega)]
        exact List.getElem_mem _
      exact bounds_u8 (hwz _ hmem)
theorem CodeAt.up {W W' : World} {a : Option Addr} {len : Nat} (h : CodeAt W.heap.size W a len) (hb : Below W.heap.size W W') : CodeAt W'.heap.size W' a len := by
  rcases h with h | ⟨b, off, zs, ha, hlt, hc, hz⟩
  · exact .inl h
  · exact .inr ⟨b, off, zs, ha, Nat.lt_of_lt_of_le hlt hb.size, fun i hi => by rw [hb.cell (p := ⟨b, off + i, none⟩) hlt]; exact hc i hi, hz⟩

theorem big_ (w : World) (a : Option Addr) (len cap : Nat) : Calls Tryd.prog 5 #[.slice a len cap] w fun e w' => e = .returned (.bool (decide ((1048576 : Int) < (len : Int)))) ∧ w' = w := by
  go_enter Tryd.func5, Tryd.ntmps5
  go_wp2
  go_ret
  exact ⟨rfl, rfl⟩

set_option maxHeartbeats 4000000 in
theorem numWalk (a0 : Option Addr) (len0 cap0 : Nat) (z0 : List Int) (w : World) (w0 : kit.IsRow .u8 w a0 len0 cap0 z0)
    (t0 : Lib.TabIs Tryd.prog w "internal/strconv.uint64pow10" .u64 [1, 10, 100, 1000, 10000, 100000, 1000000, 10000000, 100000000, 1000000000, 10000000000, 100000000000, 1000000000000, 10000000000000, 100000000000000, 1000000000000000, 10000000000000000, 100000000000000000, 1000000000000000000, 10000000000000000000])
    (t1 : kit.StrIs Tryd.prog w "loop.example/g00638/impl.digitShapes" shapes) :
    Calls Tryd.prog 3 #[.slice a0 len0 cap0] w fun e w' => e = .returned (.bool true) ∧ Below w.heap.size w w' := by
  obtain ⟨hcode, hlen⟩ := code_of w0
  rw [← pow10_eq] at t0
  have HT : Hid (Lib.TabIs Tryd.prog w "internal/strconv.uint64pow10" .u64 Lib.pow10Tab) := t0
  have HS : Hid (kit.StrIs Tryd.prog w "loop.example/g00638/impl.digitShapes" shapes) := t1
  have HC : Hid (CodeAt w.heap.size w a0 len0) := hcode
  have HT' : ∀ W', Below w.heap.size w W' → Lib.TabIs Tryd.prog W' "internal/strconv.uint64pow10" .u64 Lib.pow10Tab := fun W' hb => kit.tab_below HT.out hb (g := 3) (by kernel_rfl)
  have HS' : ∀ W', Below w.heap.size w W' → kit.StrIs Tryd.prog W' "loop.example/g00638/impl.digitShapes" shapes := fun W' hb => HS.out.below hb (g := 1) (by kernel_rfl)
  have HC' : ∀ W', Below w.heap.size w W' → CodeAt W'.heap.size W' a0 len0 := fun W' hb => CodeAt.up HC.out hb
  have KT : Hid _ := HT'
  have KS : Hid _ := HS'
  have KC : Hid _ := HC'
  clear t0 t1 hcode w0 HT' HS' HC'
  by_cases hbig : (1048576 : Int) < (len0 : Int)
  · have hbd : decide ((1048576 : Int) < (len0 : Int)) = true := by simp; omega
    go_enter Tryd.func3, Tryd.ntmps3
    go_wp2_with fail
    refine (big_ _ _ _ _).mono ?_
    rintro e w' ⟨rfl, rfl⟩
    go_wp2_with fail
    go_ret
    exact ⟨rfl, Below.refl _ _⟩
  have hbd : decide ((1048576 : Int) < (len0 : Int)) = false := by simp; omega
  go_enter Tryd.func3, Tryd.ntmps3
  go_wp2_with fail
  refine (big_ _ _ _ _).mono ?_
  rintro e w' ⟨rfl, rfl⟩
  have HB0 : Hid (Below w'.heap.size w' w') := Below.refl _ _
  go_wp2_with fail
  refine (drawFloorDiv _ a0 len0 cap0 hlen (KC.out _ HB0.out)).mono ?_
  rintro e W1 ⟨a, b, rfl, ha, hb_, hb⟩
  have HB1 : Hid (Below w'.heap.size w' W1) := HB0.out.trans (hb.mono HB0.out.size)
  have HA : Hid (I64 a) := ha
  clear hb ha hb_
  go_wp2_with fail
  refine (drawFloorMod _ a0 len0 cap0 hlen (KC.out _ HB1.out)).mono ?_
  rintro e W2 ⟨c, d, rfl, hc, hd_, hb⟩
  have HB2 : Hid (Below w'.heap.size w' W2) := HB1.out.trans (hb.mono HB1.out.size)
  have HCc : Hid (I64 c) := hc
  clear hb hc hd_
  go_wp2_with fail
  refine (drawDecText _ a0 len0 cap0 hlen (KC.out _ HB2.out)).mono ?_
  rintro e W3 ⟨e_, rfl, he, hb⟩
  have HB3 : Hid (Below w'.heap.size w' W3) := HB2.out.trans (hb.mono HB2.out.size)
  have HE : Hid (I64 e_) := he
  clear hb he
  go_wp2_with fail
  refine (drawReadDec _ a0 len0 cap0 hlen (KC.out _ HB3.out)).mono ?_
  rintro e W4 ⟨f, rfl, hf, hb⟩
  have HB4 : Hid (Below w'.heap.size w' W4) := HB3.out.trans (hb.mono HB3.out.size)
  clear hb 
  go_wp2_with fail
  refine (drawPutRoman _ a0 len0 cap0 hlen (KC.out _ HB4.out)).mono ?_
  rintro e W5 ⟨g, rfl, hg, hb⟩
  have HB5 : Hid (Below w'.heap.size w' W5) := HB4.out.trans (hb.mono HB4.out.size)
  clear hb hg
  go_wp2_with fail
  refine (implPutRoman g _ (KS.out _ HB5.out)).mono ?_
  rintro e W6 ⟨rfl, hb⟩
  have HB6 : Hid (Below w'.heap.size w' W6) := HB5.out.trans (hb.mono HB5.out.size)
  clear hb
  go_wp2_with fail
  refine (drawGetRoman _ a0 len0 cap0 hlen (KC.out _ HB6.out)).mono ?_
  rintro e W7 ⟨h, rfl, hh, hb⟩
  have HB7 : Hid (Below w'.heap.size w' W7) := HB6.out.trans (hb.mono HB6.out.size)
  clear hb 
  go_wp2_with fail
  refine (implGetRoman h _ (by omega) (KS.out _ HB7.out)).mono ?_
  rintro e W8 ⟨rfl, hb⟩
  have HB8 : Hid (Below w'.heap.size w' W8) := HB7.out.trans (hb.mono HB7.out.size)
  clear hb
  go_wp2_with fail
  refine (implFloorDiv a b _).mono ?_
  rintro e w'' ⟨rfl, rfl⟩
  go_wp2_with fail
  refine (specFloorDiv a b _).mono ?_
  rintro e w'' ⟨rfl, rfl⟩
  go_wp2_with fail
  refine (implFloorMod c d _ HCc.out).mono ?_
  rintro e w'' ⟨rfl, rfl⟩
  go_wp2_with fail
  refine (specFloorMod c d _).mono ?_
  rintro e w'' ⟨rfl, rfl⟩
  go_wp2_with fail
  refine (implDecText e_ _ HE.out.1 HE.out.2 (KT.out _ HB8.out)).mono ?_
  rintro e W9 ⟨rfl, hb⟩
  have HB9 : Hid (Below w'.heap.size w' W9) := HB8.out.trans (hb.mono HB8.out.size)
  clear hb
  go_wp2_with fail
  refine (specDecText e_ _ HE.out.1 HE.out.2).mono ?_
  rintro e w'' ⟨rfl, rfl⟩
  go_wp2_with fail
  refine (implReadDec f _ (Nat.le_trans hf (by unfold maxLen; omega)) (KT.out _ HB9.out)).mono ?_
  rintro e W10 ⟨rfl, hb⟩
  have HB10 : Hid (Below w'.heap.size w' W10) := HB9.out.trans (hb.mono HB9.out.size)
  clear hb
  go_wp2_with fail
  refine (specReadDec f _ (Nat.le_trans hf (by unfold maxLen; omega))).mono ?_
  rintro e w'' ⟨rfl, rfl⟩
  go_wp2_with fail
  refine (specPutRoman g _).mono ?_
  rintro e w'' ⟨rfl, rfl⟩
  go_wp2_with fail
  refine (specGetRoman h _ (by omega)).mono ?_
  rintro e w'' ⟨rfl, rfl⟩
  have HB : Hid (Below w'.heap.size w' _) := HB10.out
  have hfb : 0 < b → wrap64 (wrap64 (floorDiv a b * b) + floorMod a b) = a := floor_back a b HA.out
  clear HB0 HB1 HB2 HB3 HB4 HB5 HB6 HB7 HB8 HB9 HB10
  by_cases hg : 1 ≤ g ∧ g ≤ 3999
  · obtain ⟨g0, g1⟩ := hg
    have hse : (putRoman g).toList.isEmpty = false := by
      rw [ByteArray.toList_eq]
      simp
      intro e
      exact roman_some g g0 g1 (by show (putRoman g).data.size = 0; rw [e]; rfl)
    go_wp2_with (first | (go_at_call 14; refine (implFloorDiv _ _ _).mono ?_; rintro e w'' ⟨rfl, rfl⟩) | (go_at_call 16; refine (implFloorMod _ _ _ HA.out).mono ?_; rintro e w'' ⟨rfl, rfl⟩) | (go_at_call 18; refine (implDecText _ _ HE.out.1 HE.out.2 (KT.out _ HB.out)).mono ?_; rintro e W' ⟨rfl, hb⟩; replace HB : Hid (Below _ _ W') := HB.out.trans (hb.mono HB.out.size); clear hb) | (go_at_call 20; refine (implReadDec _ _ (itoa_max e_ HE.out) (KT.out _ HB.out)).mono ?_; rintro e W' ⟨rfl, hb⟩; replace HB : Hid (Below _ _ W') := HB.out.trans (hb.mono HB.out.size); clear hb; rw [show readDec ⟨(Lib.itoa e_).toArray⟩ = e_ from read_back e_ (by omega) (by omega)]) | (go_at_call 11; refine (implPutRoman _ _ (KS.out _ HB.out)).mono ?_; rintro e W' ⟨rfl, hb⟩; replace HB : Hid (Below _ _ W') := HB.out.trans (hb.mono HB.out.size); clear hb; rw [get_put h (by omega)]) | (go_at_call 13; refine (implGetRoman _ _ (Nat.le_trans (roman_good g).2 (by omega)) (KS.out _ HB.out)).mono ?_; rintro e W' ⟨rfl, hb⟩; replace HB : Hid (Below _ _ W') := HB.out.trans (hb.mono HB.out.size); clear hb; rw [roman_back g (by omega) (by omega)]))
    all_goals go_ret
    all_goals first | exact ⟨rfl, HB.out⟩ | exact ⟨ret_bool (by simp; omega), HB.out⟩
  · have hse : (putRoman g).toList.isEmpty = true := by rw [putRoman_no (by omega), ByteArray.toList_eq]; rfl
    by_cases g0 : g < 1
    · go_wp2_with (first | (go_at_call 14; refine (implFloorDiv _ _ _).mono ?_; rintro e w'' ⟨rfl, rfl⟩) | (go_at_call 16; refine (implFloorMod _ _ _ HA.out).mono ?_; rintro e w'' ⟨rfl, rfl⟩) | (go_at_call 18; refine (implDecText _ _ HE.out.1 HE.out.2 (KT.out _ HB.out)).mono ?_; rintro e W' ⟨rfl, hb⟩; replace HB : Hid (Below _ _ W') := HB.out.trans (hb.mono HB.out.size); clear hb) | (go_at_call 20; refine (implReadDec _ _ (itoa_max e_ HE.out) (KT.out _ HB.out)).mono ?_; rintro e W' ⟨rfl, hb⟩; replace HB : Hid (Below _ _ W') := HB.out.trans (hb.mono HB.out.size); clear hb; rw [show readDec ⟨(Lib.itoa e_).toArray⟩ = e_ from read_back e_ (by omega) (by omega)]) | (go_at_call 11; refine (implPutRoman _ _ (KS.out _ HB.out)).mono ?_; rintro e W' ⟨rfl, hb⟩; replace HB : Hid (Below _ _ W') := HB.out.trans (hb.mono HB.out.size); clear hb; rw [get_put h (by omega)]) | (go_at_call 13; refine (implGetRoman _ _ (Nat.le_trans (roman_good g).2 (by omega)) (KS.out _ HB.out)).mono ?_; rintro e W' ⟨rfl, hb⟩; replace HB : Hid (Below _ _ W') := HB.out.trans (hb.mono HB.out.size); clear hb; rw [roman_back g (by omega) (by omega)]))
      all_goals go_ret
      all_goals first | exact ⟨rfl, HB.out⟩ | exact ⟨ret_bool (by simp; omega), HB.out⟩
    · have g1 : 3999 < g := by omega
      go_wp2_with (first | (go_at_call 14; refine (implFloorDiv _ _ _).mono ?_; rintro e w'' ⟨rfl, rfl⟩) | (go_at_call 16; refine (implFloorMod _ _ _ HA.out).mono ?_; rintro e w'' ⟨rfl, rfl⟩) | (go_at_call 18; refine (implDecText _ _ HE.out.1 HE.out.2 (KT.out _ HB.out)).mono ?_; rintro e W' ⟨rfl, hb⟩; replace HB : Hid (Below _ _ W') := HB.out.trans (hb.mono HB.out.size); clear hb) | (go_at_call 20; refine (implReadDec _ _ (itoa_max e_ HE.out) (KT.out _ HB.out)).mono ?_; rintro e W' ⟨rfl, hb⟩; replace HB : Hid (Below _ _ W') := HB.out.trans (hb.mono HB.out.size); clear hb; rw [show readDec ⟨(Lib.itoa e_).toArray⟩ = e_ from read_back e_ (by omega) (by omega)]) | (go_at_call 11; refine (implPutRoman _ _ (KS.out _ HB.out)).mono ?_; rintro e W' ⟨rfl, hb⟩; replace HB : Hid (Below _ _ W') := HB.out.trans (hb.mono HB.out.size); clear hb; rw [get_put h (by omega)]) | (go_at_call 13; refine (implGetRoman _ _ (Nat.le_trans (roman_good g).2 (by omega)) (KS.out _ HB.out)).mono ?_; rintro e W' ⟨rfl, hb⟩; replace HB : Hid (Below _ _ W') := HB.out.trans (hb.mono HB.out.size); clear hb; rw [roman_back g (by omega) (by omega)]))
      all_goals go_ret
      all_goals first | exact ⟨rfl, HB.out⟩ | exact ⟨ret_bool (by simp; omega), HB.out⟩
end Go.Proofs.YtljlgnadomebcacDoor.ctr
