/- The walk of the law FnWords: for every []byte it returns true and turns nothing that was there, where the table of months holds its texts. -/
import Derived.Test.YtljlgnadomebcacDoorLawBase
import Derived.Test.YtljlgnadomebcacDoorWordDraw
import Derived.Test.YtljlgnadomebcacDoorWordPlain
import Derived.Test.YtljlgnadomebcacDoorLinesImpl
import Derived.Test.YtljlgnadomebcacDoorSameCtr
import Derived.Test.YtljlgnadomebcacDoorNameCtr
namespace Go.Proofs.YtljlgnadomebcacDoor.ctr
open Go.RowKit Go.ChangeShapes

theorem join_mono (g : UInt8) (xs : List ByteArray) (k : Nat) : ∀ j, (join g (xs.take k)).length ≤ (join g (xs.take (k + j))).length
  | 0 => Nat.le_refl _
  | j + 1 => by
    refine Nat.le_trans (join_mono g xs k j) ?_
    show _ ≤ (join g (xs.take (k + j + 1))).length
    by_cases h : k + j < xs.length
    · rw [List.take_succ_eq_append_getElem h]
      by_cases h0 : xs.take (k + j) = []
      · rw [h0]; simp [join]
      · rw [join_snoc g _ _ h0]; simp
    · rw [List.take_of_length_le (by omega), List.take_of_length_le (by omega)]
      exact Nat.le_refl _
theorem join_le (g : UInt8) (xs : List ByteArray) (k : Nat) (h : k ≤ xs.length) : (join g (xs.take k)).length ≤ (join g xs).length := by
  have := join_mono g xs k (xs.length - k)
  rwa [show k + (xs.length - k) = xs.length from by omega, List.take_length] at this
theorem ended_mono (xs : List ByteArray) (k : Nat) : ∀ j, (ended (xs.take k)).length ≤ (ended (xs.take (k + j))).length
  | 0 => Nat.le_refl _
  | j + 1 => by
    refine Nat.le_trans (ended_mono xs k j) ?_
    show _ ≤ (ended (xs.take (k + j + 1))).length
    by_cases h : k + j < xs.length
    · rw [List.take_succ_eq_append_getElem h, ended_snoc]; simp
    · rw [List.take_of_length_le (by omega), List.take_of_length_le (by omega)]
      exact Nat.le_refl _
theorem ended_le (xs : List ByteArray) (k : Nat) (h : k ≤ xs.length) : (ended (xs.take k)).length ≤ (ended xs).length := by
  have := ended_mono xs k (xs.length - k)
  rwa [show k + (xs.length - k) = xs.length from by omega, List.take_length] at this
theorem get_take (xs : List ByteArray) (k : Nat) (h : k < xs.length) : xs.take (k + 1) = xs.take k ++ [xs.getD k ⟨#[]⟩] := by
  rw [List.take_succ_eq_append_getElem h]
  simp [List.getD, h]
theorem size_list (s : ByteArray) : s.size = s.data.toList.length := rfl

set_option maxHeartbeats 4000000 in
theorem wordWalk (a0 : Option Addr) (len0 cap0 : Nat) (z0 : List Int) (w : World) (w0 : kit.IsRow .u8 w a0 len0 cap0 z0)
    (t1 : kit.StrIs Tryd.prog w "loop.example/g00638/impl.monthNames" mons) :
    Calls Tryd.prog 4 #[.slice a0 len0 cap0] w fun e w' => e = .returned (.bool true) ∧ Below w.heap.size w w' := by
  obtain ⟨hcode, hlen⟩ := code_of w0
  have HS : Hid (kit.StrIs Tryd.prog w "loop.example/g00638/impl.monthNames" mons) := t1
  have HC : Hid (CodeAt w.heap.size w a0 len0) := hcode
  have HS' : ∀ W', Below w.heap.size w W' → kit.StrIs Tryd.prog W' "loop.example/g00638/impl.monthNames" mons := fun W' hb => HS.out.below hb (g := 0) (by kernel_rfl)
  have HC' : ∀ W', Below w.heap.size w W' → CodeAt W'.heap.size W' a0 len0 := fun W' hb => CodeAt.up HC.out hb
  have KS : Hid _ := HS'
  have KC : Hid _ := HC'
  clear t1 hcode w0 HS' HC'
  by_cases hbig : (1048576 : Int) < (len0 : Int)
  · have hbd : decide ((1048576 : Int) < (len0 : Int)) = true := by simp; omega
    go_enter Tryd.func4, Tryd.ntmps4
    go_wp2_with fail
    refine (big_ _ _ _ _).mono ?_
    rintro e w' ⟨rfl, rfl⟩
    go_wp2_with fail
    go_ret
    exact ⟨rfl, Below.refl _ _⟩
  have hbd : decide ((1048576 : Int) < (len0 : Int)) = false := by simp; omega
  go_enter Tryd.func4, Tryd.ntmps4
  go_wp2_with fail
  refine (big_ _ _ _ _).mono ?_
  rintro e w' ⟨rfl, rfl⟩
  have HB0 : Hid (Below w'.heap.size w' w') := Below.refl _ _
  go_wp2_with fail
  refine (drawWords _ a0 len0 cap0 hlen (KC.out _ HB0.out)).mono ?_
  rintro e W1 ⟨ws, rfl, hws, hb⟩
  have HB1 : Hid (Below w'.heap.size w' W1) := HB0.out.trans (hb.mono HB0.out.size)
  clear hb 
  clear HB0
  go_wp2_with fail
  refine (implWords ws _ (by omega)).mono ?_
  rintro e W2 ⟨v1, rfl, hr1, hb⟩
  have HB2 : Hid (Below w'.heap.size w' W2) := HB1.out.trans (hb.mono HB1.out.size)
  obtain ⟨g1, c1, rfl, hg1, hl1, hs1, _⟩ := own_row hr1 (cut_ne ws 32)
  have HS1 : Hid (StrAt W2 g1 (cut ws 32)) := hs1
  have HW2 : Hid (Below W2.heap.size W2 W2) := Below.refl _ _
  clear hb hr1 hs1
  clear HB1
  go_wp2_with fail
  refine (drawLines _ a0 len0 cap0 hlen (KC.out _ HB2.out)).mono ?_
  rintro e W3 ⟨ls, rfl, hls, hb⟩
  have HB3 : Hid (Below w'.heap.size w' W3) := HB2.out.trans (hb.mono HB2.out.size)
  have HW3 : Hid (Below W2.heap.size W2 W3) := HW2.out.trans (hb.mono HW2.out.size)
  clear hb 
  clear HB2
  clear HW2
  go_wp2_with fail
  refine (implLines ls _ (by omega)).mono ?_
  rintro e W4 ⟨v2, rfl, ⟨g2, c2, rfl, hg2, hl2, hs2, _⟩, hb⟩
  have HB4 : Hid (Below w'.heap.size w' W4) := HB3.out.trans (hb.mono HB3.out.size)
  have HW4 : Hid (Below W2.heap.size W2 W4) := HW3.out.trans (hb.mono HW3.out.size)
  have HS2 : Hid (StrAt W4 g2 (lines ls)) := hs2
  have HN4 : Hid (Below W4.heap.size W4 W4) := Below.refl _ _
  clear hb hs2
  clear HB3
  clear HW3
  go_wp2_with fail
  refine (drawNameOk _ a0 len0 cap0 hlen (KC.out _ HB4.out)).mono ?_
  rintro e W5 ⟨nm, rfl, hnm, hb⟩
  have HB5 : Hid (Below w'.heap.size w' W5) := HB4.out.trans (hb.mono HB4.out.size)
  have HW5 : Hid (Below W2.heap.size W2 W5) := HW4.out.trans (hb.mono HW4.out.size)
  have HN5 : Hid (Below W4.heap.size W4 W5) := HN4.out.trans (hb.mono HN4.out.size)
  clear hb 
  clear HB4
  clear HW4
  clear HN4
  go_wp2_with fail
  refine (drawMonthName _ a0 len0 cap0 hlen (KC.out _ HB5.out)).mono ?_
  rintro e W6 ⟨m, rfl, hb⟩
  have HB6 : Hid (Below w'.heap.size w' W6) := HB5.out.trans (hb.mono HB5.out.size)
  have HW6 : Hid (Below W2.heap.size W2 W6) := HW5.out.trans (hb.mono HW5.out.size)
  have HN6 : Hid (Below W4.heap.size W4 W6) := HN5.out.trans (hb.mono HN5.out.size)
  clear hb 
  clear HB5
  clear HW5
  clear HN5
  go_wp2_with fail
  refine (drawMonthOf _ a0 len0 cap0 hlen (KC.out _ HB6.out)).mono ?_
  rintro e W7 ⟨o, rfl, ho, hb⟩
  have HB7 : Hid (Below w'.heap.size w' W7) := HB6.out.trans (hb.mono HB6.out.size)
  have HW7 : Hid (Below W2.heap.size W2 W7) := HW6.out.trans (hb.mono HW6.out.size)
  have HN7 : Hid (Below W4.heap.size W4 W7) := HN6.out.trans (hb.mono HN6.out.size)
  clear hb 
  clear HB6
  clear HW6
  clear HN6
  go_wp2_with fail
  refine (specWords ws _ (by omega)).mono ?_
  rintro e W8 ⟨v3, rfl, hr3, hb⟩
  have HB8 : Hid (Below w'.heap.size w' W8) := HB7.out.trans (hb.mono HB7.out.size)
  have HW8 : Hid (Below W2.heap.size W2 W8) := HW7.out.trans (hb.mono HW7.out.size)
  have HN8 : Hid (Below W4.heap.size W4 W8) := HN7.out.trans (hb.mono HN7.out.size)
  obtain ⟨g3, c3, rfl, hg3, hl3, hs3, _⟩ := own_row hr3 (cut_ne ws 32)
  have HS3 : Hid (StrAt W8 g3 (cut ws 32)) := hs3
  clear hb hr3 hs3
  clear HB7
  clear HW7
  clear HN7
  have hcl := cut_len ws 32
  have hll := lines_len ls
  go_wp2_with fail
  refine (sameTexts _ _ (cut ws 32) _ (by omega) (HS1.out.below HW8.out hl1).row HS3.out.row).mono ?_
  rintro e W9 ⟨rfl, hb⟩
  have HB9 : Hid (Below w'.heap.size w' W9) := HB8.out.trans (hb.mono HB8.out.size)
  have HW9 : Hid (Below W2.heap.size W2 W9) := HW8.out.trans (hb.mono HW8.out.size)
  have HN9 : Hid (Below W4.heap.size W4 W9) := HN8.out.trans (hb.mono HN8.out.size)
  clear hb 
  clear HB8
  clear HW8
  clear HN8
  go_wp2_with fail
  refine (specLines ls _ (by omega)).mono ?_
  rintro e W10 ⟨v4, rfl, ⟨g4, c4, rfl, hg4, hl4, hs4, _⟩, hb⟩
  have HB10 : Hid (Below w'.heap.size w' W10) := HB9.out.trans (hb.mono HB9.out.size)
  have HW10 : Hid (Below W2.heap.size W2 W10) := HW9.out.trans (hb.mono HW9.out.size)
  have HN10 : Hid (Below W4.heap.size W4 W10) := HN9.out.trans (hb.mono HN9.out.size)
  have HS4 : Hid (StrAt W10 g4 (lines ls)) := hs4
  clear hb hs4
  clear HB9
  clear HW9
  clear HN9
  go_wp2_with fail
  refine (sameTexts _ _ (lines ls) _ (by omega) (HS2.out.below HN10.out hl2).row HS4.out.row).mono ?_
  rintro e W11 ⟨rfl, hb⟩
  have HB11 : Hid (Below w'.heap.size w' W11) := HB10.out.trans (hb.mono HB10.out.size)
  have HW11 : Hid (Below W2.heap.size W2 W11) := HW10.out.trans (hb.mono HW10.out.size)
  have HN11 : Hid (Below W4.heap.size W4 W11) := HN10.out.trans (hb.mono HN10.out.size)
  clear hb 
  clear HB10
  clear HW10
  clear HN10
  go_wp2_with fail
  refine (implNameOk nm _ (Nat.le_trans hnm (by unfold maxLen; omega))).mono ?_
  rintro e w'' ⟨rfl, rfl⟩
  go_wp2_with fail
  refine (specNameOk nm _ (Nat.le_trans hnm (by unfold maxLen; omega))).mono ?_
  rintro e w'' ⟨rfl, rfl⟩
  go_wp2_with fail
  refine (implMonthName m _ (KS.out _ HB11.out)).mono ?_
  rintro e w'' ⟨rfl, rfl⟩
  go_wp2_with fail
  refine (specMonthName m _).mono ?_
  rintro e W12 ⟨rfl, hb⟩
  have HB12 : Hid (Below w'.heap.size w' W12) := HB11.out.trans (hb.mono HB11.out.size)
  have HW12 : Hid (Below W2.heap.size W2 W12) := HW11.out.trans (hb.mono HW11.out.size)
  have HN12 : Hid (Below W4.heap.size W4 W12) := HN11.out.trans (hb.mono HN11.out.size)
  clear hb 
  clear HB11
  clear HW11
  clear HN11
  go_wp2_with fail
  refine (implMonthOf o _ (KS.out _ HB12.out)).mono ?_
  rintro e w'' ⟨rfl, rfl⟩
  go_wp2_with fail
  refine (specMonthOf o _).mono ?_
  rintro e W13 ⟨rfl, hb⟩
  have HB13 : Hid (Below w'.heap.size w' W13) := HB12.out.trans (hb.mono HB12.out.size)
  have HW13 : Hid (Below W2.heap.size W2 W13) := HW12.out.trans (hb.mono HW12.out.size)
  have HN13 : Hid (Below W4.heap.size W4 W13) := HN12.out.trans (hb.mono HN12.out.size)
  clear hb 
  clear HB12
  clear HW12
  clear HN12
  have HX1 : Hid (StrAt W13 g1 (cut ws 32)) := HS1.out.below HW13.out hl1
  have HX2 : Hid (StrAt W13 g2 (lines ls)) := HS2.out.below HN13.out hl2
  have HJ : Hid (join 32 (cut ws 32) = ws.data.toList) := join_cut ws 32
  have HE : Hid (ended (lines ls) = ls.data.toList ∨ ended (lines ls) = ls.data.toList ++ [10]) := ended_lines ls
  clear HS1 HS2 HS3 HS4 HW13 HN13
  generalize hxs : cut ws 32 = xs at *
  generalize hys : lines ls = ys at *
  clear hxs hys
  have hj := congrArg List.length HJ.out
  have hel : (ended ys).length ≤ 101 := by
    rcases HE.out with h | h
    · have := congrArg List.length h; have hq := size_list ls; omega
    · have := congrArg List.length h; rw [List.length_append] at this; have hq := size_list ls; simp at this; omega
  have hjl : (join 32 xs).length ≤ 100 := by have hq := size_list ws; omega
  clear hj
  have KJL : Hid ((join 32 xs).length ≤ 100) := hjl
  have KEL : Hid ((ended ys).length ≤ 101) := hel
  clear hjl hel
  go_wp2_with fail
  go_loop [10, 11] (fun o i => ∃ (k : Nat) (A : ByteArray), k ≤ xs.length ∧ i = .int .i64 (k : Int) ∧ o = .string A ∧ Hid (A.data.toList = join 32 (xs.take k))) (fun _ i => xs.length - (intOf i).toNat)
  case atStart => exact ⟨0, ⟨#[]⟩, Nat.zero_le _, rfl, rfl, by unfold Hid; simp [join]⟩
  case round =>
    obtain ⟨k, A, hk, rfl, rfl, HA⟩ := hrel
    have hA : A.size ≤ 100 := by
      rw [size_list, HA.out]
      exact Nat.le_trans (join_le 32 xs k hk) KJL.out
    by_cases hlt : k < xs.length
    · have hx := HX1.out k hlt
      have HT := get_take xs k hlt
      have hxl : (xs.getD k ⟨#[]⟩).size ≤ 100 := by
        have h1 := join_le 32 xs (k + 1) hlt
        rw [HT] at h1
        have h2 := KJL.out
        by_cases h0 : xs.take k = []
        · rw [h0] at h1
          have h3 : (join 32 ([] ++ [xs.getD k ⟨#[]⟩])).length = (xs.getD k ⟨#[]⟩).size := rfl
          omega
        · rw [join_snoc 32 _ _ h0, List.length_append, List.length_cons] at h1
          have h3 := size_list (xs.getD k ⟨#[]⟩)
          omega
      have KT : Hid (xs.take (k + 1) = xs.take k ++ [xs.getD k ⟨#[]⟩]) := HT
      clear HT
      generalize xs.getD k ⟨#[]⟩ = x at *
      by_cases hk0 : (0 : Int) < (k : Int)
      · go_wp2
        refine ⟨⟨k + 1, A ++ ⟨#[32]⟩ ++ x, by omega, by go_num, rfl, ?_⟩, by simp [intOf]; omega⟩
        unfold Hid
        rw [KT.out, join_snoc 32 _ _ (by intro e; have he := congrArg List.length e; rw [List.length_take, List.length_nil] at he; omega), ← HA.out]
        simp [ByteArray.data_append]
      · have hkz : k = 0 := by omega
        subst hkz
        go_wp2
        refine ⟨⟨1, A ++ x, by omega, by go_num, rfl, ?_⟩, by simp [intOf]; omega⟩
        unfold Hid
        have ha : A.data.toList = [] := by rw [HA.out]; rfl
        rw [show (1 : Nat) = 0 + 1 from rfl, KT.out]
        simp [ByteArray.data_append, ha, join]
    · have hkn : k = xs.length := by omega
      have hq1 : (A.toList == ws.toList) = true := by
        rw [ByteArray.toList_eq, ByteArray.toList_eq, beq_iff_eq, HA.out, hkn, List.take_length, HJ.out]
      clear hkn
      go_wp2_with fail
      go_loop [12, 13] (fun o i => ∃ (k : Nat) (T : ByteArray), k ≤ ys.length ∧ i = .int .i64 (k : Int) ∧ o = .string T ∧ Hid (T.data.toList = ended (ys.take k))) (fun _ i => ys.length - (intOf i).toNat)
      case atStart => exact ⟨0, ⟨#[]⟩, Nat.zero_le _, rfl, rfl, by unfold Hid; simp [ended]⟩
      case round =>
        obtain ⟨k2, T, hk2, rfl, rfl, HTt⟩ := hrel
        have hT : T.size ≤ 101 := by
          rw [size_list, HTt.out]
          exact Nat.le_trans (ended_le ys k2 hk2) KEL.out
        by_cases hlt2 : k2 < ys.length
        · have hx := HX2.out k2 hlt2
          have HT := get_take ys k2 hlt2
          have hxl : (ys.getD k2 ⟨#[]⟩).size ≤ 101 := by
            have h1 := ended_le ys (k2 + 1) hlt2
            rw [HT, ended_snoc, List.length_append, List.length_append] at h1
            have h2 := KEL.out
            have h3 := size_list (ys.getD k2 ⟨#[]⟩)
            omega
          have KT : Hid (ys.take (k2 + 1) = ys.take k2 ++ [ys.getD k2 ⟨#[]⟩]) := HT
          clear HT
          generalize ys.getD k2 ⟨#[]⟩ = x at *
          go_wp2
          refine ⟨⟨k2 + 1, T ++ x ++ ⟨#[10]⟩, by omega, by go_num, rfl, ?_⟩, by simp [intOf]; omega⟩
          unfold Hid
          rw [KT.out, ended_snoc, ← HTt.out]
          simp [ByteArray.data_append]
        · have hkn2 : k2 = ys.length := by omega
          have hTe : T.data.toList = ended ys := by rw [HTt.out, hkn2, List.take_length]
          have hr := HE.out
          clear hkn2
          rcases hr with hr | hr
          · have hq2 : (T.toList == ls.toList) = true := by rw [ByteArray.toList_eq, ByteArray.toList_eq, beq_iff_eq, hTe, hr]
            clear hr hTe
            by_cases hm : 1 ≤ m ∧ m ≤ 12
            · obtain ⟨m1, m2⟩ := hm
              have he := month_some m m1 m2
              have hb := month_back m m1 m2
              go_wp2_with (first | (go_at_call 36; refine (implMonthName m _ (KS.out _ HB13.out)).mono ?_; rintro e w'' ⟨rfl, rfl⟩) | (go_at_call 38; refine (implMonthOf (monthText m) _ (KS.out _ HB13.out)).mono ?_; rintro e w'' ⟨rfl, rfl⟩))
              go_ret
              exact ⟨rfl, HB13.out⟩
            · have he := month_none m (by omega)
              go_wp2_with (first | (go_at_call 36; refine (implMonthName m _ (KS.out _ HB13.out)).mono ?_; rintro e w'' ⟨rfl, rfl⟩) | (go_at_call 38; refine (implMonthOf (monthText m) _ (KS.out _ HB13.out)).mono ?_; rintro e w'' ⟨rfl, rfl⟩))
              go_ret
              exact ⟨rfl, HB13.out⟩
          · have hq2 : (T.toList == ls.toList) = false := by
              rw [ByteArray.toList_eq, ByteArray.toList_eq, beq_eq_false_iff_ne, hTe, hr]
              intro e
              have he := congrArg List.length e
              rw [List.length_append] at he
              simp at he
            have hq3 : (T.toList == (ls ++ ⟨#[10]⟩).toList) = true := by
              rw [ByteArray.toList_eq, ByteArray.toList_eq, beq_iff_eq, hTe, hr]
              simp [ByteArray.data_append]
            clear hr hTe
            by_cases hm : 1 ≤ m ∧ m ≤ 12
            · obtain ⟨m1, m2⟩ := hm
              have he := month_some m m1 m2
              have hb := month_back m m1 m2
              go_wp2_with (first | (go_at_call 36; refine (implMonthName m _ (KS.out _ HB13.out)).mono ?_; rintro e w'' ⟨rfl, rfl⟩) | (go_at_call 38; refine (implMonthOf (monthText m) _ (KS.out _ HB13.out)).mono ?_; rintro e w'' ⟨rfl, rfl⟩))
              go_ret
              exact ⟨rfl, HB13.out⟩
            · have he := month_none m (by omega)
              go_wp2_with (first | (go_at_call 36; refine (implMonthName m _ (KS.out _ HB13.out)).mono ?_; rintro e w'' ⟨rfl, rfl⟩) | (go_at_call 38; refine (implMonthOf (monthText m) _ (KS.out _ HB13.out)).mono ?_; rintro e w'' ⟨rfl, rfl⟩))
              go_ret
              exact ⟨rfl, HB13.out⟩
end Go.Proofs.YtljlgnadomebcacDoor.ctr
