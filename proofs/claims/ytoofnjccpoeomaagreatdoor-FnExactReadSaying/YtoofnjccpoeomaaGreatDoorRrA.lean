/- Contracts of the program's signValue and GetRoman: GetRoman answers the plain function getRoman at every text of at most 1048576 bytes, where the program's table of shapes holds its texts; nothing that was there turns. Contracts of the program's countOf and markOf, and of strings.CutPrefix at one prefix: each answers its plain function. -/
import Derived.Test.YtoofnjccpoeomaaGreatDoorGetCtr
import Derived.Test.YtoofnjccpoeomaaGreatDoorRomanPut
import Derived.Test.YtoofnjccpoeomaaGreatDoorRomTextI
import Derived.Test.YtoofnjccpoeomaaGreatDoorShelf
namespace Go.Proofs.YtoofnjccpoeomaaGreatDoor.ctr
open Go.RowKit

set_option maxHeartbeats 1000000 in
theorem signValue (x : Int) (w : World) : Calls Tryz.prog 120 #[.int .u8 x] w fun e w' => e = .returned (.int .i64 (worth x)) ∧ w' = w := by
  by_cases c1 : x = 73
  · subst c1; go_enter Tryz.func120, Tryz.ntmps120; go_wp2; go_ret; exact ⟨rfl, rfl⟩
  by_cases c2 : x = 86
  · subst c2; go_enter Tryz.func120, Tryz.ntmps120; go_wp2; go_ret; exact ⟨rfl, rfl⟩
  by_cases c3 : x = 88
  · subst c3; go_enter Tryz.func120, Tryz.ntmps120; go_wp2; go_ret; exact ⟨rfl, rfl⟩
  by_cases c4 : x = 76
  · subst c4; go_enter Tryz.func120, Tryz.ntmps120; go_wp2; go_ret; exact ⟨rfl, rfl⟩
  by_cases c5 : x = 67
  · subst c5; go_enter Tryz.func120, Tryz.ntmps120; go_wp2; go_ret; exact ⟨rfl, rfl⟩
  by_cases c6 : x = 68
  · subst c6; go_enter Tryz.func120, Tryz.ntmps120; go_wp2; go_ret; exact ⟨rfl, rfl⟩
  by_cases c7 : x = 77
  · subst c7; go_enter Tryz.func120, Tryz.ntmps120; go_wp2; go_ret; exact ⟨rfl, rfl⟩
  have HW : Hid (worth x = 0) := by unfold Hid worth; simp [c1, c2, c3, c4, c5, c6, c7]
  go_enter Tryz.func120, Tryz.ntmps120
  go_wp2
  go_ret
  exact ⟨ret_int HW.out.symm, rfl⟩

set_option maxHeartbeats 1000000 in
theorem implGetRoman (s : ByteArray) (w : World) (hs : s.size ≤ 1048576) (hT : kit.StrIs Tryz.prog w "loop.example/g00638/impl.digitShapes" shapes) :
    Calls Tryz.prog 98 #[.string s] w fun e w' => e = .returned (.int .i64 (getRoman s)) ∧ Below w.heap.size w w' := by
  have HTab : Hid (kit.StrIs Tryz.prog w "loop.example/g00638/impl.digitShapes" shapes) := hT
  clear hT
  go_enter Tryz.func98, Tryz.ntmps98
  go_wp2
  go_loop [3, 8] (fun n i => ∃ (k : Nat) (v : Int), k ≤ s.size ∧ i = .int .i64 k ∧ n = .int .i64 v ∧ -1048576000 ≤ v ∧ v ≤ 1048576000 ∧ Hid (v = sumR s k)) (fun _ i => s.size - (intOf i).toNat)
  case atStart => exact ⟨0, 0, Nat.zero_le _, rfl, rfl, by omega, by omega, rfl⟩
  case round =>
    obtain ⟨k, v, hk, rfl, rfl, v0, v1, HV⟩ := hrel
    by_cases hlt : k < s.size
    · have hx := byteAt_eq s k hlt
      obtain ⟨u0, u1⟩ := worth_bd (byteAt s k)
      have hsb := sum_bd s (k + 1)
      obtain ⟨sb0, sb1⟩ : -1048576000 ≤ sumR s (k + 1) ∧ sumR s (k + 1) ≤ 1048576000 := by omega
      clear hsb
      have HS : Hid (sumR s (k + 1) = v + stepAt s k) := by unfold Hid; rw [HV.out]; rfl
      by_cases hn : k + 1 < s.size
      · have hx2 := byteAt_eq s (k + 1) hn
        obtain ⟨y0, y1⟩ := worth_bd (byteAt s (k + 1))
        by_cases hg : worth (byteAt s k) < worth (byteAt s (k + 1))
        · have HT : Hid (stepAt s k = -worth (byteAt s k)) := by unfold Hid stepAt; rw [if_pos ⟨hn, hg⟩]
          go_wp2_with (go_at_call 120; refine (signValue _ _).mono ?_; rintro e w' ⟨rfl, rfl⟩)
          exact ⟨⟨k + 1, sumR s (k + 1), by omega, by go_num, by rw [HS.out, HT.out], sb0, sb1, rfl⟩, by simp [intOf]; omega⟩
        · have HT : Hid (stepAt s k = worth (byteAt s k)) := by unfold Hid stepAt; rw [if_neg (by omega)]
          go_wp2_with (go_at_call 120; refine (signValue _ _).mono ?_; rintro e w' ⟨rfl, rfl⟩)
          exact ⟨⟨k + 1, sumR s (k + 1), by omega, by go_num, by rw [HS.out, HT.out], sb0, sb1, rfl⟩, by simp [intOf]; omega⟩
      · have HT : Hid (stepAt s k = worth (byteAt s k)) := by unfold Hid stepAt; rw [if_neg (by omega)]
        go_wp2_with (go_at_call 120; refine (signValue _ _).mono ?_; rintro e w' ⟨rfl, rfl⟩)
        exact ⟨⟨k + 1, sumR s (k + 1), by omega, by go_num, by rw [HS.out, HT.out], sb0, sb1, rfl⟩, by simp [intOf]; omega⟩
    · have hks : k = s.size := by omega
      cases hq : ((putRoman v).toList == s.toList)
      · have HB : Hid (getRoman s = 0) := get_zero s (by rw [← hks, ← HV.out]; exact str_ne hq)
        clear hks
        go_wp2_with (go_at_call 92; refine (implPutRoman _ _ HTab.out).mono ?_; rintro e w' ⟨rfl, hb⟩)
        go_ret
        exact ⟨ret_int HB.out.symm, hb⟩
      · have HB : Hid (getRoman s = v) := by unfold Hid; rw [HV.out, hks]; exact get_sum s (by rw [← hks, ← HV.out]; exact str_eq hq)
        clear hks
        go_wp2_with (go_at_call 92; refine (implPutRoman _ _ HTab.out).mono ?_; rintro e w' ⟨rfl, hb⟩)
        go_ret
        exact ⟨ret_int HB.out.symm, hb⟩
end Go.Proofs.YtoofnjccpoeomaaGreatDoor.ctr

namespace Go.Proofs.YtoofnjccpoeomaaGreatDoor.ctr
open Go.RowKit

theorem lit_yes {a : ByteArray} {l : List UInt8} (h : a = ⟨l.toArray⟩) : (a.toList == l) = true := by rw [h, ByteArray.toList_eq]; simp
theorem lit_no {a : ByteArray} {l : List UInt8} (h : a ≠ ⟨l.toArray⟩) : (a.toList == l) = false := by
  rw [beq_eq_false_iff_ne]
  intro e
  apply h
  apply WideShapes.bytes_inj
  rw [← e, ByteArray.toList_eq]
theorem ret_pair {a b : ByteArray} {c d : Bool} (h : a = b) (h' : c = d) : Ending.returned (.tuple #[.string a, .bool c]) = .returned (.tuple #[.string b, .bool d]) := by rw [h, h']

set_option maxHeartbeats 1000000 in
theorem implCountOf (a : ByteArray) (w : World) (hs : a.size ≤ 1048576) (hT : Shp w) : Calls Tryz.prog 81 #[.string a] w fun e w' => e = .returned (.int .i64 (countOf a)) ∧ Below w.heap.size w w' := by
  by_cases hp : a = pridB
  · have g := lit_yes (l := [112, 114, 105, 100]) hp
    rw [show countOf a = 2 from by unfold countOf; rw [if_pos hp]]
    clear hT hp
    go_enter Tryz.func81, Tryz.ntmps81
    go_wp2
    go_ret
    exact ⟨rfl, Below.refl _ _⟩
  · have g := lit_no (l := [112, 114, 105, 100]) hp
    rw [show countOf a = getRoman a from by unfold countOf; rw [if_neg hp]]
    have KG := implGetRoman a w hs hT
    generalize getRoman a = v at *
    clear hT hp
    go_enter Tryz.func81, Tryz.ntmps81
    go_wp2_with fail
    refine KG.mono ?_
    rintro e w1 ⟨rfl, hb⟩
    have HB := hideP hb
    clear hb
    go_wp2
    go_ret
    exact ⟨rfl, HB.out⟩

def mrkB (k : Nat) : ByteArray := ⟨(marks3.getD k []).toArray⟩
def mrkVals : Array Value := (marks3.map fun s => Value.string ⟨s.toArray⟩).toArray
set_option maxRecDepth 100000 in
theorem mrk_index (k : Nat) (h : k < 3) (w : World) : (Instr.index 105 (.agg mrkVals) (.int .i64 (k : Int))).run Tryz.prog w = .ok (.string (mrkB k)) w := by
  have : k = 0 ∨ k = 1 ∨ k = 2 := by omega
  rcases this with rfl | rfl | rfl <;> rfl
theorem mrk_size : (Tryz.prog.info? 105).map (·.size) = some mrkVals.size := by kernel_rfl
theorem markI_hit {b : ByteArray} {k : Nat} (hk : k < 3) (h : mrkB k = b) : markI b = k := by
  have : k = 0 ∨ k = 1 ∨ k = 2 := by omega
  subst h
  rcases this with rfl | rfl | rfl <;> decide
theorem markI_miss {b : ByteArray} (h : ∀ j, j < 3 → mrkB j ≠ b) : markI b = -1 := by
  unfold markI
  rw [if_neg (fun e => h 0 (by omega) e.symm), if_neg (fun e => h 1 (by omega) e.symm), if_neg (fun e => h 2 (by omega) e.symm)]
set_option maxHeartbeats 400000 in
theorem implMarkOf (s : ByteArray) (w : World) (hT : Mrk w) : Calls Tryz.prog 82 #[.string s] w fun e w' => e = .returned (.int .i64 (markI s)) ∧ w' = w := by
  obtain ⟨tt, fr, hh⟩ := hT.heap (g := 1) (by kernel_rfl)
  have HG : Hid (w.heap[1]? = some (.cells mrkVals tt fr)) := hh
  clear hT hh
  go_enter Tryz.func82, Tryz.ntmps82
  go_wp2_with (refine wpList_load_row rfl 105 _ rfl 1 rfl tt mrkVals fr _ HG.out Tryz.underlying105 rfl mrk_size ?_)
  go_loop [6] (fun i => ∃ k : Nat, k ≤ 3 ∧ i = .int .i64 (k : Int) ∧ (∀ j, j < k → mrkB j ≠ s)) (fun i => 3 - (intOf i).toNat)
  case atStart => exact ⟨0, by omega, rfl, by omega⟩
  case round =>
    obtain ⟨k, hk, rfl, hn⟩ := hrel
    have HN : Hid (∀ j, j < k → mrkB j ≠ s) := hn
    clear hn
    by_cases hlt : k < 3
    · have hi := mrk_index k hlt
      cases hq : ((mrkB k).toList == s.toList)
      · have HN' : Hid (∀ j, j < k + 1 → mrkB j ≠ s) := by
          intro j hj
          by_cases e : j = k
          · subst e
            exact str_ne hq
          · exact HN.out j (by omega)
        go_wp2
        exact ⟨⟨k + 1, by omega, by go_num, HN'.out⟩, by simp [intOf]; omega⟩
      · have HF : Hid (markI s = (k : Int)) := markI_hit hlt (str_eq hq)
        go_wp2
        go_ret
        exact ⟨ret_int HF.out.symm, rfl⟩
    · have HF : Hid (markI s = -1) := markI_miss (fun j hj => HN.out j (by omega))
      go_wp2
      go_ret
      exact ⟨ret_int HF.out.symm, rfl⟩

def bis4 : ByteArray := ⟨#[98, 105, 115, 32]⟩
theorem bis_has (s : ByteArray) : Lib.hasPrefix s.data.toList bis4.data.toList = bisP s := by
  unfold bisP Lib.hasPrefix
  apply Bool.eq_iff_iff.2
  rw [List.isPrefixOf_iff_prefix, List.prefix_iff_eq_take, beq_iff_eq]
  exact eq_comm
theorem bis_long {s : ByteArray} (h : bisP s = true) : 4 ≤ s.size := by
  unfold bisP at h
  have h' := congrArg List.length (eq_of_beq h)
  rw [List.length_take] at h'
  have : s.data.toList.length = s.size := rfl
  simp at h'
  omega
set_option maxHeartbeats 1000000 in
theorem liteCutBis (s : ByteArray) (w : World) (hs : s.size ≤ 1048576) : Calls Tryz.prog 96 #[.string s, .string ⟨#[98, 105, 115, 32]⟩] w fun e w' => e = .returned (.tuple #[.string (restOf s), .bool (bisP s)]) ∧ w' = w := by
  have KH : ∀ W, Calls Tryz.prog 117 #[.string s, .string ⟨#[98, 105, 115, 32]⟩] W fun e w' => e = .returned (.bool (bisP s)) ∧ w' = W := fun W => by rw [← bis_has]; exact Tryz.stringslite_HasPrefix s bis4 W
  cases h : bisP s
  · have HR : Hid (restOf s = s) := by unfold Hid restOf; rw [h]; rfl
    rw [h] at KH
    clear h
    go_enter Tryz.func96, Tryz.ntmps96
    go_wp2_with fail
    refine (KH _).mono ?_
    rintro e w1 ⟨rfl, rfl⟩
    go_wp2
    go_ret2
    exact ⟨ret_pair HR.out.symm rfl, rfl⟩
  · have HR : Hid (restOf s = s.extract 4 s.size) := by unfold Hid restOf; rw [if_pos h]
    have h4 := bis_long h
    rw [h] at KH
    clear h
    go_enter Tryz.func96, Tryz.ntmps96
    go_wp2_with fail
    refine (KH _).mono ?_
    rintro e w1 ⟨rfl, rfl⟩
    go_wp2
    go_ret2
    exact ⟨ret_pair HR.out.symm rfl, rfl⟩
theorem implCutBis (s : ByteArray) (w : World) (hs : s.size ≤ 1048576) : Calls Tryz.prog 79 #[.string s, .string ⟨#[98, 105, 115, 32]⟩] w fun e w' => e = .returned (.tuple #[.string (restOf s), .bool (bisP s)]) ∧ w' = w := by
  have K := fun W => liteCutBis s W hs
  generalize restOf s = a at *
  generalize bisP s = b at *
  go_enter Tryz.func79, Tryz.ntmps79
  go_wp2_with fail
  refine (K _).mono ?_
  rintro e w1 ⟨rfl, rfl⟩
  go_wp2
  go_ret2
  exact ⟨rfl, rfl⟩
end Go.Proofs.YtoofnjccpoeomaaGreatDoor.ctr
