/- Contracts of both WhenOk: the same plain function. The model's WhenOk. What a saying is; contracts of both SayingOk: the same plain function. Contract of the model's DecText: at every int it answers the decimal numeral (the library's plain function Lib.itoa); nothing is written. Contract of the program's DecText: at every int it answers the decimal numeral (Lib.itoa), where the library's table of powers of ten holds its numbers; nothing that was there turns. Contracts of both WhenText: the same plain function. Contracts of both WhenText: the same plain function. Contracts of both SayingText: the same plain function. -/
import Derived.Test.YtoofnjccpoeomaaGreatDoorWkA
import Derived.Deep.DeepCutAuto
import Derived.Deep.CutBlock
import Derived.Test.YtoofnjccpoeomaaGreatDoorSolImpl
import Derived.Test.YtoofnjccpoeomaaGreatDoorBase
import Derived.Lib.ItoaNum
import Derived.Test.YtoofnjccpoeomaaGreatDoorShelf
import Derived.Test.YtoofnjccpoeomaaGreatDoorVarsKit
import Derived.Test.YtoofnjccpoeomaaGreatDoorRomTextI
import Derived.Test.YtoofnjccpoeomaaGreatDoorRomTextS
import Derived.Lib.ItoaLen
namespace Go.Proofs.YtoofnjccpoeomaaGreatDoor.ctr
open Go.RowKit

theorem toList_nil {f : ByteArray} (h : f.toList = []) : f = ⟨#[]⟩ := by
  rw [ByteArray.toList_eq] at h
  cases f with | mk d => cases d with | mk l => simp at h; rw [h]
def whnB (s : Whn) : Bool :=
  if s.kind = 0 then decide (s.rom.count = 0 ∧ s.rom.mark = 0 ∧ s.rom.month = 0 ∧ s.rom.twice = false ∧ s.feast.toList = [] ∧ s.plus = 0) && decide (1 ≤ s.mon ∧ s.mon ≤ 12 ∧ 1 ≤ s.day ∧ s.day ≤ 31)
  else if s.kind = 1 then decide (s.mon = 0 ∧ s.day = 0 ∧ s.feast.toList = [] ∧ s.plus = 0) && romB s.rom
  else if s.kind = 2 then decide (s.mon = 0 ∧ s.day = 0 ∧ s.rom.count = 0 ∧ s.rom.mark = 0 ∧ s.rom.month = 0 ∧ s.rom.twice = false) && (decide (0 ≤ findFeast s.feast) && (decide (0 ≤ s.plus) && decide (s.plus ≤ 99)))
  else false

set_option maxHeartbeats 2000000 in
theorem okDay (m d : Int) (w : World)  : Calls Tryz.prog 22 #[.agg #[.int .i64 0, .int .i64 m, .int .i64 d, .int .i64 0, .int .i64 0, .int .i64 0, .bool false, .string ⟨#[]⟩, .int .i64 0]] w fun e w' => e = .returned (.bool (decide (1 ≤ m ∧ m ≤ 12 ∧ 1 ≤ d ∧ d ≤ 31))) ∧ Below w.heap.size w w' := by
  have KK : ∀ W, Calls Tryz.prog 24 #[.agg #[.int .i64 0, .int .i64 m, .int .i64 d, .int .i64 0, .int .i64 0, .int .i64 0, .bool false, .string ⟨#[]⟩, .int .i64 0]] W fun e w' => e = .returned (.iface 72 (.agg #[.int .i64 m, .int .i64 d])) ∧ Below W.heap.size W w' := fun W => kindDay m d W
  have KR : ∀ W, Below w.heap.size w W → Calls Tryz.prog 166 #[.agg #[.int .i64 m, .int .i64 d]] W fun e w' => e = .returned (.bool (decide (1 ≤ m ∧ m ≤ 12 ∧ 1 ≤ d ∧ d ≤ 31))) ∧ Below W.heap.size W w' := fun W _ => implDayRight m d W
  generalize decide (1 ≤ m ∧ m ≤ 12 ∧ 1 ≤ d ∧ d ≤ 31) = B at *
  go_enter Tryz.func22, Tryz.ntmps22
  go_wp2_with fail
  refine (KK _).mono ?_
  rintro e w1 ⟨rfl, hb⟩
  have B0 : Below w.heap.size w (w.alloc (.cells #[.int .i64 0, .int .i64 m, .int .i64 d, .int .i64 0, .int .i64 0, .int .i64 0, .bool false, .string ⟨#[]⟩, .int .i64 0] 30)) := (Below.refl _ _).alloc (Nat.le_refl _) _
  have B1 : Below w.heap.size w w1 := B0.trans (hb.mono B0.size)
  clear hb B0
  go_wp2_with fail
  refine (KR _ B1).mono ?_
  rintro e w2 ⟨rfl, hb⟩
  have B2 : Below w.heap.size w w2 := B1.trans (hb.mono B1.size)
  clear hb
  go_wp2
  go_ret
  exact ⟨rfl, B2⟩

set_option maxHeartbeats 2000000 in
theorem okRom (a b c : Int) (t : Bool) (w : World) (hT : Tab w) : Calls Tryz.prog 22 #[.agg #[.int .i64 1, .int .i64 0, .int .i64 0, .int .i64 a, .int .i64 b, .int .i64 c, .bool t, .string ⟨#[]⟩, .int .i64 0]] w fun e w' => e = .returned (.bool (romB ⟨a, b, c, t⟩)) ∧ Below w.heap.size w w' := by
  have KK : ∀ W, Calls Tryz.prog 24 #[.agg #[.int .i64 1, .int .i64 0, .int .i64 0, .int .i64 a, .int .i64 b, .int .i64 c, .bool t, .string ⟨#[]⟩, .int .i64 0]] W fun e w' => e = .returned (.iface 75 (.agg #[.int .i64 a, .int .i64 b, .int .i64 c, .bool t])) ∧ Below W.heap.size W w' := fun W => kindRom a b c t W
  have KR : ∀ W, Below w.heap.size w W → Calls Tryz.prog 168 #[.agg #[.int .i64 a, .int .i64 b, .int .i64 c, .bool t]] W fun e w' => e = .returned (.bool (romB ⟨a, b, c, t⟩)) ∧ Below W.heap.size W w' := fun W hb => implRomRight a b c t W (hT.later hb)
  generalize romB ⟨a, b, c, t⟩ = B at *
  clear hT
  go_enter Tryz.func22, Tryz.ntmps22
  go_wp2_with fail
  refine (KK _).mono ?_
  rintro e w1 ⟨rfl, hb⟩
  have B0 : Below w.heap.size w (w.alloc (.cells #[.int .i64 1, .int .i64 0, .int .i64 0, .int .i64 a, .int .i64 b, .int .i64 c, .bool t, .string ⟨#[]⟩, .int .i64 0] 30)) := (Below.refl _ _).alloc (Nat.le_refl _) _
  have B1 : Below w.heap.size w w1 := B0.trans (hb.mono B0.size)
  clear hb B0
  go_wp2_with fail
  refine (KR _ B1).mono ?_
  rintro e w2 ⟨rfl, hb⟩
  have B2 : Below w.heap.size w w2 := B1.trans (hb.mono B1.size)
  clear hb
  go_wp2
  go_ret
  exact ⟨rfl, B2⟩

set_option maxHeartbeats 2000000 in
theorem okFea (f : ByteArray) (p : Int) (w : World) (hT : Tab w) : Calls Tryz.prog 22 #[.agg #[.int .i64 2, .int .i64 0, .int .i64 0, .int .i64 0, .int .i64 0, .int .i64 0, .bool false, .string f, .int .i64 p]] w fun e w' => e = .returned (.bool (decide (0 ≤ findFeast f) && (decide (0 ≤ p) && decide (p ≤ 99)))) ∧ Below w.heap.size w w' := by
  have KK : ∀ W, Calls Tryz.prog 24 #[.agg #[.int .i64 2, .int .i64 0, .int .i64 0, .int .i64 0, .int .i64 0, .int .i64 0, .bool false, .string f, .int .i64 p]] W fun e w' => e = .returned (.iface 80 (.agg #[.string (feaOf f).name, .bool (feaOf f).mv, .int .i64 (feaOf f).off, .int .i64 (feaOf f).m, .int .i64 (feaOf f).d, .int .i64 p])) ∧ Below W.heap.size W w' := fun W => kindFea f p W
  have KR : ∀ W, Below w.heap.size w W → Calls Tryz.prog 172 #[.agg #[.string (feaOf f).name, .bool (feaOf f).mv, .int .i64 (feaOf f).off, .int .i64 (feaOf f).m, .int .i64 (feaOf f).d, .int .i64 p]] W fun e w' => e = .returned (.bool (decide (0 ≤ findFeast f) && (decide (0 ≤ p) && decide (p ≤ 99)))) ∧ Below W.heap.size W w' := fun W hb => by rw [← feaOf_ok]; exact implFeaRight _ _ _ _ _ p W (Nat.le_trans (feaOf_len f) (by decide)) (hT.later hb)
  generalize (decide (0 ≤ findFeast f) && (decide (0 ≤ p) && decide (p ≤ 99))) = B at *
  generalize feaOf f = g at *
  clear hT
  go_enter Tryz.func22, Tryz.ntmps22
  go_wp2_with fail
  refine (KK _).mono ?_
  rintro e w1 ⟨rfl, hb⟩
  have B0 : Below w.heap.size w (w.alloc (.cells #[.int .i64 2, .int .i64 0, .int .i64 0, .int .i64 0, .int .i64 0, .int .i64 0, .bool false, .string f, .int .i64 p] 30)) := (Below.refl _ _).alloc (Nat.le_refl _) _
  have B1 : Below w.heap.size w w1 := B0.trans (hb.mono B0.size)
  clear hb B0
  go_wp2_with fail
  refine (KR _ B1).mono ?_
  rintro e w2 ⟨rfl, hb⟩
  have B2 : Below w.heap.size w w2 := B1.trans (hb.mono B1.size)
  clear hb
  go_wp2
  go_ret
  exact ⟨rfl, B2⟩

set_option maxHeartbeats 2000000 in
theorem okNo (k m d a b c : Int) (t : Bool) (f : ByteArray) (p : Int) (w : World) (h0 : k ≠ 0) (h1 : k ≠ 1) (h2 : k ≠ 2) : Calls Tryz.prog 22 #[.agg #[.int .i64 k, .int .i64 m, .int .i64 d, .int .i64 a, .int .i64 b, .int .i64 c, .bool t, .string f, .int .i64 p]] w fun e w' => e = .returned (.bool (false)) ∧ Below w.heap.size w w' := by
  have KK : ∀ W, Calls Tryz.prog 24 #[.agg #[.int .i64 k, .int .i64 m, .int .i64 d, .int .i64 a, .int .i64 b, .int .i64 c, .bool t, .string f, .int .i64 p]] W fun e w' => e = .returned (.nilIface) ∧ Below W.heap.size W w' := fun W => kindNo k m d a b c t f p W h0 h1 h2
  go_enter Tryz.func22, Tryz.ntmps22
  go_wp2_with fail
  refine (KK _).mono ?_
  rintro e w1 ⟨rfl, hb⟩
  have B0 : Below w.heap.size w (w.alloc (.cells #[.int .i64 k, .int .i64 m, .int .i64 d, .int .i64 a, .int .i64 b, .int .i64 c, .bool t, .string f, .int .i64 p] 30)) := (Below.refl _ _).alloc (Nat.le_refl _) _
  have B1 : Below w.heap.size w w1 := B0.trans (hb.mono B0.size)
  clear hb B0
  go_wp2
  go_ret
  exact ⟨rfl, B1⟩

set_option maxHeartbeats 2000000 in
theorem okNo0 (m d a b c : Int) (t : Bool) (f : ByteArray) (p : Int) (w : World) (h : ¬ (a = 0 ∧ b = 0 ∧ c = 0 ∧ t = false ∧ f.toList = [] ∧ p = 0)) : Calls Tryz.prog 22 #[.agg #[.int .i64 0, .int .i64 m, .int .i64 d, .int .i64 a, .int .i64 b, .int .i64 c, .bool t, .string f, .int .i64 p]] w fun e w' => e = .returned (.bool (false)) ∧ Below w.heap.size w w' := by
  have KK : ∀ W, Calls Tryz.prog 24 #[.agg #[.int .i64 0, .int .i64 m, .int .i64 d, .int .i64 a, .int .i64 b, .int .i64 c, .bool t, .string f, .int .i64 p]] W fun e w' => e = .returned (.nilIface) ∧ Below W.heap.size W w' := fun W => kindNo0 m d a b c t f p W h
  go_enter Tryz.func22, Tryz.ntmps22
  go_wp2_with fail
  refine (KK _).mono ?_
  rintro e w1 ⟨rfl, hb⟩
  have B0 : Below w.heap.size w (w.alloc (.cells #[.int .i64 0, .int .i64 m, .int .i64 d, .int .i64 a, .int .i64 b, .int .i64 c, .bool t, .string f, .int .i64 p] 30)) := (Below.refl _ _).alloc (Nat.le_refl _) _
  have B1 : Below w.heap.size w w1 := B0.trans (hb.mono B0.size)
  clear hb B0
  go_wp2
  go_ret
  exact ⟨rfl, B1⟩

set_option maxHeartbeats 2000000 in
theorem okNo1 (m d a b c : Int) (t : Bool) (f : ByteArray) (p : Int) (w : World) (h : ¬ (m = 0 ∧ d = 0 ∧ f.toList = [] ∧ p = 0)) : Calls Tryz.prog 22 #[.agg #[.int .i64 1, .int .i64 m, .int .i64 d, .int .i64 a, .int .i64 b, .int .i64 c, .bool t, .string f, .int .i64 p]] w fun e w' => e = .returned (.bool (false)) ∧ Below w.heap.size w w' := by
  have KK : ∀ W, Calls Tryz.prog 24 #[.agg #[.int .i64 1, .int .i64 m, .int .i64 d, .int .i64 a, .int .i64 b, .int .i64 c, .bool t, .string f, .int .i64 p]] W fun e w' => e = .returned (.nilIface) ∧ Below W.heap.size W w' := fun W => kindNo1 m d a b c t f p W h
  go_enter Tryz.func22, Tryz.ntmps22
  go_wp2_with fail
  refine (KK _).mono ?_
  rintro e w1 ⟨rfl, hb⟩
  have B0 : Below w.heap.size w (w.alloc (.cells #[.int .i64 1, .int .i64 m, .int .i64 d, .int .i64 a, .int .i64 b, .int .i64 c, .bool t, .string f, .int .i64 p] 30)) := (Below.refl _ _).alloc (Nat.le_refl _) _
  have B1 : Below w.heap.size w w1 := B0.trans (hb.mono B0.size)
  clear hb B0
  go_wp2
  go_ret
  exact ⟨rfl, B1⟩

set_option maxHeartbeats 2000000 in
theorem okNo2 (m d a b c : Int) (t : Bool) (f : ByteArray) (p : Int) (w : World) (h : ¬ (m = 0 ∧ d = 0 ∧ a = 0 ∧ b = 0 ∧ c = 0 ∧ t = false)) : Calls Tryz.prog 22 #[.agg #[.int .i64 2, .int .i64 m, .int .i64 d, .int .i64 a, .int .i64 b, .int .i64 c, .bool t, .string f, .int .i64 p]] w fun e w' => e = .returned (.bool (false)) ∧ Below w.heap.size w w' := by
  have KK : ∀ W, Calls Tryz.prog 24 #[.agg #[.int .i64 2, .int .i64 m, .int .i64 d, .int .i64 a, .int .i64 b, .int .i64 c, .bool t, .string f, .int .i64 p]] W fun e w' => e = .returned (.nilIface) ∧ Below W.heap.size W w' := fun W => kindNo2 m d a b c t f p W h
  go_enter Tryz.func22, Tryz.ntmps22
  go_wp2_with fail
  refine (KK _).mono ?_
  rintro e w1 ⟨rfl, hb⟩
  have B0 : Below w.heap.size w (w.alloc (.cells #[.int .i64 2, .int .i64 m, .int .i64 d, .int .i64 a, .int .i64 b, .int .i64 c, .bool t, .string f, .int .i64 p] 30)) := (Below.refl _ _).alloc (Nat.le_refl _) _
  have B1 : Below w.heap.size w w1 := B0.trans (hb.mono B0.size)
  clear hb B0
  go_wp2
  go_ret
  exact ⟨rfl, B1⟩

theorem implWhenOk (s : Whn) (w : World) (hT : Tab w) : Calls Tryz.prog 22 #[whnV s] w fun e w' => e = .returned (.bool (whnB s)) ∧ Below w.heap.size w w' := by
  obtain ⟨k, m, d, ⟨a, b, c, t⟩, f, p⟩ := s
  by_cases h0 : k = 0
  · subst h0
    by_cases h : a = 0 ∧ b = 0 ∧ c = 0 ∧ t = false ∧ f.toList = [] ∧ p = 0
    · obtain ⟨rfl, rfl, rfl, rfl, h5, rfl⟩ := h
      obtain rfl := toList_nil h5
      have K := okDay m d w
      rw [show whnB ⟨0, m, d, ⟨0, 0, 0, false⟩, ⟨#[]⟩, 0⟩ = decide (1 ≤ m ∧ m ≤ 12 ∧ 1 ≤ d ∧ d ≤ 31) by unfold whnB; rw [if_pos rfl, decide_eq_true ⟨rfl, rfl, rfl, rfl, h5, rfl⟩, Bool.true_and]]
      exact K
    · rw [show whnB ⟨0, m, d, ⟨a, b, c, t⟩, f, p⟩ = false by unfold whnB; rw [if_pos rfl, decide_eq_false h, Bool.false_and]]
      exact okNo0 m d a b c t f p w h
  by_cases h1 : k = 1
  · subst h1
    by_cases h : m = 0 ∧ d = 0 ∧ f.toList = [] ∧ p = 0
    · obtain ⟨rfl, rfl, h5, rfl⟩ := h
      obtain rfl := toList_nil h5
      rw [show whnB ⟨1, 0, 0, ⟨a, b, c, t⟩, ⟨#[]⟩, 0⟩ = romB ⟨a, b, c, t⟩ by unfold whnB; rw [if_neg (show ¬ (1 : Int) = 0 by omega), if_pos rfl, decide_eq_true ⟨rfl, rfl, h5, rfl⟩, Bool.true_and]]
      exact okRom a b c t w hT
    · rw [show whnB ⟨1, m, d, ⟨a, b, c, t⟩, f, p⟩ = false by unfold whnB; rw [if_neg (show ¬ (1 : Int) = 0 by omega), if_pos rfl, decide_eq_false h, Bool.false_and]]
      exact okNo1 m d a b c t f p w h
  by_cases h2 : k = 2
  · subst h2
    by_cases h : m = 0 ∧ d = 0 ∧ a = 0 ∧ b = 0 ∧ c = 0 ∧ t = false
    · rw [show whnB ⟨2, m, d, ⟨a, b, c, t⟩, f, p⟩ = (decide (0 ≤ findFeast f) && (decide (0 ≤ p) && decide (p ≤ 99))) by unfold whnB; rw [if_neg (show ¬ (2 : Int) = 0 by omega), if_neg (show ¬ (2 : Int) = 1 by omega), if_pos rfl, decide_eq_true h, Bool.true_and]]
      obtain ⟨rfl, rfl, rfl, rfl, rfl, rfl⟩ := h
      exact okFea f p w hT
    · rw [show whnB ⟨2, m, d, ⟨a, b, c, t⟩, f, p⟩ = false by unfold whnB; rw [if_neg (show ¬ (2 : Int) = 0 by omega), if_neg (show ¬ (2 : Int) = 1 by omega), if_pos rfl, decide_eq_false h, Bool.false_and]]
      exact okNo2 m d a b c t f p w h
  rw [show whnB ⟨k, m, d, ⟨a, b, c, t⟩, f, p⟩ = false by unfold whnB; rw [if_neg h0, if_neg h1, if_neg h2]]
  exact okNo k m d a b c t f p w h0 h1 h2
end Go.Proofs.YtoofnjccpoeomaaGreatDoor.ctr

namespace Go.Proofs.YtoofnjccpoeomaaGreatDoor.ctr
open Go.RowKit

theorem whnB_0 (m d a b c : Int) (t : Bool) (f : ByteArray) (p : Int) : whnB ⟨0, m, d, ⟨a, b, c, t⟩, f, p⟩ = ((decide (a = 0 ∧ b = 0 ∧ c = 0 ∧ t = false) && decide (f.toList = [] ∧ p = 0)) && (inB m 1 12 && inB d 1 31)) := by
  unfold whnB
  rw [if_pos rfl]
  simp [inB, Bool.decide_and, Bool.and_assoc]
theorem whnB_1 (m d a b c : Int) (t : Bool) (f : ByteArray) (p : Int) : whnB ⟨1, m, d, ⟨a, b, c, t⟩, f, p⟩ = ((decide (m = 0 ∧ d = 0) && decide (f.toList = [] ∧ p = 0)) && romB ⟨a, b, c, t⟩) := by
  unfold whnB
  rw [if_neg (show ¬ (1 : Int) = 0 by omega), if_pos rfl]
  simp [Bool.decide_and, Bool.and_assoc]
theorem whnB_2 (m d a b c : Int) (t : Bool) (f : ByteArray) (p : Int) : whnB ⟨2, m, d, ⟨a, b, c, t⟩, f, p⟩ = ((decide (m = 0 ∧ d = 0) && decide (a = 0 ∧ b = 0 ∧ c = 0 ∧ t = false)) && (decide (0 ≤ findFeast f) && inB p 0 99)) := by
  unfold whnB
  rw [if_neg (show ¬ (2 : Int) = 0 by omega), if_neg (show ¬ (2 : Int) = 1 by omega), if_pos rfl]
  simp [inB, Bool.decide_and, Bool.and_assoc]
theorem whnB_no {k m d a b c : Int} {t : Bool} {f : ByteArray} {p : Int} (h0 : k ≠ 0) (h1 : k ≠ 1) (h2 : k ≠ 2) : whnB ⟨k, m, d, ⟨a, b, c, t⟩, f, p⟩ = false := by
  unfold whnB
  rw [if_neg h0, if_neg h1, if_neg h2]

set_option maxRecDepth 100000 in
set_option maxHeartbeats 4000000 in
theorem specWhenOk (s : Whn) (w : World) : Calls Tryz.prog 17 #[whnV s] w fun e w' => e = .returned (.bool (whnB s)) ∧ Below w.heap.size w w' := by
  obtain ⟨k, m, d, ⟨a, b, c, t⟩, f, p⟩ := s
  obtain ⟨W0, hW0, hC, hBl⟩ := box_any w #[.int .i64 k, .int .i64 m, .int .i64 d, .int .i64 a, .int .i64 b, .int .i64 c, .bool t, .string f, .int .i64 p] 30
  have c0 : ∀ x : Later W0, x.w.cell? ⟨w.heap.size, 0, none⟩ = some (.int .i64 k) := fun x => (hC x).cell 0 rfl
  have c1 : ∀ x : Later W0, x.w.cell? ⟨w.heap.size, 1, none⟩ = some (.int .i64 m) := fun x => (hC x).cell 1 rfl
  have c2 : ∀ x : Later W0, x.w.cell? ⟨w.heap.size, 2, none⟩ = some (.int .i64 d) := fun x => (hC x).cell 2 rfl
  have c3 : ∀ x : Later W0, x.w.cell? ⟨w.heap.size, 3, none⟩ = some (.int .i64 a) := fun x => (hC x).cell 3 rfl
  have c4 : ∀ x : Later W0, x.w.cell? ⟨w.heap.size, 4, none⟩ = some (.int .i64 b) := fun x => (hC x).cell 4 rfl
  have c5 : ∀ x : Later W0, x.w.cell? ⟨w.heap.size, 5, none⟩ = some (.int .i64 c) := fun x => (hC x).cell 5 rfl
  have c6 : ∀ x : Later W0, x.w.cell? ⟨w.heap.size, 6, none⟩ = some (.bool t) := fun x => (hC x).cell 6 rfl
  have c7 : ∀ x : Later W0, x.w.cell? ⟨w.heap.size, 7, none⟩ = some (.string f) := fun x => (hC x).cell 7 rfl
  have c8 : ∀ x : Later W0, x.w.cell? ⟨w.heap.size, 8, none⟩ = some (.int .i64 p) := fun x => (hC x).cell 8 rfl
  obtain ⟨x0, hx0⟩ : ∃ x0 : Later W0, W0 = x0.w := ⟨⟨W0, Below.refl _ _⟩, rfl⟩
  have HW0 := hideP (hW0.symm.trans hx0)
  have HBl := hideP hBl
  obtain ⟨ans, hans⟩ : ∃ ans, ans = whnB ⟨k, m, d, ⟨a, b, c, t⟩, f, p⟩ := ⟨_, rfl⟩
  rw [← hans]
  have HA := hideP hans
  obtain ⟨D, hD⟩ : ∃ D, D = decide (m = 0 ∧ d = 0) := ⟨_, rfl⟩
  have HD := hideP hD
  obtain ⟨R, hR⟩ : ∃ R, R = decide (a = 0 ∧ b = 0 ∧ c = 0 ∧ t = false) := ⟨_, rfl⟩
  have HR := hideP hR
  obtain ⟨Fe, hFe⟩ : ∃ Fe, Fe = decide (f.toList = [] ∧ p = 0) := ⟨_, rfl⟩
  have HFe := hideP hFe
  clear hD hR hFe
  clear hW0 hC hBl hx0 hans
  go_enter Tryz.func17, Tryz.ntmps17
  go_upto_region 1 with fail
  rw [HW0.out]
  generalize whnV ⟨k, m, d, ⟨a, b, c, t⟩, f, p⟩ = V
  go_cut [3] (fun s wx => s = .bool D ∧ wx = x0.w)
  case first =>
    go_wp2_with fail
    all_goals (go_meet; exact ⟨by rw [HD.out]; simp_all <;> (rw [Bool.eq_iff_iff]; simp), rfl⟩)
  case rest =>
  obtain ⟨rfl, rfl⟩ := hcut
  go_upto_region 2 with fail
  go_cut [4] (fun s wx => s = .bool R ∧ wx = x0.w)
  case first =>
    go_wp2_with fail
    all_goals (go_meet; exact ⟨by rw [HR.out]; simp_all <;> (rw [Bool.eq_iff_iff]; simp), rfl⟩)
  case rest =>
  obtain ⟨rfl, rfl⟩ := hcut
  go_upto_region 3 with fail
  go_cut [5] (fun s wx => s = .bool Fe ∧ wx = x0.w)
  case first =>
    go_wp2_with fail
    all_goals (go_meet; exact ⟨by rw [HFe.out]; simp_all <;> (rw [Bool.eq_iff_iff]; simp), rfl⟩)
  case rest =>
  obtain ⟨rfl, rfl⟩ := hcut
  have K12 : ∀ W, Calls Tryz.prog 40 #[.int .i64 m, .int .i64 1, .int .i64 12] W fun e w' => e = .returned (.bool (inB m 1 12)) ∧ w' = W := fun W => l01In _ _ _ W
  have K31 : ∀ W, Calls Tryz.prog 40 #[.int .i64 d, .int .i64 1, .int .i64 31] W fun e w' => e = .returned (.bool (inB d 1 31)) ∧ w' = W := fun W => l01In _ _ _ W
  have K99 : ∀ W, Calls Tryz.prog 40 #[.int .i64 p, .int .i64 0, .int .i64 99] W fun e w' => e = .returned (.bool (inB p 0 99)) ∧ w' = W := fun W => l01In _ _ _ W
  have KI : ∀ W, Calls Tryz.prog 41 #[.agg #[.int .i64 a, .int .i64 b, .int .i64 c, .bool t]] W fun e w' => e = .returned (.bool (romB ⟨a, b, c, t⟩)) ∧ Below W.heap.size W w' := fun W => specIs ⟨a, b, c, t⟩ W
  have KF : ∀ W, Calls Tryz.prog 42 #[.string f] W fun e w' => e = .returned (.int .i64 (findFeast f)) ∧ Below W.heap.size W w' := fun W => specFind f W
  by_cases h0 : k = 0
  · subst h0
    have HA0 : Hid (ans = ((R && Fe) && (inB m 1 12 && inB d 1 31))) := by unfold Hid; rw [HA.out, whnB_0, ← HR.out, ← HFe.out]
    clear HD HR HFe
    generalize inB m 1 12 = B1 at *
    generalize inB d 1 31 = B2 at *
    clear HA K99 KI KF
    cases R
    · obtain rfl : ans = false := by rw [HA0.out]; rfl
      go_wp2
      go_ret
      exact ⟨rfl, HBl.out x0⟩
    cases Fe
    · obtain rfl : ans = false := by rw [HA0.out]; rfl
      go_wp2
      go_ret
      exact ⟨rfl, HBl.out x0⟩
    cases B1
    · obtain rfl : ans = false := by rw [HA0.out]; rfl
      go_wp2_with fail
      refine (K12 _).mono ?_
      rintro e w1 ⟨rfl, rfl⟩
      go_wp2
      go_ret
      exact ⟨rfl, HBl.out x0⟩
    obtain rfl : ans = B2 := by rw [HA0.out]; rfl
    go_wp2_with fail
    refine (K12 _).mono ?_
    rintro e w1 ⟨rfl, rfl⟩
    go_wp2_with fail
    refine (K31 _).mono ?_
    rintro e w1 ⟨rfl, rfl⟩
    go_wp2
    go_ret
    exact ⟨rfl, HBl.out x0⟩
  have e0 : (k == 0) = false := by simpa using h0
  by_cases h1 : k = 1
  · subst h1
    have HA0 : Hid (ans = ((D && Fe) && romB ⟨a, b, c, t⟩)) := by unfold Hid; rw [HA.out, whnB_1, ← HD.out, ← HFe.out]
    clear HD HR HFe
    generalize romB ⟨a, b, c, t⟩ = B1 at *
    clear HA K99 K12 K31 KF
    cases D
    · obtain rfl : ans = false := by rw [HA0.out]; rfl
      go_wp2
      go_ret
      exact ⟨rfl, HBl.out x0⟩
    cases Fe
    · obtain rfl : ans = false := by rw [HA0.out]; rfl
      go_wp2
      go_ret
      exact ⟨rfl, HBl.out x0⟩
    obtain rfl : ans = B1 := by rw [HA0.out]; rfl
    go_wp2_with fail
    refine (KI _).mono ?_
    rintro e w1 ⟨rfl, hb⟩
    obtain ⟨x1, rfl⟩ := x0.next hb
    clear hb
    go_wp2
    go_ret
    exact ⟨rfl, HBl.out x1⟩
  have e1 : (k == 1) = false := by simpa using h1
  by_cases h2 : k = 2
  · subst h2
    have HA0 : Hid (ans = ((D && R) && (decide (0 ≤ findFeast f) && inB p 0 99))) := by unfold Hid; rw [HA.out, whnB_2, ← HD.out, ← HR.out]
    clear HD HR HFe
    generalize findFeast f = z at *
    generalize inB p 0 99 = B1 at *
    clear HA KI K12 K31
    cases D
    · obtain rfl : ans = false := by rw [HA0.out]; rfl
      go_wp2
      go_ret
      exact ⟨rfl, HBl.out x0⟩
    cases R
    · obtain rfl : ans = false := by rw [HA0.out]; rfl
      go_wp2
      go_ret
      exact ⟨rfl, HBl.out x0⟩
    by_cases hz : 0 ≤ z
    case neg =>
      obtain rfl : ans = false := by rw [HA0.out, decide_eq_false hz]; rfl
      go_wp2_with fail
      refine (KF _).mono ?_
      rintro e w1 ⟨rfl, hb⟩
      obtain ⟨x1, rfl⟩ := x0.next hb
      clear hb
      go_wp2
      go_ret
      exact ⟨rfl, HBl.out x1⟩
    obtain rfl : ans = B1 := by rw [HA0.out, decide_eq_true hz]; rfl
    go_wp2_with fail
    refine (KF _).mono ?_
    rintro e w1 ⟨rfl, hb⟩
    obtain ⟨x1, rfl⟩ := x0.next hb
    clear hb
    go_wp2_with fail
    refine (K99 _).mono ?_
    rintro e w2 ⟨rfl, rfl⟩
    go_wp2
    go_ret
    exact ⟨rfl, HBl.out x1⟩
  have e2 : (k == 2) = false := by simpa using h2
  obtain rfl : ans = false := HA.out.trans (whnB_no h0 h1 h2)
  go_wp2
  go_ret
  exact ⟨rfl, HBl.out x0⟩
end Go.Proofs.YtoofnjccpoeomaaGreatDoor.ctr

namespace Go.Proofs.YtoofnjccpoeomaaGreatDoor.ctr
open Go.RowKit

structure Say where
  whn : Whn
  year : Int
  sol : Int
  cal : Int
abbrev sayC (s : Say) : Array Value := #[.int .i64 s.whn.kind, .int .i64 s.whn.mon, .int .i64 s.whn.day, .int .i64 s.whn.rom.count, .int .i64 s.whn.rom.mark, .int .i64 s.whn.rom.month, .bool s.whn.rom.twice, .string s.whn.feast, .int .i64 s.whn.plus, .int .i64 s.year, .int .i64 s.sol, .int .i64 s.cal]
abbrev sayV (s : Say) : Value := .agg (sayC s)
def sayB (s : Say) : Bool := whnB s.whn && (inB s.year 1 3000 && ((s.sol == -1 || inB s.sol 1 3000) && (s.cal == -1 || calB s.cal)))
theorem implIsYear (y : Int) (w : World) : Calls Tryz.prog 50 #[.int .i64 y] w fun e w' => e = .returned (.bool (inB y 1 3000)) ∧ w' = w := by
  by_cases h1 : 1 ≤ y
  · by_cases h2 : y ≤ 3000
    · rw [inB_true h1 h2]
      go_enter Tryz.func50, Tryz.ntmps50
      go_wp2
      go_ret
      exact ⟨rfl, rfl⟩
    · rw [inB_false (.inr (by omega))]
      go_enter Tryz.func50, Tryz.ntmps50
      go_wp2
      go_ret
      exact ⟨rfl, rfl⟩
  · rw [inB_false (.inl (by omega))]
    go_enter Tryz.func50, Tryz.ntmps50
    go_wp2
    go_ret
    exact ⟨rfl, rfl⟩

set_option maxRecDepth 100000 in
set_option maxHeartbeats 4000000 in
theorem implSayingOk (s : Say) (w : World) (hT : Tab w) : Calls Tryz.prog 27 #[sayV s] w fun e w' => e = .returned (.bool (sayB s)) ∧ Below w.heap.size w w' := by
  obtain ⟨⟨k, m, d, ⟨a, b, c, t⟩, f, p⟩, y, so, ca⟩ := s
  obtain ⟨W0, hW0, hC, hBl⟩ := box_any w #[.int .i64 k, .int .i64 m, .int .i64 d, .int .i64 a, .int .i64 b, .int .i64 c, .bool t, .string f, .int .i64 p, .int .i64 y, .int .i64 so, .int .i64 ca] 38
  have c0 : ∀ x : Later W0, x.w.cell? ⟨w.heap.size, 0, none⟩ = some (.int .i64 k) := fun x => (hC x).cell 0 rfl
  have c1 : ∀ x : Later W0, x.w.cell? ⟨w.heap.size, 1, none⟩ = some (.int .i64 m) := fun x => (hC x).cell 1 rfl
  have c2 : ∀ x : Later W0, x.w.cell? ⟨w.heap.size, 2, none⟩ = some (.int .i64 d) := fun x => (hC x).cell 2 rfl
  have c3 : ∀ x : Later W0, x.w.cell? ⟨w.heap.size, 3, none⟩ = some (.int .i64 a) := fun x => (hC x).cell 3 rfl
  have c4 : ∀ x : Later W0, x.w.cell? ⟨w.heap.size, 4, none⟩ = some (.int .i64 b) := fun x => (hC x).cell 4 rfl
  have c5 : ∀ x : Later W0, x.w.cell? ⟨w.heap.size, 5, none⟩ = some (.int .i64 c) := fun x => (hC x).cell 5 rfl
  have c6 : ∀ x : Later W0, x.w.cell? ⟨w.heap.size, 6, none⟩ = some (.bool t) := fun x => (hC x).cell 6 rfl
  have c7 : ∀ x : Later W0, x.w.cell? ⟨w.heap.size, 7, none⟩ = some (.string f) := fun x => (hC x).cell 7 rfl
  have c8 : ∀ x : Later W0, x.w.cell? ⟨w.heap.size, 8, none⟩ = some (.int .i64 p) := fun x => (hC x).cell 8 rfl
  have c9 : ∀ x : Later W0, x.w.cell? ⟨w.heap.size, 9, none⟩ = some (.int .i64 y) := fun x => (hC x).cell 9 rfl
  have c10 : ∀ x : Later W0, x.w.cell? ⟨w.heap.size, 10, none⟩ = some (.int .i64 so) := fun x => (hC x).cell 10 rfl
  have c11 : ∀ x : Later W0, x.w.cell? ⟨w.heap.size, 11, none⟩ = some (.int .i64 ca) := fun x => (hC x).cell 11 rfl
  have HW0 := hideP hW0
  have HBl := hideP hBl
  have KO : ∀ x : Later W0, Calls Tryz.prog 22 #[.agg #[.int .i64 k, .int .i64 m, .int .i64 d, .int .i64 a, .int .i64 b, .int .i64 c, .bool t, .string f, .int .i64 p]] x.w fun e w' => e = .returned (.bool (whnB ⟨k, m, d, ⟨a, b, c, t⟩, f, p⟩)) ∧ Below x.w.heap.size x.w w' := fun x => implWhenOk ⟨k, m, d, ⟨a, b, c, t⟩, f, p⟩ x.w (hT.later (hBl x))
  have KY : ∀ W, Calls Tryz.prog 50 #[.int .i64 y] W fun e w' => e = .returned (.bool (inB y 1 3000)) ∧ w' = W := fun W => implIsYear y W
  have KS : ∀ W, Calls Tryz.prog 50 #[.int .i64 so] W fun e w' => e = .returned (.bool (inB so 1 3000)) ∧ w' = W := fun W => implIsYear so W
  obtain ⟨ans, hans⟩ : ∃ ans, ans = sayB ⟨⟨k, m, d, ⟨a, b, c, t⟩, f, p⟩, y, so, ca⟩ := ⟨_, rfl⟩
  rw [← hans]
  have HA : Hid (ans = (whnB ⟨k, m, d, ⟨a, b, c, t⟩, f, p⟩ && (inB y 1 3000 && ((so == -1 || inB so 1 3000) && (ca == -1 || calB ca))))) := hans
  generalize whnB ⟨k, m, d, ⟨a, b, c, t⟩, f, p⟩ = B at *
  generalize inB y 1 3000 = Y at *
  generalize inB so 1 3000 = Q at *
  clear hW0 hC hBl hans hT
  cases B
  · obtain rfl : ans = false := HA.out.trans rfl
    go_enter Tryz.func27, Tryz.ntmps27
    go_wp2_with fail
    rw [← HW0.out]
    refine (KO ⟨W0, Below.refl _ _⟩).mono ?_
    rintro e w1 ⟨rfl, hb⟩
    obtain ⟨x1, rfl⟩ := Later.of hb
    clear hb
    go_wp2
    go_ret
    exact ⟨rfl, HBl.out x1⟩
  cases Y
  · obtain rfl : ans = false := HA.out.trans rfl
    go_enter Tryz.func27, Tryz.ntmps27
    go_wp2_with fail
    rw [← HW0.out]
    refine (KO ⟨W0, Below.refl _ _⟩).mono ?_
    rintro e w1 ⟨rfl, hb⟩
    obtain ⟨x1, rfl⟩ := Later.of hb
    clear hb
    go_wp2_with fail
    refine (KY _).mono ?_
    rintro e wz ⟨rfl, rfl⟩
    go_wp2
    go_ret
    exact ⟨rfl, HBl.out x1⟩
  by_cases s1 : so = -1
  · subst s1
    by_cases z1 : ca = -1
    · subst z1
      obtain rfl : ans = true := HA.out.trans (by first | rfl | simp)
      go_enter Tryz.func27, Tryz.ntmps27
      go_wp2_with fail
      rw [← HW0.out]
      refine (KO ⟨W0, Below.refl _ _⟩).mono ?_
      rintro e w1 ⟨rfl, hb⟩
      obtain ⟨x1, rfl⟩ := Later.of hb
      clear hb
      go_wp2_with fail
      refine (KY _).mono ?_
      rintro e wz ⟨rfl, rfl⟩
      go_wp2
      go_ret
      exact ⟨rfl, HBl.out x1⟩
    have e2 : (ca == -1) = false := by simpa using z1
    by_cases z2 : ca = 0 ∨ ca = 1
    · have KC : ∀ W, Calls Tryz.prog 51 #[.int .i64 ca] W fun e w' => e = .returned (.iface (calT ca) (.agg #[])) ∧ w' = W := fun W => implCal ca z2 W
      obtain rfl : ans = true := HA.out.trans (by rw [e2, (show calB ca = true by unfold calB; rcases z2 with h | h <;> simp [h])]; first | rfl | simp)
      generalize calT ca = ct at *
      clear HA z2
      go_enter Tryz.func27, Tryz.ntmps27
      go_wp2_with fail
      rw [← HW0.out]
      refine (KO ⟨W0, Below.refl _ _⟩).mono ?_
      rintro e w1 ⟨rfl, hb⟩
      obtain ⟨x1, rfl⟩ := Later.of hb
      clear hb
      go_wp2_with fail
      refine (KY _).mono ?_
      rintro e wz ⟨rfl, rfl⟩
      go_wp2_with fail
      refine (KC _).mono ?_
      rintro e wz ⟨rfl, rfl⟩
      go_wp2
      go_ret
      exact ⟨rfl, HBl.out x1⟩
    have KC : ∀ W, Calls Tryz.prog 51 #[.int .i64 ca] W fun e w' => e = .returned .nilIface ∧ w' = W := fun W => implCalNo ca (fun h => z2 (.inl h)) (fun h => z2 (.inr h)) W
    obtain rfl : ans = false := HA.out.trans (by rw [e2, calB_no (by omega)]; first | rfl | simp)
    clear HA z2
    go_enter Tryz.func27, Tryz.ntmps27
    go_wp2_with fail
    rw [← HW0.out]
    refine (KO ⟨W0, Below.refl _ _⟩).mono ?_
    rintro e w1 ⟨rfl, hb⟩
    obtain ⟨x1, rfl⟩ := Later.of hb
    clear hb
    go_wp2_with fail
    refine (KY _).mono ?_
    rintro e wz ⟨rfl, rfl⟩
    go_wp2_with fail
    refine (KC _).mono ?_
    rintro e wz ⟨rfl, rfl⟩
    go_wp2
    go_ret
    exact ⟨rfl, HBl.out x1⟩
  have e1 : (so == -1) = false := by simpa using s1
  cases Q
  · obtain rfl : ans = false := HA.out.trans (by rw [e1]; rfl)
    go_enter Tryz.func27, Tryz.ntmps27
    go_wp2_with fail
    rw [← HW0.out]
    refine (KO ⟨W0, Below.refl _ _⟩).mono ?_
    rintro e w1 ⟨rfl, hb⟩
    obtain ⟨x1, rfl⟩ := Later.of hb
    clear hb
    go_wp2_with fail
    refine (KY _).mono ?_
    rintro e wz ⟨rfl, rfl⟩
    go_wp2_with fail
    refine (KS _).mono ?_
    rintro e wz ⟨rfl, rfl⟩
    go_wp2
    go_ret
    exact ⟨rfl, HBl.out x1⟩
  rw [e1] at HA
  by_cases z1 : ca = -1
  · subst z1
    obtain rfl : ans = true := HA.out.trans (by first | rfl | simp)
    go_enter Tryz.func27, Tryz.ntmps27
    go_wp2_with fail
    rw [← HW0.out]
    refine (KO ⟨W0, Below.refl _ _⟩).mono ?_
    rintro e w1 ⟨rfl, hb⟩
    obtain ⟨x1, rfl⟩ := Later.of hb
    clear hb
    go_wp2_with fail
    refine (KY _).mono ?_
    rintro e wz ⟨rfl, rfl⟩
    go_wp2_with fail
    refine (KS _).mono ?_
    rintro e wz ⟨rfl, rfl⟩
    go_wp2
    go_ret
    exact ⟨rfl, HBl.out x1⟩
  have e2 : (ca == -1) = false := by simpa using z1
  by_cases z2 : ca = 0 ∨ ca = 1
  · have KC : ∀ W, Calls Tryz.prog 51 #[.int .i64 ca] W fun e w' => e = .returned (.iface (calT ca) (.agg #[])) ∧ w' = W := fun W => implCal ca z2 W
    obtain rfl : ans = true := HA.out.trans (by rw [e2, (show calB ca = true by unfold calB; rcases z2 with h | h <;> simp [h])]; first | rfl | simp)
    generalize calT ca = ct at *
    clear HA z2
    go_enter Tryz.func27, Tryz.ntmps27
    go_wp2_with fail
    rw [← HW0.out]
    refine (KO ⟨W0, Below.refl _ _⟩).mono ?_
    rintro e w1 ⟨rfl, hb⟩
    obtain ⟨x1, rfl⟩ := Later.of hb
    clear hb
    go_wp2_with fail
    refine (KY _).mono ?_
    rintro e wz ⟨rfl, rfl⟩
    go_wp2_with fail
    refine (KS _).mono ?_
    rintro e wz ⟨rfl, rfl⟩
    go_wp2_with fail
    refine (KC _).mono ?_
    rintro e wz ⟨rfl, rfl⟩
    go_wp2
    go_ret
    exact ⟨rfl, HBl.out x1⟩
  have KC : ∀ W, Calls Tryz.prog 51 #[.int .i64 ca] W fun e w' => e = .returned .nilIface ∧ w' = W := fun W => implCalNo ca (fun h => z2 (.inl h)) (fun h => z2 (.inr h)) W
  obtain rfl : ans = false := HA.out.trans (by rw [e2, calB_no (by omega)]; first | rfl | simp)
  clear HA z2
  go_enter Tryz.func27, Tryz.ntmps27
  go_wp2_with fail
  rw [← HW0.out]
  refine (KO ⟨W0, Below.refl _ _⟩).mono ?_
  rintro e w1 ⟨rfl, hb⟩
  obtain ⟨x1, rfl⟩ := Later.of hb
  clear hb
  go_wp2_with fail
  refine (KY _).mono ?_
  rintro e wz ⟨rfl, rfl⟩
  go_wp2_with fail
  refine (KS _).mono ?_
  rintro e wz ⟨rfl, rfl⟩
  go_wp2_with fail
  refine (KC _).mono ?_
  rintro e wz ⟨rfl, rfl⟩
  go_wp2
  go_ret
  exact ⟨rfl, HBl.out x1⟩

set_option maxRecDepth 100000 in
set_option maxHeartbeats 4000000 in
theorem specSayingOk (s : Say) (w : World) : Calls Tryz.prog 25 #[sayV s] w fun e w' => e = .returned (.bool (sayB s)) ∧ Below w.heap.size w w' := by
  obtain ⟨⟨k, m, d, ⟨a, b, c, t⟩, f, p⟩, y, so, ca⟩ := s
  obtain ⟨W0, hW0, hC, hBl⟩ := box_any w #[.int .i64 k, .int .i64 m, .int .i64 d, .int .i64 a, .int .i64 b, .int .i64 c, .bool t, .string f, .int .i64 p, .int .i64 y, .int .i64 so, .int .i64 ca] 38
  have c0 : ∀ x : Later W0, x.w.cell? ⟨w.heap.size, 0, none⟩ = some (.int .i64 k) := fun x => (hC x).cell 0 rfl
  have c1 : ∀ x : Later W0, x.w.cell? ⟨w.heap.size, 1, none⟩ = some (.int .i64 m) := fun x => (hC x).cell 1 rfl
  have c2 : ∀ x : Later W0, x.w.cell? ⟨w.heap.size, 2, none⟩ = some (.int .i64 d) := fun x => (hC x).cell 2 rfl
  have c3 : ∀ x : Later W0, x.w.cell? ⟨w.heap.size, 3, none⟩ = some (.int .i64 a) := fun x => (hC x).cell 3 rfl
  have c4 : ∀ x : Later W0, x.w.cell? ⟨w.heap.size, 4, none⟩ = some (.int .i64 b) := fun x => (hC x).cell 4 rfl
  have c5 : ∀ x : Later W0, x.w.cell? ⟨w.heap.size, 5, none⟩ = some (.int .i64 c) := fun x => (hC x).cell 5 rfl
  have c6 : ∀ x : Later W0, x.w.cell? ⟨w.heap.size, 6, none⟩ = some (.bool t) := fun x => (hC x).cell 6 rfl
  have c7 : ∀ x : Later W0, x.w.cell? ⟨w.heap.size, 7, none⟩ = some (.string f) := fun x => (hC x).cell 7 rfl
  have c8 : ∀ x : Later W0, x.w.cell? ⟨w.heap.size, 8, none⟩ = some (.int .i64 p) := fun x => (hC x).cell 8 rfl
  have c9 : ∀ x : Later W0, x.w.cell? ⟨w.heap.size, 9, none⟩ = some (.int .i64 y) := fun x => (hC x).cell 9 rfl
  have c10 : ∀ x : Later W0, x.w.cell? ⟨w.heap.size, 10, none⟩ = some (.int .i64 so) := fun x => (hC x).cell 10 rfl
  have c11 : ∀ x : Later W0, x.w.cell? ⟨w.heap.size, 11, none⟩ = some (.int .i64 ca) := fun x => (hC x).cell 11 rfl
  have HW0 := hideP hW0
  have HBl := hideP hBl
  have KO : ∀ x : Later W0, Calls Tryz.prog 17 #[.agg #[.int .i64 k, .int .i64 m, .int .i64 d, .int .i64 a, .int .i64 b, .int .i64 c, .bool t, .string f, .int .i64 p]] x.w fun e w' => e = .returned (.bool (whnB ⟨k, m, d, ⟨a, b, c, t⟩, f, p⟩)) ∧ Below x.w.heap.size x.w w' := fun x => specWhenOk ⟨k, m, d, ⟨a, b, c, t⟩, f, p⟩ x.w
  have KY : ∀ W, Calls Tryz.prog 40 #[.int .i64 y, .int .i64 1, .int .i64 3000] W fun e w' => e = .returned (.bool (inB y 1 3000)) ∧ w' = W := fun W => l01In y 1 3000 W
  have KS : ∀ W, Calls Tryz.prog 40 #[.int .i64 so, .int .i64 1, .int .i64 3000] W fun e w' => e = .returned (.bool (inB so 1 3000)) ∧ w' = W := fun W => l01In so 1 3000 W
  have KC : ∀ W, Calls Tryz.prog 49 #[.int .i64 ca] W fun e w' => e = .returned (.bool (calB ca)) ∧ w' = W := fun W => specCal ca W
  obtain ⟨ans, hans⟩ : ∃ ans, ans = sayB ⟨⟨k, m, d, ⟨a, b, c, t⟩, f, p⟩, y, so, ca⟩ := ⟨_, rfl⟩
  rw [← hans]
  have HA : Hid (ans = (whnB ⟨k, m, d, ⟨a, b, c, t⟩, f, p⟩ && (inB y 1 3000 && ((so == -1 || inB so 1 3000) && (ca == -1 || calB ca))))) := hans
  generalize whnB ⟨k, m, d, ⟨a, b, c, t⟩, f, p⟩ = B at *
  generalize inB y 1 3000 = Y at *
  generalize inB so 1 3000 = Q at *
  generalize calB ca = C at *
  clear hW0 hC hBl hans
  cases B
  · obtain rfl : ans = false := HA.out.trans rfl
    go_enter Tryz.func25, Tryz.ntmps25
    go_wp2_with fail
    rw [← HW0.out]
    refine (KO ⟨W0, Below.refl _ _⟩).mono ?_
    rintro e w1 ⟨rfl, hb⟩
    obtain ⟨x1, rfl⟩ := Later.of hb
    clear hb
    go_wp2
    go_ret
    exact ⟨rfl, HBl.out x1⟩
  cases Y
  · obtain rfl : ans = false := HA.out.trans rfl
    go_enter Tryz.func25, Tryz.ntmps25
    go_wp2_with fail
    rw [← HW0.out]
    refine (KO ⟨W0, Below.refl _ _⟩).mono ?_
    rintro e w1 ⟨rfl, hb⟩
    obtain ⟨x1, rfl⟩ := Later.of hb
    clear hb
    go_wp2_with fail
    refine (KY _).mono ?_
    rintro e wz ⟨rfl, rfl⟩
    go_wp2
    go_ret
    exact ⟨rfl, HBl.out x1⟩
  by_cases s1 : so = -1
  · subst s1
    by_cases z1 : ca = -1
    · subst z1
      obtain rfl : ans = true := HA.out.trans (by first | rfl | simp)
      go_enter Tryz.func25, Tryz.ntmps25
      go_wp2_with fail
      rw [← HW0.out]
      refine (KO ⟨W0, Below.refl _ _⟩).mono ?_
      rintro e w1 ⟨rfl, hb⟩
      obtain ⟨x1, rfl⟩ := Later.of hb
      clear hb
      go_wp2_with fail
      refine (KY _).mono ?_
      rintro e wz ⟨rfl, rfl⟩
      go_wp2
      go_ret
      exact ⟨rfl, HBl.out x1⟩
    have e2 : (ca == -1) = false := by simpa using z1
    obtain rfl : ans = C := HA.out.trans (by rw [e2]; first | rfl | simp)
    go_enter Tryz.func25, Tryz.ntmps25
    go_wp2_with fail
    rw [← HW0.out]
    refine (KO ⟨W0, Below.refl _ _⟩).mono ?_
    rintro e w1 ⟨rfl, hb⟩
    obtain ⟨x1, rfl⟩ := Later.of hb
    clear hb
    go_wp2_with fail
    refine (KY _).mono ?_
    rintro e wz ⟨rfl, rfl⟩
    go_wp2_with fail
    refine (KC _).mono ?_
    rintro e wz ⟨rfl, rfl⟩
    go_wp2
    go_ret
    exact ⟨rfl, HBl.out x1⟩
  have e1 : (so == -1) = false := by simpa using s1
  cases Q
  · obtain rfl : ans = false := HA.out.trans (by rw [e1]; rfl)
    go_enter Tryz.func25, Tryz.ntmps25
    go_wp2_with fail
    rw [← HW0.out]
    refine (KO ⟨W0, Below.refl _ _⟩).mono ?_
    rintro e w1 ⟨rfl, hb⟩
    obtain ⟨x1, rfl⟩ := Later.of hb
    clear hb
    go_wp2_with fail
    refine (KY _).mono ?_
    rintro e wz ⟨rfl, rfl⟩
    go_wp2_with fail
    refine (KS _).mono ?_
    rintro e wz ⟨rfl, rfl⟩
    go_wp2
    go_ret
    exact ⟨rfl, HBl.out x1⟩
  rw [e1] at HA
  by_cases z1 : ca = -1
  · subst z1
    obtain rfl : ans = true := HA.out.trans (by first | rfl | simp)
    go_enter Tryz.func25, Tryz.ntmps25
    go_wp2_with fail
    rw [← HW0.out]
    refine (KO ⟨W0, Below.refl _ _⟩).mono ?_
    rintro e w1 ⟨rfl, hb⟩
    obtain ⟨x1, rfl⟩ := Later.of hb
    clear hb
    go_wp2_with fail
    refine (KY _).mono ?_
    rintro e wz ⟨rfl, rfl⟩
    go_wp2_with fail
    refine (KS _).mono ?_
    rintro e wz ⟨rfl, rfl⟩
    go_wp2
    go_ret
    exact ⟨rfl, HBl.out x1⟩
  have e2 : (ca == -1) = false := by simpa using z1
  obtain rfl : ans = C := HA.out.trans (by rw [e2]; first | rfl | simp)
  go_enter Tryz.func25, Tryz.ntmps25
  go_wp2_with fail
  rw [← HW0.out]
  refine (KO ⟨W0, Below.refl _ _⟩).mono ?_
  rintro e w1 ⟨rfl, hb⟩
  obtain ⟨x1, rfl⟩ := Later.of hb
  clear hb
  go_wp2_with fail
  refine (KY _).mono ?_
  rintro e wz ⟨rfl, rfl⟩
  go_wp2_with fail
  refine (KS _).mono ?_
  rintro e wz ⟨rfl, rfl⟩
  go_wp2_with fail
  refine (KC _).mono ?_
  rintro e wz ⟨rfl, rfl⟩
  go_wp2
  go_ret
  exact ⟨rfl, HBl.out x1⟩
end Go.Proofs.YtoofnjccpoeomaaGreatDoor.ctr

namespace Go.Proofs.YtoofnjccpoeomaaGreatDoor.ctr
open Go.RowKit

/-- What is left to write of m ahead of what stands. -/
def left (m : Int) : List UInt8 := if m = 0 then [] else Lib.decDigits m.natAbs
theorem left_step (m : Int) (h : m ≠ 0) : left m = left (m.tdiv 10) ++ [UInt8.ofNat (48 + m.natAbs % 10)] := by
  have e : (m.tdiv 10).natAbs = m.natAbs / 10 := by rw [Int.natAbs_tdiv]; rfl
  unfold left
  rw [if_neg h, Lib.decDigits]
  by_cases h0 : m.natAbs < 10
  · rw [dif_pos h0, if_pos (by omega), Nat.mod_eq_of_lt h0]
    rfl
  · rw [dif_neg h0, if_neg (by omega), e]
theorem dec_len : ∀ (k u : Nat), u < 10 ^ (k + 1) → (Lib.decDigits u).length ≤ k + 1
  | 0, u, h => by rw [Lib.decDigits, dif_pos (by simpa using h)]; simp
  | k + 1, u, h => by
    rw [Lib.decDigits]
    by_cases h0 : u < 10
    · rw [dif_pos h0]; simp
    · rw [dif_neg h0, List.length_append]
      have := dec_len k (u / 10) (by rw [Nat.pow_succ] at h; omega)
      simp
      omega
theorem left_len (n : Int) (h0 : -9223372036854775808 ≤ n) (h1 : n ≤ 9223372036854775807) : (left n).length ≤ 20 := by
  unfold left
  by_cases h : n = 0
  · rw [if_pos h]; simp
  · rw [if_neg h]
    exact dec_len 19 n.natAbs (by have : (10 : Nat) ^ (19 + 1) = 100000000000000000000 := by decide
                                  omega)
theorem out_len {m n : Int} {out : List UInt8} (h : left m ++ out = left n) (h0 : -9223372036854775808 ≤ n) (h1 : n ≤ 9223372036854775807) : out.length ≤ 20 := by
  have := left_len n h0 h1
  rw [← h, List.length_append] at this
  omega
theorem digits_one : ∀ i : Fin 10, (⟨#[48, 49, 50, 51, 52, 53, 54, 55, 56, 57]⟩ : ByteArray).extract i.val (i.val + 1) = ⟨#[UInt8.ofNat (48 + i.val)]⟩ := by decide
theorem digit_join (d : Int) (k : Nat) (h0 : 0 ≤ d) (h1 : d < 10) (hk : d.toNat = k) (out : List UInt8) :
    Value.string ((⟨#[48, 49, 50, 51, 52, 53, 54, 55, 56, 57]⟩ : ByteArray).extract d.toNat (d + 1).toNat ++ ⟨out.toArray⟩) = .string ⟨(UInt8.ofNat (48 + k) :: out).toArray⟩ := by
  have e : (d + 1).toNat = d.toNat + 1 := by omega
  rw [e, hk, digits_one ⟨k, by omega⟩]
  congr 1
theorem itoa_left (n : Int) (h : n ≠ 0) : Lib.itoa n = if n < 0 then 45 :: left n else left n := by
  unfold Lib.itoa left
  rw [if_neg h]
  by_cases hn : n < 0
  · rw [if_pos hn, if_pos hn]
  · rw [if_neg hn, if_neg hn, show n.toNat = n.natAbs from by omega]

set_option maxHeartbeats 400000 in
theorem specDecText (n : Int) (w : World) (h0 : -9223372036854775808 ≤ n) (h1 : n ≤ 9223372036854775807) :
    Calls Tryz.prog 18 #[.int .i64 n] w fun e w' => e = .returned (.string ⟨(Lib.itoa n).toArray⟩) ∧ w' = w := by
  by_cases hz : n = 0
  · subst hz
    go_enter Tryz.func18, Tryz.ntmps18
    go_wp2
    go_ret
    exact ⟨ret_str (by unfold Lib.itoa; rw [if_neg (by decide), Lib.decDigits]; rfl), rfl⟩
  have hz' : (n == 0) = false := by simp [hz]
  go_enter Tryz.func18, Tryz.ntmps18
  go_wp2
  go_loop [3, 4] (fun o t => ∃ (m : Int) (out : List UInt8), t = .int .i64 m ∧ o = .string ⟨out.toArray⟩ ∧ -9223372036854775808 ≤ m ∧ m ≤ 9223372036854775807 ∧ left m ++ out = left n) (fun _ t => (intOf t).natAbs)
  case atStart => exact ⟨n, [], rfl, rfl, h0, h1, by simp⟩
  case round =>
    obtain ⟨m, out, rfl, rfl, b0, b1, hl⟩ := hrel
    have HL : Hid (left m ++ out = left n) := hl
    have ho := out_len hl h0 h1
    clear hl
    by_cases hm : m = 0
    · subst hm
      by_cases hn : n < 0
      · go_wp2
        go_ret
        refine ⟨ret_str ?_, rfl⟩
        rw [itoa_left n hz, if_pos hn, ← HL.out]
        rfl
      · go_wp2
        go_ret
        refine ⟨ret_str ?_, rfl⟩
        rw [itoa_left n hz, if_neg (by omega), ← HL.out]
        rfl
    · have hm' : (m != 0) = true := by simp [hm]
      have t1 : -10 < m.tmod 10 := Int.lt_tmod_of_pos m (by omega)
      have t2 : m.tmod 10 < 10 := Int.tmod_lt_of_pos m (by omega)
      have HA : Hid ((m.tmod 10).natAbs = m.natAbs % 10) := by unfold Hid; rw [Int.natAbs_tmod]; rfl
      have HQ : Hid ((m.tdiv 10).natAbs = m.natAbs / 10) := by unfold Hid; rw [Int.natAbs_tdiv]; rfl
      by_cases hr : m.tmod 10 < 0
      · go_wp2
        refine ⟨⟨m.tdiv 10, UInt8.ofNat (48 + m.natAbs % 10) :: out, rfl, ?_, ?_, ?_, ?_⟩, ?_⟩
        · exact digit_join (-m.tmod 10) _ (by omega) (by omega) (by have := HA.out; omega) out
        · have := HQ.out; omega
        · have := HQ.out; omega
        · rw [← HL.out, left_step m hm]; simp
        · show (m.tdiv 10).natAbs < m.natAbs
          rw [HQ.out]; omega
      · go_wp2
        refine ⟨⟨m.tdiv 10, UInt8.ofNat (48 + m.natAbs % 10) :: out, rfl, ?_, ?_, ?_, ?_⟩, ?_⟩
        · exact digit_join (m.tmod 10) _ (by omega) (by omega) (by have := HA.out; omega) out
        · have := HQ.out; omega
        · have := HQ.out; omega
        · rw [← HL.out, left_step m hm]; simp
        · show (m.tdiv 10).natAbs < m.natAbs
          rw [HQ.out]; omega
end Go.Proofs.YtoofnjccpoeomaaGreatDoor.ctr

namespace Go.Proofs.YtoofnjccpoeomaaGreatDoor.ctr
open Go.RowKit

theorem pow10_eq : Lib.pow10Tab = [1, 10, 100, 1000, 10000, 100000, 1000000, 10000000, 100000000, 1000000000, 10000000000, 100000000000, 1000000000000, 10000000000000, 100000000000000, 1000000000000000, 10000000000000000, 100000000000000000, 1000000000000000000, 10000000000000000000] := by decide
theorem implDecText (n : Int) (w : World) (h0 : -9223372036854775808 ≤ n) (h1 : n ≤ 9223372036854775807)
    (hT : Lib.TabIs Tryz.prog w "internal/strconv.uint64pow10" .u64 Lib.pow10Tab) :
    Calls Tryz.prog 28 #[.int .i64 n] w fun e w' => e = .returned (.string ⟨(Lib.itoa n).toArray⟩) ∧ Below w.heap.size w w' := by
  have HT : Hid (Lib.TabIs Tryz.prog w "internal/strconv.uint64pow10" .u64 Lib.pow10Tab) := hT
  clear hT
  go_enter Tryz.func28, Tryz.ntmps28
  go_wp2_with fail
  refine (Tryz.strconv_Itoa n h0 h1 _ HT.out).mono ?_
  rintro e w1 ⟨rfl, k, os, hw⟩
  have hb : Below w.heap.size w w1 := by rw [hw]; exact below_grown _ _ _
  clear hw
  go_wp2
  go_ret
  exact ⟨rfl, hb⟩
end Go.Proofs.YtoofnjccpoeomaaGreatDoor.ctr

namespace Go.Proofs.YtoofnjccpoeomaaGreatDoor.ctr
open Go.RowKit

abbrev decT (n : Int) : ByteArray := ⟨(Lib.itoa n).toArray⟩
theorem decT_small {n : Int} (h0 : -9223372036854775808 ≤ n) (h1 : n ≤ 9223372036854775807) : (decT n).size ≤ 21 := by
  have h := Lib.itoa_length_le n h0 h1
  show (Lib.itoa n).toArray.size ≤ 21
  simpa using h
theorem monT_small {m : Int} (h1 : 1 ≤ m) (h2 : m ≤ 12) : (monthText m).size ≤ 3 := by rw [month_size h1 h2]; exact Nat.le_refl _
def plusT (b : ByteArray) (k : Int) : ByteArray := if 0 < k then b ++ ⟨#[43]⟩ ++ decT k else b
def whnTx (s : Whn) : ByteArray := if whnB s = true then (if s.kind = 0 then decT s.day ++ ⟨#[32]⟩ ++ monthText s.mon else if s.kind = 1 then romanText s.rom else plusT s.feast s.plus) else ⟨#[]⟩
abbrev PowT (w : World) : Prop := Lib.TabIs Tryz.prog w "internal/strconv.uint64pow10" .u64 Lib.pow10Tab
theorem PowT.later {w w1 : World} (h : PowT w) (hb : Below w.heap.size w w1) : PowT w1 := kit.tab_below h hb (g := 5) (by kernel_rfl)
theorem asDD (v : Value) (w : World) : (Instr.typeAssert (.iface 72 v) 51 72 true).run Tryz.prog w = .ok (.tuple #[v, .bool true]) w := by kernel_rfl
theorem asRD (v : Value) (w : World) : (Instr.typeAssert (.iface 75 v) 51 72 true).run Tryz.prog w = .ok (.tuple #[.agg #[.int .i64 0, .int .i64 0], .bool false]) w := by kernel_rfl
theorem asFD (v : Value) (w : World) : (Instr.typeAssert (.iface 80 v) 51 72 true).run Tryz.prog w = .ok (.tuple #[.agg #[.int .i64 0, .int .i64 0], .bool false]) w := by kernel_rfl
theorem asRR (v : Value) (w : World) : (Instr.typeAssert (.iface 75 v) 51 75 true).run Tryz.prog w = .ok (.tuple #[v, .bool true]) w := by kernel_rfl
theorem asFR (v : Value) (w : World) : (Instr.typeAssert (.iface 80 v) 51 75 true).run Tryz.prog w = .ok (.tuple #[.agg #[.int .i64 0, .int .i64 0, .int .i64 0, .bool false], .bool false]) w := by kernel_rfl
theorem asFF (v : Value) (w : World) : (Instr.typeAssert (.iface 80 v) 51 80 true).run Tryz.prog w = .ok (.tuple #[v, .bool true]) w := by kernel_rfl

set_option maxHeartbeats 2000000 in
theorem implPlusT (b : ByteArray) (k : Int) (w : World) (hb : b.size ≤ 16) (h0 : 0 ≤ k) (h9 : k ≤ 99) (hP : PowT w) : Calls Tryz.prog 47 #[.string b, .int .i64 k] w fun e w' => e = .returned (.string (plusT b k)) ∧ Below w.heap.size w w' := by
  unfold plusT
  by_cases hk : k = 0
  · subst hk
    rw [if_neg (by omega)]
    go_enter Tryz.func47, Tryz.ntmps47
    go_wp2
    go_ret
    exact ⟨rfl, Below.refl _ _⟩
  · have hk' : (k == 0) = false := by simp [hk]
    rw [if_pos (by omega)]
    have KI : Calls Tryz.prog 28 #[.int .i64 k] w fun e w' => e = .returned (.string (decT k)) ∧ Below w.heap.size w w' := implDecText k w (by omega) (by omega) hP
    have hsz2 : (b ++ (⟨#[43]⟩ : ByteArray)).size ≤ 17 := by rw [ByteArray.size_append]; show b.size + 1 ≤ 17; omega
    have hsz3 := decT_small (n := k) (by omega) (by omega)
    generalize decT k = tk at *
    clear hP
    go_enter Tryz.func47, Tryz.ntmps47
    go_wp2_with fail
    refine KI.mono ?_
    rintro e w1 ⟨rfl, hb1⟩
    go_wp2
    go_ret
    exact ⟨rfl, hb1⟩

set_option maxHeartbeats 4000000 in
theorem txDay (m d : Int) (w : World) (m1 : 1 ≤ m) (m2 : m ≤ 12) (d1 : 1 ≤ d) (d2 : d ≤ 31) (hP : PowT w) (hN : Mon w) : Calls Tryz.prog 23 #[.iface 72 (.agg #[.int .i64 m, .int .i64 d])] w fun e w' => e = .returned (.string (decT d ++ ⟨#[32]⟩ ++ monthText m)) ∧ Below w.heap.size w w' := by
  obtain ⟨W0, hW0, hC, hBl⟩ := box_any w #[.int .i64 m, .int .i64 d] 72
  have c0 : ∀ x : Later W0, x.w.cell? ⟨w.heap.size, 0, none⟩ = some (.int .i64 m) := fun x => (hC x).cell 0 rfl
  have c1 : ∀ x : Later W0, x.w.cell? ⟨w.heap.size, 1, none⟩ = some (.int .i64 d) := fun x => (hC x).cell 1 rfl
  have HW0 := hideP hW0
  have HBl := hideP hBl
  have KD : ∀ z : Later W0, Calls Tryz.prog 28 #[.int .i64 d] z.w fun e w' => e = .returned (.string (decT d)) ∧ Below z.w.heap.size z.w w' := fun z => implDecText d z.w (by omega) (by omega) (hP.later (hBl z))
  have KM : ∀ z : Later W0, Calls Tryz.prog 45 #[.int .i64 m] z.w fun e w' => e = .returned (.string (monthText m)) ∧ Below z.w.heap.size z.w w' := fun z => (implMonthName m z.w (hN.later (hBl z))).mono fun _ _ h => ⟨h.1, by first | exact h.2 | (rw [h.2]; exact Below.refl _ _)⟩
  have z1 := decT_small (n := d) (by omega) (by omega)
  have z2 := monT_small m1 m2
  have q1 := asDD
  clear hW0 hC hBl hP hN m1 m2 d1 d2
  generalize decT d = td at *
  generalize monthText m = tm at *
  have s1 : (td ++ (⟨#[32]⟩ : ByteArray)).size ≤ 22 := by rw [ByteArray.size_append]; show _ + 1 ≤ 22; omega
  have s2 : (td ++ (⟨#[32]⟩ : ByteArray) ++ tm).size ≤ 25 := by rw [ByteArray.size_append]; omega
  go_enter Tryz.func23, Tryz.ntmps23
  go_wp2_with fail
  rw [← HW0.out]
  refine wp_region_later (W := W0) (Below.refl _ _) (by kernel_rfl) (by kernel_rfl) ?_
  repeat (go_big_quiet_step (first | (go_at_call 28; exact calls_later (KD _)) | (go_at_call 45; exact calls_later (KM _)) | fail))
  refine wpQuiet_nil ?_
  intro _ hw'
  obtain ⟨x1, rfl⟩ := hw'
  go_wp2
  go_ret
  exact ⟨rfl, HBl.out x1⟩

set_option maxHeartbeats 4000000 in
theorem txRom (a b c : Int) (t : Bool) (w : World) (hT : Tab w) (hS : Shp w) (hM : Mrk w) (hN : Mon w) : Calls Tryz.prog 23 #[.iface 75 (.agg #[.int .i64 a, .int .i64 b, .int .i64 c, .bool t])] w fun e w' => e = .returned (.string (romanText ⟨a, b, c, t⟩)) ∧ Below w.heap.size w w' := by
  have K : ∀ W, Below w.heap.size w W → Calls Tryz.prog 46 #[.agg #[.int .i64 a, .int .i64 b, .int .i64 c, .bool t]] W fun e w' => e = .returned (.string (romanText ⟨a, b, c, t⟩)) ∧ Below W.heap.size W w' := fun W hb => implRomanText ⟨a, b, c, t⟩ W (hT.later hb) (hS.later hb) (hM.later hb) (hN.later hb)
  have q1 := asRD
  have q2 := asRR
  generalize romanText ⟨a, b, c, t⟩ = rt at *
  clear hT hS hM hN
  have B1 : Below w.heap.size w (w.alloc (.cells #[.int .i64 0, .int .i64 0] 72)) := (Below.refl _ _).alloc (Nat.le_refl _) _
  have B2 := B1.alloc B1.size (.cells #[.int .i64 a, .int .i64 b, .int .i64 c, .bool t] 75)
  go_enter Tryz.func23, Tryz.ntmps23
  go_wp2_with fail
  refine (K _ B2).mono ?_
  rintro e w1 ⟨rfl, hb⟩
  have B3 : Below w.heap.size w w1 := B2.trans (hb.mono B2.size)
  clear hb
  go_wp2
  go_ret
  exact ⟨rfl, B3⟩

set_option maxHeartbeats 4000000 in
theorem txFea (n : ByteArray) (mv : Bool) (o x y p : Int) (w : World) (hn : n.size ≤ 16) (p1 : 0 ≤ p) (p2 : p ≤ 99) (hP : PowT w) : Calls Tryz.prog 23 #[.iface 80 (.agg #[.string n, .bool mv, .int .i64 o, .int .i64 x, .int .i64 y, .int .i64 p])] w fun e w' => e = .returned (.string (plusT n p)) ∧ Below w.heap.size w w' := by
  have K : ∀ W, Below w.heap.size w W → Calls Tryz.prog 47 #[.string n, .int .i64 p] W fun e w' => e = .returned (.string (plusT n p)) ∧ Below W.heap.size W w' := fun W hb => implPlusT n p W hn p1 p2 (hP.later hb)
  have q1 := asFD
  have q2 := asFR
  have q3 := asFF
  generalize plusT n p = rt at *
  clear hP
  have B1 : Below w.heap.size w (w.alloc (.cells #[.int .i64 0, .int .i64 0] 72)) := (Below.refl _ _).alloc (Nat.le_refl _) _
  have B2 := B1.alloc B1.size (.cells #[.int .i64 0, .int .i64 0, .int .i64 0, .bool false] 75)
  have B3 := B2.alloc B2.size (.cells #[.string n, .bool mv, .int .i64 o, .int .i64 x, .int .i64 y, .int .i64 p] 80)
  go_enter Tryz.func23, Tryz.ntmps23
  go_wp2_with fail
  refine (K _ B3).mono ?_
  rintro e w1 ⟨rfl, hb⟩
  have B4 : Below w.heap.size w w1 := B3.trans (hb.mono B3.size)
  clear hb
  go_wp2
  go_ret
  exact ⟨rfl, B4⟩
end Go.Proofs.YtoofnjccpoeomaaGreatDoor.ctr

namespace Go.Proofs.YtoofnjccpoeomaaGreatDoor.ctr
open Go.RowKit

theorem findFrom_name (s : ByteArray) : ∀ (l : List Fea) (k : Nat), 0 ≤ findFrom s l k → ∃ j, findFrom s l k = ((k + j : Nat) : Int) ∧ (l.getD j fea0).name = s
  | [], k, h => by unfold findFrom at h; omega
  | f :: l, k, h => by
    unfold findFrom at h ⊢
    by_cases e : f.name = s
    · rw [if_pos e]
      exact ⟨0, rfl, e⟩
    · rw [if_neg e] at h ⊢
      obtain ⟨j, h1, h2⟩ := findFrom_name s l (k + 1) h
      exact ⟨j + 1, by rw [h1]; omega, h2⟩
theorem find_name {s : ByteArray} (h : 0 ≤ findFeast s) : (feaAt (findFeast s).toNat).name = s := by
  obtain ⟨j, h1, h2⟩ := findFrom_name s feasts 0 h
  have e : findFeast s = ((0 + j : Nat) : Int) := h1
  rw [e, Int.toNat_natCast, Nat.zero_add]
  exact h2
theorem feaOf_name {f : ByteArray} (h : 0 ≤ findFeast f) : (feaOf f).name = f := by
  unfold feaOf
  rw [if_neg (by omega)]
  exact find_name h

theorem whn_cases {k m d a b c : Int} {t : Bool} {f : ByteArray} {p : Int} (h : whnB ⟨k, m, d, ⟨a, b, c, t⟩, f, p⟩ = true) :
    (k = 0 ∧ a = 0 ∧ b = 0 ∧ c = 0 ∧ t = false ∧ f = ⟨#[]⟩ ∧ p = 0 ∧ 1 ≤ m ∧ m ≤ 12 ∧ 1 ≤ d ∧ d ≤ 31) ∨ (k = 1 ∧ m = 0 ∧ d = 0 ∧ f = ⟨#[]⟩ ∧ p = 0 ∧ romB ⟨a, b, c, t⟩ = true) ∨ (k = 2 ∧ m = 0 ∧ d = 0 ∧ a = 0 ∧ b = 0 ∧ c = 0 ∧ t = false ∧ 0 ≤ findFeast f ∧ 0 ≤ p ∧ p ≤ 99) := by
  by_cases h0 : k = 0
  · subst h0
    rw [whnB_0] at h
    simp [inB] at h
    refine .inl ⟨rfl, ?_⟩
    obtain ⟨⟨⟨ha, hb, hc, ht⟩, hf, hp⟩, ⟨m1, m2⟩, d1, d2⟩ := h
    exact ⟨ha, hb, hc, ht, toList_nil hf, hp, m1, m2, d1, d2⟩
  by_cases h1 : k = 1
  · subst h1
    rw [whnB_1] at h
    simp at h
    refine .inr (.inl ⟨rfl, ?_⟩)
    obtain ⟨⟨⟨hm, hd⟩, hf, hp⟩, hr⟩ := h
    exact ⟨hm, hd, toList_nil hf, hp, hr⟩
  by_cases h2 : k = 2
  · subst h2
    rw [whnB_2] at h
    simp [inB] at h
    refine .inr (.inr ⟨rfl, ?_⟩)
    obtain ⟨⟨⟨hm, hd⟩, ha, hb, hc, ht⟩, hz, p1, p2⟩ := h
    exact ⟨hm, hd, ha, hb, hc, ht, hz, p1, p2⟩
  rw [whnB_no h0 h1 h2] at h
  cases h

set_option maxHeartbeats 4000000 in
theorem implWhenText (s : Whn) (w : World) (hT : Tab w) (hS : Shp w) (hM : Mrk w) (hN : Mon w) (hP : PowT w) : Calls Tryz.prog 9 #[whnV s] w fun e w' => e = .returned (.string (whnTx s)) ∧ Below w.heap.size w w' := by
  obtain ⟨k, m, d, ⟨a, b, c, t⟩, f, p⟩ := s
  obtain ⟨W0, hW0, hC, hBl⟩ := box_any w #[.int .i64 k, .int .i64 m, .int .i64 d, .int .i64 a, .int .i64 b, .int .i64 c, .bool t, .string f, .int .i64 p] 30
  have c0 : ∀ x : Later W0, x.w.cell? ⟨w.heap.size, 0, none⟩ = some (.int .i64 k) := fun x => (hC x).cell 0 rfl
  have c1 : ∀ x : Later W0, x.w.cell? ⟨w.heap.size, 1, none⟩ = some (.int .i64 m) := fun x => (hC x).cell 1 rfl
  have c2 : ∀ x : Later W0, x.w.cell? ⟨w.heap.size, 2, none⟩ = some (.int .i64 d) := fun x => (hC x).cell 2 rfl
  have c3 : ∀ x : Later W0, x.w.cell? ⟨w.heap.size, 3, none⟩ = some (.int .i64 a) := fun x => (hC x).cell 3 rfl
  have c4 : ∀ x : Later W0, x.w.cell? ⟨w.heap.size, 4, none⟩ = some (.int .i64 b) := fun x => (hC x).cell 4 rfl
  have c5 : ∀ x : Later W0, x.w.cell? ⟨w.heap.size, 5, none⟩ = some (.int .i64 c) := fun x => (hC x).cell 5 rfl
  have c6 : ∀ x : Later W0, x.w.cell? ⟨w.heap.size, 6, none⟩ = some (.bool t) := fun x => (hC x).cell 6 rfl
  have c7 : ∀ x : Later W0, x.w.cell? ⟨w.heap.size, 7, none⟩ = some (.string f) := fun x => (hC x).cell 7 rfl
  have c8 : ∀ x : Later W0, x.w.cell? ⟨w.heap.size, 8, none⟩ = some (.int .i64 p) := fun x => (hC x).cell 8 rfl
  have HW0 := hideP hW0
  have HBl := hideP hBl
  have KO : ∀ x : Later W0, Calls Tryz.prog 22 #[.agg #[.int .i64 k, .int .i64 m, .int .i64 d, .int .i64 a, .int .i64 b, .int .i64 c, .bool t, .string f, .int .i64 p]] x.w fun e w' => e = .returned (.bool (whnB ⟨k, m, d, ⟨a, b, c, t⟩, f, p⟩)) ∧ Below x.w.heap.size x.w w' := fun x => implWhenOk ⟨k, m, d, ⟨a, b, c, t⟩, f, p⟩ x.w (hT.later (hBl x))
  have HK : whnB ⟨k, m, d, ⟨a, b, c, t⟩, f, p⟩ = true → ∃ v, (∀ W, Calls Tryz.prog 24 #[.agg #[.int .i64 k, .int .i64 m, .int .i64 d, .int .i64 a, .int .i64 b, .int .i64 c, .bool t, .string f, .int .i64 p]] W fun e w' => e = .returned v ∧ Below W.heap.size W w') ∧ ∀ W, Below w.heap.size w W → Calls Tryz.prog 23 #[v] W fun e w' => e = .returned (.string (whnTx ⟨k, m, d, ⟨a, b, c, t⟩, f, p⟩)) ∧ Below W.heap.size W w' := fun h => by
    have e := whn_cases h
    rcases e with ⟨rfl, rfl, rfl, rfl, rfl, rfl, rfl, m1, m2, d1, d2⟩ | ⟨rfl, rfl, rfl, rfl, rfl, _⟩ | ⟨rfl, rfl, rfl, rfl, rfl, rfl, rfl, hz, p1, p2⟩
    · refine ⟨_, fun W => kindDay m d W, fun W hb => ?_⟩
      unfold whnTx
      rw [if_pos h, if_pos rfl]
      exact txDay m d W m1 m2 d1 d2 (hP.later hb) (hN.later hb)
    · refine ⟨_, fun W => kindRom a b c t W, fun W hb => ?_⟩
      unfold whnTx
      rw [if_pos h, if_neg (show ¬ (1 : Int) = 0 by omega), if_pos rfl]
      exact txRom a b c t W (hT.later hb) (hS.later hb) (hM.later hb) (hN.later hb)
    · refine ⟨_, fun W => kindFea f p W, fun W hb => ?_⟩
      unfold whnTx
      rw [if_pos h, if_neg (show ¬ (2 : Int) = 0 by omega), if_neg (show ¬ (2 : Int) = 1 by omega)]
      have := txFea (feaOf f).name (feaOf f).mv (feaOf f).off (feaOf f).m (feaOf f).d p W (feaOf_len f) p1 p2 (hP.later hb)
      rw [feaOf_name hz] at this
      rw [feaOf_name hz]
      exact this
  have HX : whnB ⟨k, m, d, ⟨a, b, c, t⟩, f, p⟩ = false → whnTx ⟨k, m, d, ⟨a, b, c, t⟩, f, p⟩ = ⟨#[]⟩ := fun h => by unfold whnTx; rw [h]; rfl
  generalize whnTx ⟨k, m, d, ⟨a, b, c, t⟩, f, p⟩ = tx at *
  generalize whnB ⟨k, m, d, ⟨a, b, c, t⟩, f, p⟩ = B at *
  clear hW0 hC hBl hT hS hM hN hP
  cases B
  · rw [HX rfl]
    clear HK HX
    go_enter Tryz.func9, Tryz.ntmps9
    go_wp2_with fail
    rw [← HW0.out]
    refine (KO ⟨W0, Below.refl _ _⟩).mono ?_
    rintro e w1 ⟨rfl, hb⟩
    obtain ⟨x1, rfl⟩ := Later.of hb
    clear hb
    go_wp2
    go_ret
    exact ⟨rfl, HBl.out x1⟩
  obtain ⟨v, K1, K2⟩ := HK rfl
  clear HX HK
  go_enter Tryz.func9, Tryz.ntmps9
  go_wp2_with fail
  rw [← HW0.out]
  refine (KO ⟨W0, Below.refl _ _⟩).mono ?_
  rintro e w1 ⟨rfl, hb⟩
  obtain ⟨x1, rfl⟩ := Later.of hb
  clear hb
  go_wp2_with fail
  refine (K1 _).mono ?_
  rintro e w2 ⟨rfl, hb⟩
  obtain ⟨x2, rfl⟩ := x1.next hb
  clear hb
  go_wp2_with fail
  refine (K2 _ (HBl.out x2)).mono ?_
  rintro e w3 ⟨rfl, hb⟩
  obtain ⟨x3, rfl⟩ := x2.next hb
  clear hb
  go_wp2
  go_ret
  exact ⟨rfl, HBl.out x3⟩

set_option maxRecDepth 100000 in
set_option maxHeartbeats 4000000 in
theorem specWhenText (s : Whn) (w : World) : Calls Tryz.prog 7 #[whnV s] w fun e w' => e = .returned (.string (whnTx s)) ∧ Below w.heap.size w w' := by
  obtain ⟨k, m, d, ⟨a, b, c, t⟩, f, p⟩ := s
  obtain ⟨W0, hW0, hC, hBl⟩ := box_any w #[.int .i64 k, .int .i64 m, .int .i64 d, .int .i64 a, .int .i64 b, .int .i64 c, .bool t, .string f, .int .i64 p] 30
  have c0 : ∀ x : Later W0, x.w.cell? ⟨w.heap.size, 0, none⟩ = some (.int .i64 k) := fun x => (hC x).cell 0 rfl
  have c1 : ∀ x : Later W0, x.w.cell? ⟨w.heap.size, 1, none⟩ = some (.int .i64 m) := fun x => (hC x).cell 1 rfl
  have c2 : ∀ x : Later W0, x.w.cell? ⟨w.heap.size, 2, none⟩ = some (.int .i64 d) := fun x => (hC x).cell 2 rfl
  have c3 : ∀ x : Later W0, x.w.cell? ⟨w.heap.size, 3, none⟩ = some (.int .i64 a) := fun x => (hC x).cell 3 rfl
  have c4 : ∀ x : Later W0, x.w.cell? ⟨w.heap.size, 4, none⟩ = some (.int .i64 b) := fun x => (hC x).cell 4 rfl
  have c5 : ∀ x : Later W0, x.w.cell? ⟨w.heap.size, 5, none⟩ = some (.int .i64 c) := fun x => (hC x).cell 5 rfl
  have c6 : ∀ x : Later W0, x.w.cell? ⟨w.heap.size, 6, none⟩ = some (.bool t) := fun x => (hC x).cell 6 rfl
  have c7 : ∀ x : Later W0, x.w.cell? ⟨w.heap.size, 7, none⟩ = some (.string f) := fun x => (hC x).cell 7 rfl
  have c8 : ∀ x : Later W0, x.w.cell? ⟨w.heap.size, 8, none⟩ = some (.int .i64 p) := fun x => (hC x).cell 8 rfl
  have HW0 := hideP hW0
  have HBl := hideP hBl
  have KO : ∀ x : Later W0, Calls Tryz.prog 17 #[.agg #[.int .i64 k, .int .i64 m, .int .i64 d, .int .i64 a, .int .i64 b, .int .i64 c, .bool t, .string f, .int .i64 p]] x.w fun e w' => e = .returned (.bool (whnB ⟨k, m, d, ⟨a, b, c, t⟩, f, p⟩)) ∧ Below x.w.heap.size x.w w' := fun x => specWhenOk ⟨k, m, d, ⟨a, b, c, t⟩, f, p⟩ x.w
  clear hW0 hC hBl
  cases hB : whnB ⟨k, m, d, ⟨a, b, c, t⟩, f, p⟩
  · rw [show whnTx ⟨k, m, d, ⟨a, b, c, t⟩, f, p⟩ = ⟨#[]⟩ by unfold whnTx; rw [hB]; rfl]
    rw [hB] at KO
    clear hB
    go_enter Tryz.func7, Tryz.ntmps7
    go_wp2_with fail
    rw [← HW0.out]
    refine (KO ⟨W0, Below.refl _ _⟩).mono ?_
    rintro e w1 ⟨rfl, hb⟩
    obtain ⟨x1, rfl⟩ := Later.of hb
    clear hb
    go_wp2
    go_ret
    exact ⟨rfl, HBl.out x1⟩
  rw [hB] at KO
  rcases whn_cases hB with ⟨rfl, rfl, rfl, rfl, rfl, rfl, rfl, m1, m2, d1, d2⟩ | ⟨rfl, rfl, rfl, rfl, rfl, _⟩ | ⟨rfl, rfl, rfl, rfl, rfl, rfl, rfl, hz, p1, p2⟩
  · rw [show whnTx ⟨0, m, d, ⟨0, 0, 0, false⟩, ⟨#[]⟩, 0⟩ = decT d ++ ⟨#[32]⟩ ++ monthText m by unfold whnTx; rw [if_pos hB, if_pos rfl]]
    have KD : ∀ z : Later W0, Calls Tryz.prog 18 #[.int .i64 d] z.w fun e w' => e = .returned (.string (decT d)) ∧ Below z.w.heap.size z.w w' := fun z => (specDecText d z.w (by omega) (by omega)).mono fun _ _ h => ⟨h.1, by rw [h.2]; exact Below.refl _ _⟩
    have KM : ∀ z : Later W0, Calls Tryz.prog 19 #[.int .i64 m] z.w fun e w' => e = .returned (.string (monthText m)) ∧ Below z.w.heap.size z.w w' := fun z => specMonthName m z.w
    have z1 := decT_small (n := d) (by omega) (by omega)
    have z2 := monT_small m1 m2
    clear hB m1 m2 d1 d2
    generalize decT d = td at *
    generalize monthText m = tm at *
    have s1 : (td ++ (⟨#[32]⟩ : ByteArray)).size ≤ 22 := by rw [ByteArray.size_append]; show _ + 1 ≤ 22; omega
    have s2 : (td ++ (⟨#[32]⟩ : ByteArray) ++ tm).size ≤ 25 := by rw [ByteArray.size_append]; omega
    go_enter Tryz.func7, Tryz.ntmps7
    go_wp2_with fail
    rw [← HW0.out]
    refine (KO ⟨W0, Below.refl _ _⟩).mono ?_
    rintro e w1 ⟨rfl, hb⟩
    obtain ⟨x1, rfl⟩ := Later.of hb
    clear hb KO
    go_wp2_with fail
    refine wp_region_later (W := W0) x1.below (by kernel_rfl) (by kernel_rfl) ?_
    repeat (go_big_quiet_step (first | (go_at_call 18; exact calls_later (KD _)) | (go_at_call 19; exact calls_later (KM _)) | fail))
    refine wpQuiet_nil ?_
    intro _ hw'
    obtain ⟨x2, rfl⟩ := hw'
    go_wp2
    go_ret
    exact ⟨rfl, HBl.out x2⟩
  · rw [show whnTx ⟨1, 0, 0, ⟨a, b, c, t⟩, ⟨#[]⟩, 0⟩ = romanText ⟨a, b, c, t⟩ by unfold whnTx; rw [if_pos hB, if_neg (show ¬ (1 : Int) = 0 by omega), if_pos rfl]]
    have KR : ∀ W, Calls Tryz.prog 20 #[.agg #[.int .i64 a, .int .i64 b, .int .i64 c, .bool t]] W fun e w' => e = .returned (.string (romanText ⟨a, b, c, t⟩)) ∧ Below W.heap.size W w' := fun W => specRomanText ⟨a, b, c, t⟩ W
    clear hB
    generalize romanText ⟨a, b, c, t⟩ = rt at *
    go_enter Tryz.func7, Tryz.ntmps7
    go_wp2_with fail
    rw [← HW0.out]
    refine (KO ⟨W0, Below.refl _ _⟩).mono ?_
    rintro e w1 ⟨rfl, hb⟩
    obtain ⟨x1, rfl⟩ := Later.of hb
    clear hb KO
    go_wp2_with fail
    refine (KR _).mono ?_
    rintro e w2 ⟨rfl, hb⟩
    obtain ⟨x2, rfl⟩ := x1.next hb
    clear hb
    go_wp2
    go_ret
    exact ⟨rfl, HBl.out x2⟩
  · rw [show whnTx ⟨2, 0, 0, ⟨0, 0, 0, false⟩, f, p⟩ = plusT f p by unfold whnTx; rw [if_pos hB, if_neg (show ¬ (2 : Int) = 0 by omega), if_neg (show ¬ (2 : Int) = 1 by omega)]]
    have hf : f.size ≤ 16 := by have := feaOf_len f; rw [feaOf_name hz] at this; exact this
    clear hB hz
    unfold plusT
    by_cases hp : 0 < p
    case neg =>
      rw [if_neg hp]
      go_enter Tryz.func7, Tryz.ntmps7
      go_wp2_with fail
      rw [← HW0.out]
      refine (KO ⟨W0, Below.refl _ _⟩).mono ?_
      rintro e w1 ⟨rfl, hb⟩
      obtain ⟨x1, rfl⟩ := Later.of hb
      clear hb KO
      go_wp2
      go_ret
      exact ⟨rfl, HBl.out x1⟩
    rw [if_pos hp]
    have KD : ∀ z : Later W0, Calls Tryz.prog 18 #[.int .i64 p] z.w fun e w' => e = .returned (.string (decT p)) ∧ Below z.w.heap.size z.w w' := fun z => (specDecText p z.w (by omega) (by omega)).mono fun _ _ h => ⟨h.1, by rw [h.2]; exact Below.refl _ _⟩
    have z1 := decT_small (n := p) (by omega) (by omega)
    generalize decT p = td at *
    have s1 : (f ++ (⟨#[43]⟩ : ByteArray)).size ≤ 17 := by rw [ByteArray.size_append]; show _ + 1 ≤ 17; omega
    have s2 : (f ++ (⟨#[43]⟩ : ByteArray) ++ td).size ≤ 38 := by rw [ByteArray.size_append]; omega
    go_enter Tryz.func7, Tryz.ntmps7
    go_wp2_with fail
    rw [← HW0.out]
    refine (KO ⟨W0, Below.refl _ _⟩).mono ?_
    rintro e w1 ⟨rfl, hb⟩
    obtain ⟨x1, rfl⟩ := Later.of hb
    clear hb KO
    go_wp2_with fail
    refine wp_region_later (W := W0) x1.below (by kernel_rfl) (by kernel_rfl) ?_
    repeat (go_big_quiet_step (first | (go_at_call 18; exact calls_later (KD _)) | fail))
    refine wpQuiet_nil ?_
    intro _ hw'
    obtain ⟨x2, rfl⟩ := hw'
    go_wp2
    go_ret
    exact ⟨rfl, HBl.out x2⟩
end Go.Proofs.YtoofnjccpoeomaaGreatDoor.ctr

namespace Go.Proofs.YtoofnjccpoeomaaGreatDoor.ctr
open Go.RowKit

def sayTx (s : Say) : ByteArray := if sayB s = true then (let t1 := whnTx s.whn ++ ⟨#[32]⟩ ++ decT s.year; let t2 := if s.sol = -1 then t1 else t1 ++ (⟨#[47]⟩ ++ decT s.sol); if s.cal = -1 then t2 else t2 ++ (⟨#[32]⟩ ++ calText s.cal)) else ⟨#[]⟩
theorem sayTx_no {s : Say} (h : sayB s = false) : sayTx s = ⟨#[]⟩ := by unfold sayTx; rw [h]; rfl
theorem sayTx_yes {s : Say} (h : sayB s = true) : sayTx s = (let t1 := whnTx s.whn ++ ⟨#[32]⟩ ++ decT s.year; let t2 := if s.sol = -1 then t1 else t1 ++ (⟨#[47]⟩ ++ decT s.sol); if s.cal = -1 then t2 else t2 ++ (⟨#[32]⟩ ++ calText s.cal)) := by unfold sayTx; rw [if_pos h]
theorem app_size (a b : ByteArray) (n m : Nat) (h1 : a.size ≤ n) (h2 : b.size ≤ m) : (a ++ b).size ≤ n + m := by rw [ByteArray.size_append]; omega
theorem whnTx_size (s : Whn) : (whnTx s).size ≤ 60 := by
  unfold whnTx
  by_cases h : whnB s = true
  · rw [if_pos h]
    obtain ⟨k, m, d, ⟨a, b, c, t⟩, f, p⟩ := s
    rcases whn_cases h with ⟨rfl, rfl, rfl, rfl, rfl, rfl, rfl, m1, m2, d1, d2⟩ | ⟨rfl, rfl, rfl, rfl, rfl, _⟩ | ⟨rfl, rfl, rfl, rfl, rfl, rfl, rfl, hz, p1, p2⟩
    · rw [if_pos rfl]
      have := app_size (decT d ++ ⟨#[32]⟩) (monthText m) 22 3 (app_size (decT d) ⟨#[32]⟩ 21 1 (decT_small (by omega) (by omega)) (Nat.le_refl 1)) (monT_small m1 m2)
      exact Nat.le_trans this (by omega)
    · rw [if_neg (show ¬ (1 : Int) = 0 by omega), if_pos rfl]
      exact Nat.le_trans (text_size _) (by omega)
    · rw [if_neg (show ¬ (2 : Int) = 0 by omega), if_neg (show ¬ (2 : Int) = 1 by omega)]
      have hf : f.size ≤ 16 := by have := feaOf_len f; rw [feaOf_name hz] at this; exact this
      show (plusT f p).size ≤ 60
      unfold plusT
      split
      · exact Nat.le_trans (app_size (f ++ ⟨#[43]⟩) (decT p) 17 21 (app_size f ⟨#[43]⟩ 16 1 hf (Nat.le_refl 1)) (decT_small (by omega) (by omega))) (by omega)
      · omega
  · rw [if_neg h]
    decide
theorem say_parts {k m d a b c : Int} {t : Bool} {f : ByteArray} {p y so ca : Int} (h : sayB ⟨⟨k, m, d, ⟨a, b, c, t⟩, f, p⟩, y, so, ca⟩ = true) : 1 ≤ y ∧ y ≤ 3000 ∧ (so = -1 ∨ (1 ≤ so ∧ so ≤ 3000)) ∧ (ca = -1 ∨ ca = 0 ∨ ca = 1) := by
  unfold sayB at h
  simp [inB] at h
  obtain ⟨_, ⟨y1, y2⟩, h3, h4⟩ := h
  refine ⟨y1, y2, ?_, ?_⟩
  · rcases h3 with h3 | h3
    · exact .inl h3
    · exact .inr h3
  · rcases h4 with h4 | h4
    · exact .inl h4
    · exact .inr (by rcases Classical.em (ca = 0 ∨ ca = 1) with q | q; exact q; rw [calB_no (by omega)] at h4; cases h4)
theorem cal_size {c : Int} (h : c = 0 ∨ c = 1) : (calText c).size ≤ 3 := by rcases h with rfl | rfl <;> decide

set_option maxRecDepth 100000 in
set_option maxHeartbeats 8000000 in
theorem implSayingText (s : Say) (w : World) (hT : Tab w) (hS : Shp w) (hM : Mrk w) (hN : Mon w) (hP : PowT w) : Calls Tryz.prog 13 #[sayV s] w fun e w' => e = .returned (.string (sayTx s)) ∧ Below w.heap.size w w' := by
  obtain ⟨⟨k, m, d, ⟨a, b, c, t⟩, f, p⟩, y, so, ca⟩ := s
  obtain ⟨W0, hW0, hC, hBl⟩ := box_any w #[.int .i64 k, .int .i64 m, .int .i64 d, .int .i64 a, .int .i64 b, .int .i64 c, .bool t, .string f, .int .i64 p, .int .i64 y, .int .i64 so, .int .i64 ca] 38
  have c0 : ∀ x : Later W0, x.w.cell? ⟨w.heap.size, 0, none⟩ = some (.int .i64 k) := fun x => (hC x).cell 0 rfl
  have c1 : ∀ x : Later W0, x.w.cell? ⟨w.heap.size, 1, none⟩ = some (.int .i64 m) := fun x => (hC x).cell 1 rfl
  have c2 : ∀ x : Later W0, x.w.cell? ⟨w.heap.size, 2, none⟩ = some (.int .i64 d) := fun x => (hC x).cell 2 rfl
  have c3 : ∀ x : Later W0, x.w.cell? ⟨w.heap.size, 3, none⟩ = some (.int .i64 a) := fun x => (hC x).cell 3 rfl
  have c4 : ∀ x : Later W0, x.w.cell? ⟨w.heap.size, 4, none⟩ = some (.int .i64 b) := fun x => (hC x).cell 4 rfl
  have c5 : ∀ x : Later W0, x.w.cell? ⟨w.heap.size, 5, none⟩ = some (.int .i64 c) := fun x => (hC x).cell 5 rfl
  have c6 : ∀ x : Later W0, x.w.cell? ⟨w.heap.size, 6, none⟩ = some (.bool t) := fun x => (hC x).cell 6 rfl
  have c7 : ∀ x : Later W0, x.w.cell? ⟨w.heap.size, 7, none⟩ = some (.string f) := fun x => (hC x).cell 7 rfl
  have c8 : ∀ x : Later W0, x.w.cell? ⟨w.heap.size, 8, none⟩ = some (.int .i64 p) := fun x => (hC x).cell 8 rfl
  have c9 : ∀ x : Later W0, x.w.cell? ⟨w.heap.size, 9, none⟩ = some (.int .i64 y) := fun x => (hC x).cell 9 rfl
  have c10 : ∀ x : Later W0, x.w.cell? ⟨w.heap.size, 10, none⟩ = some (.int .i64 so) := fun x => (hC x).cell 10 rfl
  have c11 : ∀ x : Later W0, x.w.cell? ⟨w.heap.size, 11, none⟩ = some (.int .i64 ca) := fun x => (hC x).cell 11 rfl
  have HW0 := hideP hW0
  have HBl := hideP hBl
  have KO : ∀ x : Later W0, Calls Tryz.prog 27 #[.agg #[.int .i64 k, .int .i64 m, .int .i64 d, .int .i64 a, .int .i64 b, .int .i64 c, .bool t, .string f, .int .i64 p, .int .i64 y, .int .i64 so, .int .i64 ca]] x.w fun e w' => e = .returned (.bool (sayB ⟨⟨k, m, d, ⟨a, b, c, t⟩, f, p⟩, y, so, ca⟩)) ∧ Below x.w.heap.size x.w w' := fun x => implSayingOk ⟨⟨k, m, d, ⟨a, b, c, t⟩, f, p⟩, y, so, ca⟩ x.w (hT.later (hBl x))
  have KW : ∀ x : Later W0, Calls Tryz.prog 9 #[.agg #[.int .i64 k, .int .i64 m, .int .i64 d, .int .i64 a, .int .i64 b, .int .i64 c, .bool t, .string f, .int .i64 p]] x.w fun e w' => e = .returned (.string (whnTx ⟨k, m, d, ⟨a, b, c, t⟩, f, p⟩)) ∧ Below x.w.heap.size x.w w' := fun x => implWhenText ⟨k, m, d, ⟨a, b, c, t⟩, f, p⟩ x.w (hT.later (hBl x)) (hS.later (hBl x)) (hM.later (hBl x)) (hN.later (hBl x)) (hP.later (hBl x))
  cases hB : sayB ⟨⟨k, m, d, ⟨a, b, c, t⟩, f, p⟩, y, so, ca⟩
  · rw [sayTx_no hB]
    rw [hB] at KO
    clear hW0 hC hBl hB hT hS hM hN hP
    go_enter Tryz.func13, Tryz.ntmps13
    go_wp2_with fail
    rw [← HW0.out]
    refine (KO ⟨W0, Below.refl _ _⟩).mono ?_
    rintro e w1 ⟨rfl, hb⟩
    obtain ⟨x1, rfl⟩ := Later.of hb
    clear hb
    go_wp2
    go_ret
    exact ⟨rfl, HBl.out x1⟩
  rw [sayTx_yes hB]
  rw [hB] at KO
  obtain ⟨y1, y2, hso, hca⟩ := say_parts hB
  have KD : ∀ x : Later W0, Calls Tryz.prog 28 #[.int .i64 y] x.w fun e w' => e = .returned (.string (decT y)) ∧ Below x.w.heap.size x.w w' := fun x => implDecText y x.w (by omega) (by omega) (hP.later (hBl x))
  have KQ : ∀ x : Later W0, Calls Tryz.prog 28 #[.int .i64 so] x.w fun e w' => e = .returned (.string (decT so)) ∧ Below x.w.heap.size x.w w' := fun x => implDecText so x.w (by omega) (by omega) (hP.later (hBl x))
  have KN : ∀ W, Calls Tryz.prog 29 #[.int .i64 ca] W fun e w' => e = .returned (.string (calText ca)) ∧ w' = W := fun W => implCalName ca W
  have z1 := whnTx_size ⟨k, m, d, ⟨a, b, c, t⟩, f, p⟩
  have z2 := decT_small (n := y) (by omega) (by omega)
  have z3 := decT_small (n := so) (by omega) (by omega)
  have z4 : ca = -1 ∨ (ca ≠ -1 ∧ (calText ca).size ≤ 3) := by rcases hca with h | h; exact .inl h; exact .inr ⟨by omega, cal_size h⟩
  clear hW0 hC hBl hB y1 y2 hca hT hS hM hN hP
  simp only []

  generalize whnTx ⟨k, m, d, ⟨a, b, c, t⟩, f, p⟩ = tw at *
  generalize decT y = ty at *
  generalize decT so = ts at *
  generalize calText ca = tc at *
  have s1 : (tw ++ (⟨#[32]⟩ : ByteArray)).size ≤ 61 := app_size _ _ 60 1 z1 (Nat.le_refl 1)
  have s2 : (tw ++ (⟨#[32]⟩ : ByteArray) ++ ty).size ≤ 82 := app_size _ _ 61 21 s1 z2
  rcases hso with rfl | hso
  · rw [if_pos rfl]
    rcases z4 with rfl | ⟨cn, z4⟩
    · rw [if_pos rfl]
      clear KN KQ
      go_enter Tryz.func13, Tryz.ntmps13
      go_wp2_with fail
      rw [← HW0.out]
      refine (KO ⟨W0, Below.refl _ _⟩).mono ?_
      rintro e w1 ⟨rfl, hb⟩
      obtain ⟨x1, rfl⟩ := Later.of hb
      clear hb
      go_wp2_with fail
      refine wp_region_later (W := W0) x1.below (by kernel_rfl) (by kernel_rfl) ?_
      repeat (go_big_quiet_step (first | (go_at_call 9; exact calls_later (KW _)) | (go_at_call 28; exact calls_later (KD _)) | fail))
      refine wpQuiet_nil ?_
      intro _ hw'
      obtain ⟨x2, rfl⟩ := hw'
      clear KO KW KD
      go_wp2
      go_ret
      exact ⟨rfl, HBl.out x2⟩
    rw [if_neg cn]
    have e2 : (ca == -1) = false := by simpa using cn
    go_enter Tryz.func13, Tryz.ntmps13
    go_wp2_with fail
    rw [← HW0.out]
    refine (KO ⟨W0, Below.refl _ _⟩).mono ?_
    rintro e w1 ⟨rfl, hb⟩
    obtain ⟨x1, rfl⟩ := Later.of hb
    clear hb
    go_wp2_with fail
    refine wp_region_later (W := W0) x1.below (by kernel_rfl) (by kernel_rfl) ?_
    repeat (go_big_quiet_step (first | (go_at_call 9; exact calls_later (KW _)) | (go_at_call 28; exact calls_later (KD _)) | fail))
    refine wpQuiet_nil ?_
    intro _ hw'
    obtain ⟨x2, rfl⟩ := hw'
    clear KO KW KD
    have s6 : ((⟨#[32]⟩ : ByteArray) ++ tc).size ≤ 4 := app_size _ _ 1 3 (Nat.le_refl 1) z4
    have s7 : ((tw ++ (⟨#[32]⟩ : ByteArray) ++ ty) ++ ((⟨#[32]⟩ : ByteArray) ++ tc)).size ≤ 86 := app_size _ _ 82 4 s2 s6
    go_wp2_with fail
    refine (KN _).mono ?_
    rintro e wz ⟨rfl, rfl⟩
    go_wp2
    go_ret
    exact ⟨rfl, HBl.out x2⟩
  rw [if_neg (show ¬ so = -1 by omega)]
  have e1 : (so == -1) = false := by simp; omega
  have s3 : ((⟨#[47]⟩ : ByteArray) ++ ts).size ≤ 22 := app_size _ _ 1 21 (Nat.le_refl 1) z3
  clear hso
  rcases z4 with rfl | ⟨cn, z4⟩
  · rw [if_pos rfl]
    clear KN
    go_enter Tryz.func13, Tryz.ntmps13
    go_wp2_with fail
    rw [← HW0.out]
    refine (KO ⟨W0, Below.refl _ _⟩).mono ?_
    rintro e w1 ⟨rfl, hb⟩
    obtain ⟨x1, rfl⟩ := Later.of hb
    clear hb
    go_wp2_with fail
    refine wp_region_later (W := W0) x1.below (by kernel_rfl) (by kernel_rfl) ?_
    repeat (go_big_quiet_step (first | (go_at_call 9; exact calls_later (KW _)) | (go_at_call 28; exact calls_later (KD _)) | fail))
    refine wpQuiet_nil ?_
    intro _ hw'
    obtain ⟨x2, rfl⟩ := hw'
    clear KO KW KD
    have s4 : ((tw ++ (⟨#[32]⟩ : ByteArray) ++ ty) ++ ((⟨#[47]⟩ : ByteArray) ++ ts)).size ≤ 104 := app_size _ _ 82 22 s2 s3
    go_wp2_with fail
    refine (KQ x2).mono ?_
    rintro e wz ⟨rfl, hb⟩
    obtain ⟨x3, rfl⟩ := x2.next hb
    clear hb
    go_wp2
    go_ret
    exact ⟨rfl, HBl.out x3⟩
  rw [if_neg cn]
  have e2 : (ca == -1) = false := by simpa using cn
  go_enter Tryz.func13, Tryz.ntmps13
  go_wp2_with fail
  rw [← HW0.out]
  refine (KO ⟨W0, Below.refl _ _⟩).mono ?_
  rintro e w1 ⟨rfl, hb⟩
  obtain ⟨x1, rfl⟩ := Later.of hb
  clear hb
  go_wp2_with fail
  refine wp_region_later (W := W0) x1.below (by kernel_rfl) (by kernel_rfl) ?_
  repeat (go_big_quiet_step (first | (go_at_call 9; exact calls_later (KW _)) | (go_at_call 28; exact calls_later (KD _)) | fail))
  refine wpQuiet_nil ?_
  intro _ hw'
  obtain ⟨x2, rfl⟩ := hw'
  clear KO KW KD
  have s4 : ((tw ++ (⟨#[32]⟩ : ByteArray) ++ ty) ++ ((⟨#[47]⟩ : ByteArray) ++ ts)).size ≤ 104 := app_size _ _ 82 22 s2 s3
  have s6 : ((⟨#[32]⟩ : ByteArray) ++ tc).size ≤ 4 := app_size _ _ 1 3 (Nat.le_refl 1) z4
  have s7 : ((tw ++ (⟨#[32]⟩ : ByteArray) ++ ty) ++ ((⟨#[47]⟩ : ByteArray) ++ ts) ++ ((⟨#[32]⟩ : ByteArray) ++ tc)).size ≤ 108 := app_size _ _ 104 4 s4 s6
  go_wp2_with fail
  refine (KQ x2).mono ?_
  rintro e wz ⟨rfl, hb⟩
  obtain ⟨x3, rfl⟩ := x2.next hb
  clear hb
  go_wp2_with fail
  refine (KN _).mono ?_
  rintro e wz ⟨rfl, rfl⟩
  go_wp2
  go_ret
  exact ⟨rfl, HBl.out x3⟩

set_option maxRecDepth 100000 in
set_option maxHeartbeats 8000000 in
theorem specSayingText (s : Say) (w : World) : Calls Tryz.prog 11 #[sayV s] w fun e w' => e = .returned (.string (sayTx s)) ∧ Below w.heap.size w w' := by
  obtain ⟨⟨k, m, d, ⟨a, b, c, t⟩, f, p⟩, y, so, ca⟩ := s
  obtain ⟨W0, hW0, hC, hBl⟩ := box_any w #[.int .i64 k, .int .i64 m, .int .i64 d, .int .i64 a, .int .i64 b, .int .i64 c, .bool t, .string f, .int .i64 p, .int .i64 y, .int .i64 so, .int .i64 ca] 38
  have c0 : ∀ x : Later W0, x.w.cell? ⟨w.heap.size, 0, none⟩ = some (.int .i64 k) := fun x => (hC x).cell 0 rfl
  have c1 : ∀ x : Later W0, x.w.cell? ⟨w.heap.size, 1, none⟩ = some (.int .i64 m) := fun x => (hC x).cell 1 rfl
  have c2 : ∀ x : Later W0, x.w.cell? ⟨w.heap.size, 2, none⟩ = some (.int .i64 d) := fun x => (hC x).cell 2 rfl
  have c3 : ∀ x : Later W0, x.w.cell? ⟨w.heap.size, 3, none⟩ = some (.int .i64 a) := fun x => (hC x).cell 3 rfl
  have c4 : ∀ x : Later W0, x.w.cell? ⟨w.heap.size, 4, none⟩ = some (.int .i64 b) := fun x => (hC x).cell 4 rfl
  have c5 : ∀ x : Later W0, x.w.cell? ⟨w.heap.size, 5, none⟩ = some (.int .i64 c) := fun x => (hC x).cell 5 rfl
  have c6 : ∀ x : Later W0, x.w.cell? ⟨w.heap.size, 6, none⟩ = some (.bool t) := fun x => (hC x).cell 6 rfl
  have c7 : ∀ x : Later W0, x.w.cell? ⟨w.heap.size, 7, none⟩ = some (.string f) := fun x => (hC x).cell 7 rfl
  have c8 : ∀ x : Later W0, x.w.cell? ⟨w.heap.size, 8, none⟩ = some (.int .i64 p) := fun x => (hC x).cell 8 rfl
  have c9 : ∀ x : Later W0, x.w.cell? ⟨w.heap.size, 9, none⟩ = some (.int .i64 y) := fun x => (hC x).cell 9 rfl
  have c10 : ∀ x : Later W0, x.w.cell? ⟨w.heap.size, 10, none⟩ = some (.int .i64 so) := fun x => (hC x).cell 10 rfl
  have c11 : ∀ x : Later W0, x.w.cell? ⟨w.heap.size, 11, none⟩ = some (.int .i64 ca) := fun x => (hC x).cell 11 rfl
  have HW0 := hideP hW0
  have HBl := hideP hBl
  have KO : ∀ x : Later W0, Calls Tryz.prog 25 #[.agg #[.int .i64 k, .int .i64 m, .int .i64 d, .int .i64 a, .int .i64 b, .int .i64 c, .bool t, .string f, .int .i64 p, .int .i64 y, .int .i64 so, .int .i64 ca]] x.w fun e w' => e = .returned (.bool (sayB ⟨⟨k, m, d, ⟨a, b, c, t⟩, f, p⟩, y, so, ca⟩)) ∧ Below x.w.heap.size x.w w' := fun x => specSayingOk ⟨⟨k, m, d, ⟨a, b, c, t⟩, f, p⟩, y, so, ca⟩ x.w
  have KW : ∀ x : Later W0, Calls Tryz.prog 7 #[.agg #[.int .i64 k, .int .i64 m, .int .i64 d, .int .i64 a, .int .i64 b, .int .i64 c, .bool t, .string f, .int .i64 p]] x.w fun e w' => e = .returned (.string (whnTx ⟨k, m, d, ⟨a, b, c, t⟩, f, p⟩)) ∧ Below x.w.heap.size x.w w' := fun x => specWhenText ⟨k, m, d, ⟨a, b, c, t⟩, f, p⟩ x.w
  cases hB : sayB ⟨⟨k, m, d, ⟨a, b, c, t⟩, f, p⟩, y, so, ca⟩
  · rw [sayTx_no hB]
    rw [hB] at KO
    clear hW0 hC hBl hB
    go_enter Tryz.func11, Tryz.ntmps11
    go_wp2_with fail
    rw [← HW0.out]
    refine (KO ⟨W0, Below.refl _ _⟩).mono ?_
    rintro e w1 ⟨rfl, hb⟩
    obtain ⟨x1, rfl⟩ := Later.of hb
    clear hb
    go_wp2
    go_ret
    exact ⟨rfl, HBl.out x1⟩
  rw [sayTx_yes hB]
  rw [hB] at KO
  obtain ⟨y1, y2, hso, hca⟩ := say_parts hB
  have KD : ∀ x : Later W0, Calls Tryz.prog 18 #[.int .i64 y] x.w fun e w' => e = .returned (.string (decT y)) ∧ Below x.w.heap.size x.w w' := fun x => (specDecText y x.w (by omega) (by omega)).mono fun _ _ h => ⟨h.1, by rw [h.2]; exact Below.refl _ _⟩
  have KQ : ∀ x : Later W0, Calls Tryz.prog 18 #[.int .i64 so] x.w fun e w' => e = .returned (.string (decT so)) ∧ Below x.w.heap.size x.w w' := fun x => (specDecText so x.w (by omega) (by omega)).mono fun _ _ h => ⟨h.1, by rw [h.2]; exact Below.refl _ _⟩
  have KN : ∀ W, Calls Tryz.prog 26 #[.int .i64 ca] W fun e w' => e = .returned (.string (calText ca)) ∧ w' = W := fun W => specCalName ca W
  have z1 := whnTx_size ⟨k, m, d, ⟨a, b, c, t⟩, f, p⟩
  have z2 := decT_small (n := y) (by omega) (by omega)
  have z3 := decT_small (n := so) (by omega) (by omega)
  have z4 : ca = -1 ∨ (ca ≠ -1 ∧ (calText ca).size ≤ 3) := by rcases hca with h | h; exact .inl h; exact .inr ⟨by omega, cal_size h⟩
  clear hW0 hC hBl hB y1 y2 hca
  simp only []
  simp only [← ByteArray.append_assoc]
  generalize whnTx ⟨k, m, d, ⟨a, b, c, t⟩, f, p⟩ = tw at *
  generalize decT y = ty at *
  generalize decT so = ts at *
  generalize calText ca = tc at *
  have s1 : (tw ++ (⟨#[32]⟩ : ByteArray)).size ≤ 61 := app_size _ _ 60 1 z1 (Nat.le_refl 1)
  have s2 : (tw ++ (⟨#[32]⟩ : ByteArray) ++ ty).size ≤ 82 := app_size _ _ 61 21 s1 z2
  rcases hso with rfl | hso
  · rw [if_pos rfl]
    rcases z4 with rfl | ⟨cn, z4⟩
    · rw [if_pos rfl]
      clear KN KQ
      go_enter Tryz.func11, Tryz.ntmps11
      go_wp2_with fail
      rw [← HW0.out]
      refine (KO ⟨W0, Below.refl _ _⟩).mono ?_
      rintro e w1 ⟨rfl, hb⟩
      obtain ⟨x1, rfl⟩ := Later.of hb
      clear hb
      go_wp2_with fail
      refine wp_region_later (W := W0) x1.below (by kernel_rfl) (by kernel_rfl) ?_
      repeat (go_big_quiet_step (first | (go_at_call 7; exact calls_later (KW _)) | (go_at_call 18; exact calls_later (KD _)) | fail))
      refine wpQuiet_nil ?_
      intro _ hw'
      obtain ⟨x2, rfl⟩ := hw'
      clear KO KW KD
      go_wp2
      go_ret
      exact ⟨rfl, HBl.out x2⟩
    rw [if_neg cn]
    have e2 : (ca == -1) = false := by simpa using cn
    go_enter Tryz.func11, Tryz.ntmps11
    go_wp2_with fail
    rw [← HW0.out]
    refine (KO ⟨W0, Below.refl _ _⟩).mono ?_
    rintro e w1 ⟨rfl, hb⟩
    obtain ⟨x1, rfl⟩ := Later.of hb
    clear hb
    go_wp2_with fail
    refine wp_region_later (W := W0) x1.below (by kernel_rfl) (by kernel_rfl) ?_
    repeat (go_big_quiet_step (first | (go_at_call 7; exact calls_later (KW _)) | (go_at_call 18; exact calls_later (KD _)) | fail))
    refine wpQuiet_nil ?_
    intro _ hw'
    obtain ⟨x2, rfl⟩ := hw'
    clear KO KW KD
    have s6 : ((tw ++ (⟨#[32]⟩ : ByteArray) ++ ty) ++ (⟨#[32]⟩ : ByteArray)).size ≤ 83 := app_size _ _ 82 1 s2 (Nat.le_refl 1)
    have s7 : ((tw ++ (⟨#[32]⟩ : ByteArray) ++ ty) ++ (⟨#[32]⟩ : ByteArray) ++ tc).size ≤ 86 := app_size _ _ 83 3 s6 z4
    go_wp2_with fail
    refine (KN _).mono ?_
    rintro e wz ⟨rfl, rfl⟩
    go_wp2
    go_ret
    exact ⟨rfl, HBl.out x2⟩
  rw [if_neg (show ¬ so = -1 by omega)]
  have e1 : (so == -1) = false := by simp; omega
  have s3 : ((⟨#[47]⟩ : ByteArray) ++ ts).size ≤ 22 := app_size _ _ 1 21 (Nat.le_refl 1) z3
  clear hso
  rcases z4 with rfl | ⟨cn, z4⟩
  · rw [if_pos rfl]
    clear KN
    go_enter Tryz.func11, Tryz.ntmps11
    go_wp2_with fail
    rw [← HW0.out]
    refine (KO ⟨W0, Below.refl _ _⟩).mono ?_
    rintro e w1 ⟨rfl, hb⟩
    obtain ⟨x1, rfl⟩ := Later.of hb
    clear hb
    go_wp2_with fail
    refine wp_region_later (W := W0) x1.below (by kernel_rfl) (by kernel_rfl) ?_
    repeat (go_big_quiet_step (first | (go_at_call 7; exact calls_later (KW _)) | (go_at_call 18; exact calls_later (KD _)) | fail))
    refine wpQuiet_nil ?_
    intro _ hw'
    obtain ⟨x2, rfl⟩ := hw'
    clear KO KW KD
    have s4 : ((tw ++ (⟨#[32]⟩ : ByteArray) ++ ty) ++ (⟨#[47]⟩ : ByteArray)).size ≤ 83 := app_size _ _ 82 1 s2 (Nat.le_refl 1)
    have s5 : ((tw ++ (⟨#[32]⟩ : ByteArray) ++ ty) ++ (⟨#[47]⟩ : ByteArray) ++ ts).size ≤ 104 := app_size _ _ 83 21 s4 z3
    go_wp2_with fail
    refine (KQ x2).mono ?_
    rintro e wz ⟨rfl, hb⟩
    obtain ⟨x3, rfl⟩ := x2.next hb
    clear hb
    go_wp2
    go_ret
    exact ⟨rfl, HBl.out x3⟩
  rw [if_neg cn]
  have e2 : (ca == -1) = false := by simpa using cn
  go_enter Tryz.func11, Tryz.ntmps11
  go_wp2_with fail
  rw [← HW0.out]
  refine (KO ⟨W0, Below.refl _ _⟩).mono ?_
  rintro e w1 ⟨rfl, hb⟩
  obtain ⟨x1, rfl⟩ := Later.of hb
  clear hb
  go_wp2_with fail
  refine wp_region_later (W := W0) x1.below (by kernel_rfl) (by kernel_rfl) ?_
  repeat (go_big_quiet_step (first | (go_at_call 7; exact calls_later (KW _)) | (go_at_call 18; exact calls_later (KD _)) | fail))
  refine wpQuiet_nil ?_
  intro _ hw'
  obtain ⟨x2, rfl⟩ := hw'
  clear KO KW KD
  have s4 : ((tw ++ (⟨#[32]⟩ : ByteArray) ++ ty) ++ (⟨#[47]⟩ : ByteArray)).size ≤ 83 := app_size _ _ 82 1 s2 (Nat.le_refl 1)
  have s5 : ((tw ++ (⟨#[32]⟩ : ByteArray) ++ ty) ++ (⟨#[47]⟩ : ByteArray) ++ ts).size ≤ 104 := app_size _ _ 83 21 s4 z3
  have s6 : ((tw ++ (⟨#[32]⟩ : ByteArray) ++ ty) ++ (⟨#[47]⟩ : ByteArray) ++ ts ++ (⟨#[32]⟩ : ByteArray)).size ≤ 105 := app_size _ _ 104 1 s5 (Nat.le_refl 1)
  have s7 : ((tw ++ (⟨#[32]⟩ : ByteArray) ++ ty) ++ (⟨#[47]⟩ : ByteArray) ++ ts ++ (⟨#[32]⟩ : ByteArray) ++ tc).size ≤ 108 := app_size _ _ 105 3 s6 z4
  go_wp2_with fail
  refine (KQ x2).mono ?_
  rintro e wz ⟨rfl, hb⟩
  obtain ⟨x3, rfl⟩ := x2.next hb
  clear hb
  go_wp2_with fail
  refine (KN _).mono ?_
  rintro e wz ⟨rfl, rfl⟩
  go_wp2
  go_ret
  exact ⟨rfl, HBl.out x3⟩
end Go.Proofs.YtoofnjccpoeomaaGreatDoor.ctr
