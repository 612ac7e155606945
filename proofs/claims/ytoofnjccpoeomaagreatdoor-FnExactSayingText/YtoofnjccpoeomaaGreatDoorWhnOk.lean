/- Contracts of both WhenOk: the same plain function. -/
import Derived.Test.YtoofnjccpoeomaaGreatDoorWhnKnd
namespace Go.Proofs.YtoofnjccpoeomaaGreatDoor.ctr
open Go.RowKit

theorem toList_nil {f : ByteArray} (h : f.toList = []) : f = ⟨#[]⟩ := by
  rw [ByteArray.toList_eq] at h
  cases f with | mk d => cases d with | mk l => simp at h; rw [h]
def whnB (s : Whn) : Bool :=
  if s.kind = 0 then decide (s.rom.count = 0 ∧ s.rom.mark = 0 ∧ s.rom.month = 0 ∧ s.rom.twice = false ∧ s.feast.toList = [] ∧ s.plus = 0) && decide (1 ≤ s.mon ∧ s.mon ≤ 12 ∧ 1 ≤ s.day ∧ s.day ≤ 31)
  else if s.kind = 1 then decide (s.mon = 0 ∧ s.day = 0 ∧ s.feast.toList = [] ∧ s.plus = 0) && romB s.rom
  else if s.kind = 2 then decide (s.mon = 0 ∧ s.day = 0 ∧ s.rom.count = 0 ∧ s.rom.mark = 0 ∧ s.rom.month = 0 ∧ s.rom.twice = false) && (decide (0 ≤ findFeast s.feast) && (decide (0 ≤ s.plus) && decide (s.plus ≤ 99)))
  else false

set_option maxHeartbeats 2000000 in
theorem okDay (m d : Int) (w : World)  : Calls Tryz.prog 22 #[.agg #[.int .i64 0, .int .i64 m, .int .i64 d, .int .i64 0, .int .i64 0, .int .i64 0, .bool false, .string ⟨#[]⟩, .int .i64 0]] w fun e w' => e = .returned (.bool (decide (1 ≤ m ∧ m ≤ 12 ∧ 1 ≤ d ∧ d ≤ 31))) ∧ Below w.heap.size w w' := by
  have KK : ∀ W, Calls Tryz.prog 24 #[.agg #[.int .i64 0, .int .i64 m, .int .i64 d, .int .i64 0, .int .i64 0, .int .i64 0, .bool false, .string ⟨#[]⟩, .int .i64 0]] W fun e w' => e = .returned (.iface 72 (.agg #[.int .i64 m, .int .i64 d])) ∧ Below W.heap.size W w' := fun W => kindDay m d W
  have KR : ∀ W, Below w.heap.size w W → Calls Tryz.prog 166 #[.agg #[.int .i64 m, .int .i64 d]] W fun e w' => e = .returned (.bool (decide (1 ≤ m ∧ m ≤ 12 ∧ 1 ≤ d ∧ d ≤ 31))) ∧ Below W.heap.size W w' := fun W _ => implDayRight m d W
  generalize decide (1 ≤ m ∧ m ≤ 12 ∧ 1 ≤ d ∧ d ≤ 31) = B at *
  go_enter Tryz.func22, Tryz.ntmps22
  go_wp2_with fail
  refine (KK _).mono ?_
  rintro e w1 ⟨rfl, hb⟩
  have B0 : Below w.heap.size w (w.alloc (.cells #[.int .i64 0, .int .i64 m, .int .i64 d, .int .i64 0, .int .i64 0, .int .i64 0, .bool false, .string ⟨#[]⟩, .int .i64 0] 30)) := (Below.refl _ _).alloc (Nat.le_refl _) _
  have B1 : Below w.heap.size w w1 := B0.trans (hb.mono B0.size)
  clear hb B0
  go_wp2_with fail
  refine (KR _ B1).mono ?_
  rintro e w2 ⟨rfl, hb⟩
  have B2 : Below w.heap.size w w2 := B1.trans (hb.mono B1.size)
  clear hb
  go_wp2
  go_ret
  exact ⟨rfl, B2⟩

set_option maxHeartbeats 2000000 in
theorem okRom (a b c : Int) (t : Bool) (w : World) (hT : Tab w) : Calls Tryz.prog 22 #[.agg #[.int .i64 1, .int .i64 0, .int .i64 0, .int .i64 a, .int .i64 b, .int .i64 c, .bool t, .string ⟨#[]⟩, .int .i64 0]] w fun e w' => e = .returned (.bool (romB ⟨a, b, c, t⟩)) ∧ Below w.heap.size w w' := by
  have KK : ∀ W, Calls Tryz.prog 24 #[.agg #[.int .i64 1, .int .i64 0, .int .i64 0, .int .i64 a, .int .i64 b, .int .i64 c, .bool t, .string ⟨#[]⟩, .int .i64 0]] W fun e w' => e = .returned (.iface 75 (.agg #[.int .i64 a, .int .i64 b, .int .i64 c, .bool t])) ∧ Below W.heap.size W w' := fun W => kindRom a b c t W
  have KR : ∀ W, Below w.heap.size w W → Calls Tryz.prog 168 #[.agg #[.int .i64 a, .int .i64 b, .int .i64 c, .bool t]] W fun e w' => e = .returned (.bool (romB ⟨a, b, c, t⟩)) ∧ Below W.heap.size W w' := fun W hb => implRomRight a b c t W (hT.later hb)
  generalize romB ⟨a, b, c, t⟩ = B at *
  clear hT
  go_enter Tryz.func22, Tryz.ntmps22
  go_wp2_with fail
  refine (KK _).mono ?_
  rintro e w1 ⟨rfl, hb⟩
  have B0 : Below w.heap.size w (w.alloc (.cells #[.int .i64 1, .int .i64 0, .int .i64 0, .int .i64 a, .int .i64 b, .int .i64 c, .bool t, .string ⟨#[]⟩, .int .i64 0] 30)) := (Below.refl _ _).alloc (Nat.le_refl _) _
  have B1 : Below w.heap.size w w1 := B0.trans (hb.mono B0.size)
  clear hb B0
  go_wp2_with fail
  refine (KR _ B1).mono ?_
  rintro e w2 ⟨rfl, hb⟩
  have B2 : Below w.heap.size w w2 := B1.trans (hb.mono B1.size)
  clear hb
  go_wp2
  go_ret
  exact ⟨rfl, B2⟩

set_option maxHeartbeats 2000000 in
theorem okFea (f : ByteArray) (p : Int) (w : World) (hT : Tab w) : Calls Tryz.prog 22 #[.agg #[.int .i64 2, .int .i64 0, .int .i64 0, .int .i64 0, .int .i64 0, .int .i64 0, .bool false, .string f, .int .i64 p]] w fun e w' => e = .returned (.bool (decide (0 ≤ findFeast f) && (decide (0 ≤ p) && decide (p ≤ 99)))) ∧ Below w.heap.size w w' := by
  have KK : ∀ W, Calls Tryz.prog 24 #[.agg #[.int .i64 2, .int .i64 0, .int .i64 0, .int .i64 0, .int .i64 0, .int .i64 0, .bool false, .string f, .int .i64 p]] W fun e w' => e = .returned (.iface 80 (.agg #[.string (feaOf f).name, .bool (feaOf f).mv, .int .i64 (feaOf f).off, .int .i64 (feaOf f).m, .int .i64 (feaOf f).d, .int .i64 p])) ∧ Below W.heap.size W w' := fun W => kindFea f p W
  have KR : ∀ W, Below w.heap.size w W → Calls Tryz.prog 172 #[.agg #[.string (feaOf f).name, .bool (feaOf f).mv, .int .i64 (feaOf f).off, .int .i64 (feaOf f).m, .int .i64 (feaOf f).d, .int .i64 p]] W fun e w' => e = .returned (.bool (decide (0 ≤ findFeast f) && (decide (0 ≤ p) && decide (p ≤ 99)))) ∧ Below W.heap.size W w' := fun W hb => by rw [← feaOf_ok]; exact implFeaRight _ _ _ _ _ p W (Nat.le_trans (feaOf_len f) (by decide)) (hT.later hb)
  generalize (decide (0 ≤ findFeast f) && (decide (0 ≤ p) && decide (p ≤ 99))) = B at *
  generalize feaOf f = g at *
  clear hT
  go_enter Tryz.func22, Tryz.ntmps22
  go_wp2_with fail
  refine (KK _).mono ?_
  rintro e w1 ⟨rfl, hb⟩
  have B0 : Below w.heap.size w (w.alloc (.cells #[.int .i64 2, .int .i64 0, .int .i64 0, .int .i64 0, .int .i64 0, .int .i64 0, .bool false, .string f, .int .i64 p] 30)) := (Below.refl _ _).alloc (Nat.le_refl _) _
  have B1 : Below w.heap.size w w1 := B0.trans (hb.mono B0.size)
  clear hb B0
  go_wp2_with fail
  refine (KR _ B1).mono ?_
  rintro e w2 ⟨rfl, hb⟩
  have B2 : Below w.heap.size w w2 := B1.trans (hb.mono B1.size)
  clear hb
  go_wp2
  go_ret
  exact ⟨rfl, B2⟩

set_option maxHeartbeats 2000000 in
theorem okNo (k m d a b c : Int) (t : Bool) (f : ByteArray) (p : Int) (w : World) (h0 : k ≠ 0) (h1 : k ≠ 1) (h2 : k ≠ 2) : Calls Tryz.prog 22 #[.agg #[.int .i64 k, .int .i64 m, .int .i64 d, .int .i64 a, .int .i64 b, .int .i64 c, .bool t, .string f, .int .i64 p]] w fun e w' => e = .returned (.bool (false)) ∧ Below w.heap.size w w' := by
  have KK : ∀ W, Calls Tryz.prog 24 #[.agg #[.int .i64 k, .int .i64 m, .int .i64 d, .int .i64 a, .int .i64 b, .int .i64 c, .bool t, .string f, .int .i64 p]] W fun e w' => e = .returned (.nilIface) ∧ Below W.heap.size W w' := fun W => kindNo k m d a b c t f p W h0 h1 h2
  go_enter Tryz.func22, Tryz.ntmps22
  go_wp2_with fail
  refine (KK _).mono ?_
  rintro e w1 ⟨rfl, hb⟩
  have B0 : Below w.heap.size w (w.alloc (.cells #[.int .i64 k, .int .i64 m, .int .i64 d, .int .i64 a, .int .i64 b, .int .i64 c, .bool t, .string f, .int .i64 p] 30)) := (Below.refl _ _).alloc (Nat.le_refl _) _
  have B1 : Below w.heap.size w w1 := B0.trans (hb.mono B0.size)
  clear hb B0
  go_wp2
  go_ret
  exact ⟨rfl, B1⟩

set_option maxHeartbeats 2000000 in
theorem okNo0 (m d a b c : Int) (t : Bool) (f : ByteArray) (p : Int) (w : World) (h : ¬ (a = 0 ∧ b = 0 ∧ c = 0 ∧ t = false ∧ f.toList = [] ∧ p = 0)) : Calls Tryz.prog 22 #[.agg #[.int .i64 0, .int .i64 m, .int .i64 d, .int .i64 a, .int .i64 b, .int .i64 c, .bool t, .string f, .int .i64 p]] w fun e w' => e = .returned (.bool (false)) ∧ Below w.heap.size w w' := by
  have KK : ∀ W, Calls Tryz.prog 24 #[.agg #[.int .i64 0, .int .i64 m, .int .i64 d, .int .i64 a, .int .i64 b, .int .i64 c, .bool t, .string f, .int .i64 p]] W fun e w' => e = .returned (.nilIface) ∧ Below W.heap.size W w' := fun W => kindNo0 m d a b c t f p W h
  go_enter Tryz.func22, Tryz.ntmps22
  go_wp2_with fail
  refine (KK _).mono ?_
  rintro e w1 ⟨rfl, hb⟩
  have B0 : Below w.heap.size w (w.alloc (.cells #[.int .i64 0, .int .i64 m, .int .i64 d, .int .i64 a, .int .i64 b, .int .i64 c, .bool t, .string f, .int .i64 p] 30)) := (Below.refl _ _).alloc (Nat.le_refl _) _
  have B1 : Below w.heap.size w w1 := B0.trans (hb.mono B0.size)
  clear hb B0
  go_wp2
  go_ret
  exact ⟨rfl, B1⟩

set_option maxHeartbeats 2000000 in
theorem okNo1 (m d a b c : Int) (t : Bool) (f : ByteArray) (p : Int) (w : World) (h : ¬ (m = 0 ∧ d = 0 ∧ f.toList = [] ∧ p = 0)) : Calls Tryz.prog 22 #[.agg #[.int .i64 1, .int .i64 m, .int .i64 d, .int .i64 a, .int .i64 b, .int .i64 c, .bool t, .string f, .int .i64 p]] w fun e w' => e = .returned (.bool (false)) ∧ Below w.heap.size w w' := by
  have KK : ∀ W, Calls Tryz.prog 24 #[.agg #[.int .i64 1, .int .i64 m, .int .i64 d, .int .i64 a, .int .i64 b, .int .i64 c, .bool t, .string f, .int .i64 p]] W fun e w' => e = .returned (.nilIface) ∧ Below W.heap.size W w' := fun W => kindNo1 m d a b c t f p W h
  go_enter Tryz.func22, Tryz.ntmps22
  go_wp2_with fail
  refine (KK _).mono ?_
  rintro e w1 ⟨rfl, hb⟩
  have B0 : Below w.heap.size w (w.alloc (.cells #[.int .i64 1, .int .i64 m, .int .i64 d, .int .i64 a, .int .i64 b, .int .i64 c, .bool t, .string f, .int .i64 p] 30)) := (Below.refl _ _).alloc (Nat.le_refl _) _
  have B1 : Below w.heap.size w w1 := B0.trans (hb.mono B0.size)
  clear hb B0
  go_wp2
  go_ret
  exact ⟨rfl, B1⟩

set_option maxHeartbeats 2000000 in
theorem okNo2 (m d a b c : Int) (t : Bool) (f : ByteArray) (p : Int) (w : World) (h : ¬ (m = 0 ∧ d = 0 ∧ a = 0 ∧ b = 0 ∧ c = 0 ∧ t = false)) : Calls Tryz.prog 22 #[.agg #[.int .i64 2, .int .i64 m, .int .i64 d, .int .i64 a, .int .i64 b, .int .i64 c, .bool t, .string f, .int .i64 p]] w fun e w' => e = .returned (.bool (false)) ∧ Below w.heap.size w w' := by
  have KK : ∀ W, Calls Tryz.prog 24 #[.agg #[.int .i64 2, .int .i64 m, .int .i64 d, .int .i64 a, .int .i64 b, .int .i64 c, .bool t, .string f, .int .i64 p]] W fun e w' => e = .returned (.nilIface) ∧ Below W.heap.size W w' := fun W => kindNo2 m d a b c t f p W h
  go_enter Tryz.func22, Tryz.ntmps22
  go_wp2_with fail
  refine (KK _).mono ?_
  rintro e w1 ⟨rfl, hb⟩
  have B0 : Below w.heap.size w (w.alloc (.cells #[.int .i64 2, .int .i64 m, .int .i64 d, .int .i64 a, .int .i64 b, .int .i64 c, .bool t, .string f, .int .i64 p] 30)) := (Below.refl _ _).alloc (Nat.le_refl _) _
  have B1 : Below w.heap.size w w1 := B0.trans (hb.mono B0.size)
  clear hb B0
  go_wp2
  go_ret
  exact ⟨rfl, B1⟩

theorem implWhenOk (s : Whn) (w : World) (hT : Tab w) : Calls Tryz.prog 22 #[whnV s] w fun e w' => e = .returned (.bool (whnB s)) ∧ Below w.heap.size w w' := by
  obtain ⟨k, m, d, ⟨a, b, c, t⟩, f, p⟩ := s
  by_cases h0 : k = 0
  · subst h0
    by_cases h : a = 0 ∧ b = 0 ∧ c = 0 ∧ t = false ∧ f.toList = [] ∧ p = 0
    · obtain ⟨rfl, rfl, rfl, rfl, h5, rfl⟩ := h
      obtain rfl := toList_nil h5
      have K := okDay m d w
      rw [show whnB ⟨0, m, d, ⟨0, 0, 0, false⟩, ⟨#[]⟩, 0⟩ = decide (1 ≤ m ∧ m ≤ 12 ∧ 1 ≤ d ∧ d ≤ 31) by unfold whnB; rw [if_pos rfl, decide_eq_true ⟨rfl, rfl, rfl, rfl, h5, rfl⟩, Bool.true_and]]
      exact K
    · rw [show whnB ⟨0, m, d, ⟨a, b, c, t⟩, f, p⟩ = false by unfold whnB; rw [if_pos rfl, decide_eq_false h, Bool.false_and]]
      exact okNo0 m d a b c t f p w h
  by_cases h1 : k = 1
  · subst h1
    by_cases h : m = 0 ∧ d = 0 ∧ f.toList = [] ∧ p = 0
    · obtain ⟨rfl, rfl, h5, rfl⟩ := h
      obtain rfl := toList_nil h5
      rw [show whnB ⟨1, 0, 0, ⟨a, b, c, t⟩, ⟨#[]⟩, 0⟩ = romB ⟨a, b, c, t⟩ by unfold whnB; rw [if_neg (show ¬ (1 : Int) = 0 by omega), if_pos rfl, decide_eq_true ⟨rfl, rfl, h5, rfl⟩, Bool.true_and]]
      exact okRom a b c t w hT
    · rw [show whnB ⟨1, m, d, ⟨a, b, c, t⟩, f, p⟩ = false by unfold whnB; rw [if_neg (show ¬ (1 : Int) = 0 by omega), if_pos rfl, decide_eq_false h, Bool.false_and]]
      exact okNo1 m d a b c t f p w h
  by_cases h2 : k = 2
  · subst h2
    by_cases h : m = 0 ∧ d = 0 ∧ a = 0 ∧ b = 0 ∧ c = 0 ∧ t = false
    · rw [show whnB ⟨2, m, d, ⟨a, b, c, t⟩, f, p⟩ = (decide (0 ≤ findFeast f) && (decide (0 ≤ p) && decide (p ≤ 99))) by unfold whnB; rw [if_neg (show ¬ (2 : Int) = 0 by omega), if_neg (show ¬ (2 : Int) = 1 by omega), if_pos rfl, decide_eq_true h, Bool.true_and]]
      obtain ⟨rfl, rfl, rfl, rfl, rfl, rfl⟩ := h
      exact okFea f p w hT
    · rw [show whnB ⟨2, m, d, ⟨a, b, c, t⟩, f, p⟩ = false by unfold whnB; rw [if_neg (show ¬ (2 : Int) = 0 by omega), if_neg (show ¬ (2 : Int) = 1 by omega), if_pos rfl, decide_eq_false h, Bool.false_and]]
      exact okNo2 m d a b c t f p w h
  rw [show whnB ⟨k, m, d, ⟨a, b, c, t⟩, f, p⟩ = false by unfold whnB; rw [if_neg h0, if_neg h1, if_neg h2]]
  exact okNo k m d a b c t f p w h0 h1 h2
end Go.Proofs.YtoofnjccpoeomaaGreatDoor.ctr
